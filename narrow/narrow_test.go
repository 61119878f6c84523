package narrow_test

import (
	"math"
	"math/big"
	"slices"
	"testing"

	"gridwork/api"
	"gridwork/narrow"
)

const (
	least     = 0x1p-149
	normal    = 0x1p-126 // the least narrow real that is not subnormal
	greatest  = 0x1p128 - 0x1p104
	tooGreat  = 0x1p128 - 0x1p103 // the least real that is narrowed to an infinity
	leastReal = 0x1p-1074
)

var (
	inf      = math.Inf(1)
	nan      = math.NaN()
	minus0   = math.Copysign(0, -1)
	loudNaN  = math.Float64frombits(0xfff0000000000001)
	inf32    = float32(inf)
	nan32    = float32(nan)
	minus032 = float32(minus0)
	loud32   = math.Float32frombits(0xff800001)
)

// alike is the document's 'the same', worked out without the packages that are tested.
func alike(a, b float64) bool {
	if math.IsNaN(a) || math.IsNaN(b) {
		return math.IsNaN(a) && math.IsNaN(b)
	}
	return math.Float64bits(a) == math.Float64bits(b)
}

func alikeNumbers(a, b complex128) bool {
	return alike(real(a), real(b)) && alike(imag(a), imag(b))
}

// alike32 is the chapter's 'the same' of narrow reals.
func alike32(a, b float32) bool {
	if a != a || b != b {
		return a != a && b != b
	}
	return math.Float32bits(a) == math.Float32bits(b)
}

func alikeNarrow(a, b complex64) bool {
	return alike32(real(a), real(b)) && alike32(imag(a), imag(b))
}

// beside is the real of float64 next to one, on the side of another.
func beside(x, side float64) float64 { return math.Nextafter(x, side) }

func finite(x float64) bool { return !math.IsNaN(x) && !math.IsInf(x, 0) }

// narrowed rounds to float32 by whole numbers, without the machine's conversion.
func narrowed(x float64) float32 {
	if math.IsNaN(x) {
		return nan32
	}
	got, _ := big.NewFloat(x).Float32()
	return got
}

// The five operations, each narrowed by itself. A float64 has over twice the bits of a narrow real: what it tells, narrowed, is what rounding once tells (TestTheStepsAreRoundedOnce).

func plus(a, b float32) float32  { return narrowed(float64(a) + float64(b)) }
func less(a, b float32) float32  { return narrowed(float64(a) - float64(b)) }
func times(a, b float32) float32 { return narrowed(float64(a) * float64(b)) }
func over(a, b float32) float32  { return narrowed(float64(a) / float64(b)) }
func root(a float32) float32     { return narrowed(math.Sqrt(float64(a))) }

// scatter gives bits, always the same ones.
func scatter(n int, seed uint64) []uint64 {
	var all []uint64
	for range n {
		seed ^= seed << 13
		seed ^= seed >> 7
		seed ^= seed << 17
		all = append(all, seed)
	}
	return all
}

// scatterNear gives finite reals of float64 whose powers of two lie from low to high, always the same ones.
func scatterNear(n int, seed uint64, low, high int) []float64 {
	var all []float64
	for _, bits := range scatter(n, seed) {
		power := low + int(bits>>52&0x7ff)%(high-low+1)
		fraction := 1 + float64(bits&(1<<52-1))*0x1p-52
		all = append(all, math.Copysign(math.Ldexp(fraction, power), math.Float64frombits(bits)))
	}
	return all
}

// ties gives reals that lie just in the middle of two narrow reals, and the reals next to them, above 0.
func ties() []float64 {
	middles := []float64{0x1p-150, 3 * 0x1p-150, 5 * 0x1p-150, normal - 0x1p-150, normal + 0x1p-150, normal - 3*0x1p-150, tooGreat, tooGreat - 0x1p104}
	for power := -149; power < 128; power += 7 {
		step := math.Ldexp(1, max(power-23, -149))
		for _, n := range []float64{0.5, 1.5, 2.5} {
			middles = append(middles, math.Ldexp(1, power)+n*step)
		}
	}
	var all []float64
	for _, x := range middles {
		all = append(all, beside(x, 0), x, beside(x, inf))
	}
	return all
}

// reals are the reals of float64 at which something begins or ends, ties, and others of all sizes, each with both signs; no NaN.
func reals() []float64 {
	sizes := append(ties(), 0, leastReal, 0x1p-1022, 0x1p-151, least, 2*least, 3*least, normal, normal-least, beside(normal, 0),
		0.1, 0.5, 1, 2, 3, greatest, beside(greatest, inf), 0x1p127, 0x1p128, beside(0x1p128, inf), 0x1p129, 0x1p1023, math.MaxFloat64, inf)
	sizes = append(sizes, scatterNear(300, 1, -155, 130)...)
	sizes = append(sizes, scatterNear(40, 2, -1000, 1000)...)
	sizes = append(sizes, scatterNear(80, 3, 125, 128)...)
	var all []float64
	for _, x := range sizes {
		all = append(all, x, -x)
	}
	return all
}

// narrowReals go over all bits of narrow reals by a step that meets all powers of two, with those at which something begins or ends.
func narrowReals(do func(x float32)) {
	for _, x := range []float32{least, 2 * least, normal - least, normal, normal + least, 1, greatest, greatest - 0x1p104, inf32, nan32, loud32, 0} {
		do(x)
		do(-x)
	}
	for u := uint64(0); u < 1<<32; u += 9973 {
		do(math.Float32frombits(uint32(u)))
	}
}

// edges are all narrow numbers whose parts are narrow reals at which something begins or ends, NaN among them.
func edges() []complex64 {
	sides := []float32{nan32, loud32}
	for _, x := range []float32{0, least, normal, 0.1, 1, 3, 0x1p64, 0x1p127, greatest, inf32} {
		sides = append(sides, x, -x)
	}
	var all []complex64
	for _, re := range sides {
		for _, im := range sides {
			all = append(all, complex(re, im))
		}
	}
	return all
}

// near gives narrow numbers whose parts' powers of two lie from low to high.
func near(n int, seed uint64, low, high int) []complex64 {
	var all []complex64
	l := scatterNear(2*n, seed, low, high)
	for i := range n {
		all = append(all, complex(narrowed(l[2*i]), narrowed(l[2*i+1])))
	}
	return all
}

// narrows are the edges, numbers of all bits, such whose parts are near each other (there every rounding shows), and such whose steps leave the narrow reals' range above or below.
func narrows() []complex64 {
	all := edges()
	for _, u := range scatter(40, 4) {
		all = append(all, complex(math.Float32frombits(uint32(u>>32)), math.Float32frombits(uint32(u))))
	}
	all = append(all, near(120, 5, -1, 1)...)
	all = append(all, near(40, 6, -20, 20)...)
	all = append(all, near(30, 7, -149, -120)...)
	all = append(all, near(30, 8, -80, -60)...)
	all = append(all, near(30, 9, 60, 66)...)
	return append(all, near(30, 10, 124, 127)...)
}

func eachPair(do func(a, b complex64)) {
	all := narrows()
	for _, a := range all {
		for _, b := range all {
			do(a, b)
		}
	}
}

// wanted is a row of a table: what a call answered, and what it should.
type wanted struct {
	call      string
	got, want complex64
}

func look(t *testing.T, rows []wanted) {
	t.Helper()
	for _, c := range rows {
		if !alikeNarrow(c.got, c.want) {
			t.Errorf("%s: %v, want %v", c.call, c.got, c.want)
		}
	}
}

// The chapter's examples.

func TestExamplesOfTo(t *testing.T) {
	look(t, []wanted{
		{"To of (1, -0)", narrow.To(complex(1, minus0)), complex(1, minus032)},
		{"To of (2^-149, 2^-150)", narrow.To(complex(0x1p-149, 0x1p-150)), complex(least, 0)},
		{"To of (1.5 2^-149, 0)", narrow.To(complex(1.5*0x1p-149, 0)), complex(0x1p-148, 0)},
		{"To of (2^128, -2^128)", narrow.To(complex(0x1p128, -0x1p128)), complex(inf32, -inf32)},
		{"To of (2^128 - 2^103, 2^128 - 2^104)", narrow.To(complex(0x1p128-0x1p103, 0x1p128-0x1p104)), complex(inf32, greatest)},
		{"To of (1 + 2^-24, 1 + 3 2^-24)", narrow.To(complex(1+0x1p-24, 1+3*0x1p-24)), complex(1, 1+0x1p-22)},
	})
	if !narrow.Fits(complex(0.5, minus0)) || narrow.Fits(complex(0.1, 0)) || !narrow.Fits(complex(nan, inf)) {
		t.Error("Fits of (0.5, -0), of (0.1, 0), of (NaN, Inf)")
	}
	for _, c := range []struct {
		z, want complex128
		err     api.Errno
	}{
		{complex(1+0x1p-24, 0x1p-150), complex(0x1p-24, 0x1p-150), api.OK},
		{complex(0x1p128, 0), 0, api.ErrOver}, {complex(nan, 0), 0, api.ErrNumber},
	} {
		if got, err := narrow.Lost(c.z); !alikeNumbers(got, c.want) || err != c.err {
			t.Errorf("Lost(%v): %v %d, want %v %d", c.z, got, err, c.want, c.err)
		}
	}
	if got := narrow.Back(narrow.To(complex(0.1, 0))); got != complex(0.10000000149011612, 0) {
		t.Errorf("0.1, narrowed: %v", got)
	}
}

func TestExamplesOfReckoning(t *testing.T) {
	look(t, []wanted{
		{"Mul of (1, 2) and (3, 4)", narrow.Mul(complex(1, 2), complex(3, 4)), complex(-5, 10)},
		{"Div of (1, 2) and (3, 4)", narrow.Div(complex(1, 2), complex(3, 4)), complex(0.44, 0.08)},
		{"Mul of 2^100 and 2^100", narrow.Mul(0x1p100, 0x1p100), complex(inf32, 0)},
		{"Div of (1, 0) and (0, 0)", narrow.Div(1, 0), complex(nan32, nan32)},
		{"FromBits of 7fc00001 00000000", narrow.FromBits(0x7fc0000100000000), complex(nan32, 0)},
	})
	if got := narrow.Bits(complex(1, -2)); got != 0x3f800000c0000000 {
		t.Errorf("Bits of (1, -2): %x", got)
	}
	for _, c := range []struct {
		call      string
		got, want float32
	}{
		{"Abs of (3, -4)", narrow.Abs(complex(3, -4)), 5},
		{"Abs of (0, -0)", narrow.Abs(complex(0, minus032)), 0},
		{"Abs of (NaN, -Inf)", narrow.Abs(complex(nan32, -inf32)), inf32},
		{"Abs of (2^100, 2^100)", narrow.Abs(complex(0x1p100, 0x1p100)), 1.4142135 * 0x1p100},
		{"Next of 1 up", narrow.Next(1, true), 1 + 0x1p-23},
		{"Next of -0 up", narrow.Next(minus032, true), least},
		{"Next of 0 down", narrow.Next(0, false), -least},
		{"Next of the greatest up", narrow.Next(greatest, true), inf32},
	} {
		if !alike32(c.got, c.want) {
			t.Errorf("%s: %v, want %v", c.call, c.got, c.want)
		}
	}
}

// P3.1

func TestTo(t *testing.T) {
	for _, c := range []struct {
		x    float64
		want float32
	}{
		{0, 0}, {leastReal, 0}, {0x1p-151, 0}, {0x1p-150, 0}, {beside(0x1p-150, 1), least}, {least, least},
		{beside(1.5*0x1p-149, 0), least}, {1.5 * 0x1p-149, 2 * least}, {2.5 * 0x1p-149, 2 * least}, {beside(2.5*0x1p-149, 1), 3 * least},
		{normal - least, normal - least}, {normal - 0x1p-150, normal}, {beside(normal-0x1p-150, 0), normal - least}, {normal, normal},
		{1, 1}, {1 + 0x1p-24, 1}, {beside(1+0x1p-24, 2), 1 + 0x1p-23}, {beside(1+3*0x1p-24, 0), 1 + 0x1p-23}, {1 + 3*0x1p-24, 1 + 0x1p-22},
		{1 - 0x1p-25, 1}, {beside(1-0x1p-25, 0), 1 - 0x1p-24}, {0.1, 0.1}, {1e10, 1e10},
		{greatest, greatest}, {beside(greatest, inf), greatest}, {beside(tooGreat, 0), greatest}, {tooGreat, inf32}, {beside(tooGreat, inf), inf32},
		{0x1p128, inf32}, {math.MaxFloat64, inf32}, {inf, inf32},
	} {
		look(t, []wanted{
			{"To of re", narrow.To(complex(c.x, 1)), complex(c.want, 1)},
			{"To of im", narrow.To(complex(1, c.x)), complex(1, c.want)},
			{"To of re below 0", narrow.To(complex(-c.x, 1)), complex(-c.want, 1)},
			{"To of im below 0", narrow.To(complex(1, -c.x)), complex(1, -c.want)},
		})
	}
	look(t, []wanted{
		{"To of (-0, 0)", narrow.To(complex(minus0, 0)), complex(minus032, 0)},
		{"To of too little below 0", narrow.To(complex(-leastReal, -0x1p-150)), complex(minus032, minus032)},
		{"To of (NaN, 2)", narrow.To(complex(nan, 2)), complex(nan32, 2)},
		{"To of (2, NaN)", narrow.To(complex(2, loudNaN)), complex(2, nan32)},
		// Narrowed, such a NaN has none of its own bits left.
		{"To of two NaN", narrow.To(complex(math.Float64frombits(0x7ff0000000000001), -nan)), complex(nan32, nan32)},
	})
	for _, x := range reals() {
		if got, want := narrow.To(complex(x, -x)), complex(narrowed(x), narrowed(-x)); !alikeNarrow(got, want) {
			t.Errorf("To of %x and its opposite: %v, want %v", x, got, want)
		}
	}
}

// widened tells a finite narrow real by its bits alone: a whole number times a power of two.
func widened(x float32) float64 {
	bits := math.Float32bits(x)
	fraction, power := float64(bits&(1<<23-1)), int(bits>>23&0xff)
	if power == 0 {
		power = 1
	} else {
		fraction += 1 << 23
	}
	return math.Copysign(math.Ldexp(fraction, power-150), float64(1-2*int(bits>>31)))
}

func TestBack(t *testing.T) {
	for _, c := range []struct {
		w    complex64
		want complex128
	}{
		{complex(1, minus032), complex(1, minus0)}, {complex(minus032, 0), complex(minus0, 0)},
		{complex(least, -least), complex(0x1p-149, -0x1p-149)}, {complex(0.1, 3), complex(0.10000000149011612, 3)},
		{complex(greatest, -greatest), complex(0x1p128-0x1p104, -(0x1p128 - 0x1p104))},
		{complex(inf32, -inf32), complex(inf, -inf)}, {complex(nan32, 1), complex(nan, 1)}, {complex(1, loud32), complex(1, nan)},
	} {
		if got := narrow.Back(c.w); !alikeNumbers(got, c.want) {
			t.Errorf("Back(%v): %v, want %v", c.w, got, c.want)
		}
	}
	narrowReals(func(x float32) {
		if math.IsNaN(float64(x)) || math.IsInf(float64(x), 0) {
			return
		}
		if got := narrow.Back(complex(x, -x)); !alikeNumbers(got, complex(widened(x), widened(-x))) {
			t.Errorf("Back of %v and its opposite: %v", x, got)
		}
	})
}

func TestSame(t *testing.T) {
	for _, c := range []struct {
		a, b complex64
		want bool
	}{
		{0, 0, true}, {0, complex(minus032, 0), false}, {0, complex(0, minus032), false}, {complex(minus032, minus032), complex(minus032, minus032), true},
		{complex(1, 2), complex(1, 2), true}, {complex(1, 2), complex(2, 1), false}, {complex(1, 2), complex(1, -2), false},
		{complex(1, 2), complex(1+0x1p-23, 2), false}, {complex(1, 2), complex(1, 2+0x1p-22), false},
		{complex(nan32, 1), complex(loud32, 1), true}, {complex(1, loud32), complex(1, -nan32), true}, {complex(nan32, loud32), complex(loud32, nan32), true},
		{complex(nan32, 1), complex(1, nan32), false}, {complex(nan32, 1), complex(nan32, 2), false}, {complex(nan32, 0), complex(nan32, minus032), false},
		{complex(nan32, 1), complex(inf32, 1), false}, {complex(1, nan32), complex(1, 1), false},
		{complex(inf32, -inf32), complex(inf32, -inf32), true}, {complex(inf32, 0), complex(-inf32, 0), false}, {complex(inf32, 0), complex(greatest, 0), false},
		{complex(least, 0), 0, false}, {complex(least, least), complex(least, least), true}, {complex(0, least), complex(0, 2*least), false},
	} {
		if narrow.Same(c.a, c.b) != c.want || narrow.Same(c.b, c.a) != c.want {
			t.Errorf("Same(%v, %v): not %v", c.a, c.b, c.want)
		}
	}
	eachPair(func(a, b complex64) {
		if narrow.Same(a, b) != alikeNarrow(a, b) {
			t.Errorf("Same(%v, %v): %v", a, b, narrow.Same(a, b))
		}
	})
}

func TestFits(t *testing.T) {
	for _, c := range []struct {
		z    complex128
		want bool
	}{
		{0, true}, {complex(minus0, minus0), true}, {complex(1, -0.75), true}, {complex(0.1, 1), false}, {complex(1, 0.1), false},
		{complex(1+0x1p-23, 0), true}, {complex(1+0x1p-24, 0), false}, {complex(0, 1-0x1p-24), true}, {complex(0, 1-0x1p-25), false},
		{complex(least, -least), true}, {complex(0x1p-150, 0), false}, {complex(0, leastReal), false}, {complex(0, 3*0x1p-150), false},
		{complex(greatest, -greatest), true}, {complex(beside(greatest, inf), 0), false}, {complex(0, 0x1p128), false}, {complex(math.MaxFloat64, 0), false},
		{complex(inf, -inf), true}, {complex(nan, 1), true}, {complex(0.5, loudNaN), true}, {complex(nan, 0.1), false}, {complex(0x1p128, nan), false},
	} {
		if got := narrow.Fits(c.z); got != c.want {
			t.Errorf("Fits(%v): %v", c.z, got)
		}
	}
	for _, x := range reals() {
		want := alike(float64(narrowed(x)), x)
		if narrow.Fits(complex(x, 1)) != want || narrow.Fits(complex(1, x)) != want {
			t.Errorf("Fits of %x: not %v", x, want)
		}
	}
}

// P3.2

func TestLost(t *testing.T) {
	for _, c := range []struct {
		z, want complex128
		err     api.Errno
	}{
		{complex(1, -2), 0, api.OK}, {complex(minus0, 0), 0, api.OK}, {complex(minus0, minus0), 0, api.OK},
		{complex(1+3*0x1p-24, 1-0x1p-25), complex(-0x1p-24, -0x1p-25), api.OK},
		{complex(-(1 + 0x1p-24), -0x1p-150), complex(-0x1p-24, -0x1p-150), api.OK},
		{complex(leastReal, -leastReal), complex(leastReal, -leastReal), api.OK}, {complex(1.5*0x1p-149, 0), complex(-0x1p-150, 0), api.OK},
		{complex(0.1, 0), complex(-1.4901161138336505e-09, 0), api.OK},
		{complex(greatest, -greatest), 0, api.OK}, {complex(beside(tooGreat, 0), 0), complex(0x1p103-0x1p75, 0), api.OK},
		{complex(tooGreat, 0), 0, api.ErrOver}, {complex(0, tooGreat), 0, api.ErrOver}, {complex(-tooGreat, 1), 0, api.ErrOver}, {complex(0.1, -tooGreat), 0, api.ErrOver},
		{complex(math.MaxFloat64, -math.MaxFloat64), 0, api.ErrOver},
		{complex(inf, 0), 0, api.ErrNumber}, {complex(0.1, -inf), 0, api.ErrNumber}, {complex(0.1, nan), 0, api.ErrNumber}, {complex(loudNaN, 0), 0, api.ErrNumber},
		{complex(0x1p128, nan), 0, api.ErrNumber}, {complex(nan, 0x1p128), 0, api.ErrNumber}, {complex(-inf, -0x1p128), 0, api.ErrNumber}, {complex(0x1p128, inf), 0, api.ErrNumber},
	} {
		if got, err := narrow.Lost(c.z); !alikeNumbers(got, c.want) || err != c.err {
			t.Errorf("Lost(%v): %v %d, want %v %d", c.z, got, err, c.want, c.err)
		}
	}
}

// The differences that Lost tells are exact.
func TestLostIsExact(t *testing.T) {
	exact := func(x float64) *big.Float { return new(big.Float).SetPrec(4096).SetFloat64(x) }
	for _, x := range reals() {
		lost, err := narrow.Lost(complex(x, 0.5))
		other, otherErr := narrow.Lost(complex(0.5, x))
		if err != otherErr || !alikeNumbers(other, complex(imag(lost), real(lost))) {
			t.Errorf("Lost of %x: %v %d as re, %v %d as im", x, lost, err, other, otherErr)
		}
		kept := float64(narrowed(x))
		switch {
		case !finite(x):
			if err != api.ErrNumber {
				t.Errorf("Lost of %x: %d", x, err)
			}
		case !finite(kept):
			if err != api.ErrOver {
				t.Errorf("Lost of %x: %d", x, err)
			}
		case err != api.OK || imag(lost) != 0 || exact(x).Cmp(exact(kept).Add(exact(kept), exact(real(lost)))) != 0:
			t.Errorf("Lost of %x: %v %d", x, lost, err)
		}
	}
}

// P3.3

// What the tests hold the calls against is itself right: rounded once, by exact arithmetic.
func TestTheStepsAreRoundedOnce(t *testing.T) {
	exact := func(x float32) *big.Float { return new(big.Float).SetPrec(1024).SetFloat64(float64(x)) }
	hold := func(step string, a, b, got, want float32) {
		if got != want {
			t.Errorf("%s of %v and %v: %v, want %v", step, a, b, got, want)
		}
	}
	eachPair(func(z, w complex64) {
		a, b := real(z), imag(w)
		if !finite(float64(a)) || !finite(float64(b)) {
			return
		}
		want, _ := new(big.Float).Add(exact(a), exact(b)).Float32()
		hold("plus", a, b, plus(a, b), want)
		want, _ = new(big.Float).Sub(exact(a), exact(b)).Float32()
		hold("less", a, b, less(a, b), want)
		want, _ = new(big.Float).Mul(exact(a), exact(b)).Float32()
		hold("times", a, b, times(a, b), want)
		if b != 0 {
			p, _ := exact(a).Rat(nil)
			q, _ := exact(b).Rat(nil)
			want, _ = p.Quo(p, q).Float32()
			hold("over", a, b, over(a, b), want)
		}
		if a >= 0 {
			want, _ = new(big.Float).SetPrec(1024).Sqrt(exact(a)).Float32()
			hold("root", a, a, root(a), want)
		}
	})
}

func TestAddAndSub(t *testing.T) {
	look(t, []wanted{
		{"Add of whole numbers", narrow.Add(complex(1, 2), complex(3, -5)), complex(4, -3)},
		{"Add, ties to even", narrow.Add(complex(1, 1+0x1p-23), complex(0x1p-24, 0x1p-24)), complex(1, 1+0x1p-22)},
		{"Add of noughts", narrow.Add(complex(minus032, minus032), complex(minus032, 0)), complex(minus032, 0)},
		{"Add of opposites", narrow.Add(complex(5, -5), complex(-5, 5)), 0},
		{"Add, too great", narrow.Add(complex(greatest, -greatest), complex(0x1p103, -0x1p103)), complex(inf32, -inf32)},
		{"Add, just not too great", narrow.Add(complex(greatest, -greatest), complex(0x1p103-0x1p79, -0x1p102)), complex(greatest, -greatest)},
		{"Add of least ones", narrow.Add(complex(least, -least), complex(least, 2*least)), complex(2*least, least)},
		{"Add of infinities", narrow.Add(complex(inf32, inf32), complex(-inf32, 1)), complex(nan32, inf32)},
		{"Add of NaN", narrow.Add(complex(nan32, 1), complex(1, 1)), complex(nan32, 2)},
		{"Sub of whole numbers", narrow.Sub(complex(1, 2), complex(3, -5)), complex(-2, 7)},
		{"Sub, ties to even", narrow.Sub(complex(1, 1-0x1p-24), complex(0x1p-25, 0x1p-25)), complex(1, 1-0x1p-23)},
		{"Sub of noughts", narrow.Sub(complex(minus032, minus032), complex(0, minus032)), complex(minus032, 0)},
		{"Sub of equal ones", narrow.Sub(complex(-5, 5), complex(-5, 5)), 0},
		{"Sub, too great", narrow.Sub(complex(greatest, -greatest), complex(-greatest, greatest)), complex(inf32, -inf32)},
		{"Sub, below the normal ones", narrow.Sub(complex(normal, 0), complex(least, least)), complex(normal-least, -least)},
		{"Sub of infinities", narrow.Sub(complex(inf32, inf32), complex(inf32, -inf32)), complex(nan32, inf32)},
		{"Sub of NaN", narrow.Sub(complex(1, 1), complex(1, nan32)), complex(0, nan32)},
	})
	eachPair(func(a, b complex64) {
		if got, want := narrow.Add(a, b), complex(plus(real(a), real(b)), plus(imag(a), imag(b))); !alikeNarrow(got, want) {
			t.Errorf("Add(%v, %v): %v, want %v", a, b, got, want)
		}
		if got, want := narrow.Sub(a, b), complex(less(real(a), real(b)), less(imag(a), imag(b))); !alikeNarrow(got, want) {
			t.Errorf("Sub(%v, %v): %v, want %v", a, b, got, want)
		}
	})
}

func TestMul(t *testing.T) {
	x := float32(1 + 0x1p-12)
	look(t, []wanted{
		{"Mul of i and i", narrow.Mul(complex(0, 1), complex(0, 1)), -1},
		// x x is narrowed by itself to 1 + 2^-11: of a product that is not, 2^-24 would be left over.
		{"Mul, both products narrowed", narrow.Mul(complex(x, 1+0x1p-11), complex(x, 1)), complex(0, plus(x, times(1+0x1p-11, x)))},
		{"Mul of a number with itself", narrow.Mul(complex(x, x), complex(x, x)), complex(0, 2+0x1p-10)},
		{"Mul of noughts", narrow.Mul(complex(minus032, 0), complex(0, 0)), complex(minus032, 0)},
		{"Mul of an infinity", narrow.Mul(complex(inf32, 0), complex(0, 1)), complex(nan32, inf32)},
		{"Mul of infinities", narrow.Mul(complex(inf32, inf32), complex(inf32, -inf32)), complex(inf32, nan32)},
		{"Mul, products too great", narrow.Mul(complex(0x1p64, 0x1p64), complex(0x1p64, 0x1p64)), complex(nan32, inf32)},
		{"Mul, just not too great", narrow.Mul(complex(0x1p63, 0), complex(0x1p64, 0)), complex(0x1p127, 0)},
		{"Mul, products too small", narrow.Mul(complex(0x1p-75, -0x1p-75), complex(0x1p-75, 0x1p-75)), 0},
		{"Mul, the least products", narrow.Mul(complex(0x1p-75, 0), complex(0x1p-74, -0x1p-75)), complex(least, 0)},
		{"Mul of NaN", narrow.Mul(complex(nan32, 1), complex(1, 1)), complex(nan32, nan32)},
	})
	eachPair(func(a, b complex64) {
		a1, a2, b1, b2 := real(a), imag(a), real(b), imag(b)
		want := complex(less(times(a1, b1), times(a2, b2)), plus(times(a1, b2), times(a2, b1)))
		if got := narrow.Mul(a, b); !alikeNarrow(got, want) {
			t.Errorf("Mul(%v, %v): %v, want %v", a, b, got, want)
		}
	})
}

// divided is the chapter's quotient, step by step.
func divided(a, b complex64) complex64 {
	a1, a2, b1, b2 := real(a), imag(a), real(b), imag(b)
	if math.Abs(float64(b1)) >= math.Abs(float64(b2)) {
		r := over(b2, b1)
		t := plus(b1, times(b2, r))
		return complex(over(plus(a1, times(a2, r)), t), over(less(a2, times(a1, r)), t))
	}
	r := over(b1, b2)
	t := plus(times(b1, r), b2)
	return complex(over(plus(times(a1, r), a2), t), over(less(times(a2, r), a1), t))
}

func TestDiv(t *testing.T) {
	look(t, []wanted{
		{"Div by a real", narrow.Div(complex(6, -9), complex(-3, 0)), complex(-2, 3)},
		{"Div by 3", narrow.Div(complex(1, 2), 3), complex(float32(1.0/3), float32(2.0/3))},
		// Narrowed at its end alone it would be (0.4, 0.2).
		{"Div, each step narrowed", narrow.Div(complex(1, 1), complex(3, 1)), complex(0.40000004, 0.19999999)},
		{"Div by i", narrow.Div(complex(6, -9), complex(0, 3)), complex(-3, -2)},
		{"Div by parts of equal size", narrow.Div(complex(4, 2), complex(1, -1)), complex(1, 3)},
		{"Div, im the greater", narrow.Div(complex(11, 2), complex(1, 2)), complex(3, -4)},
		// Parts of equal size go by r = b2 / b1: the other way would tell (0, -0).
		{"Div of 0 by parts of equal size", narrow.Div(0, complex(-1, 1)), complex(minus032, minus032)},
		{"Div of -0 by 1", narrow.Div(complex(minus032, minus032), 1), complex(minus032, 0)},
		{"Div of noughts by 0", narrow.Div(0, complex(0, minus032)), complex(nan32, nan32)},
		{"Div by the least", narrow.Div(complex(0, least), complex(0, least)), 1},
		{"Div by an infinity", narrow.Div(complex(1, 1), complex(inf32, 0)), 0},
		{"Div by +Inf and -Inf", narrow.Div(1, complex(inf32, -inf32)), complex(nan32, nan32)},
		{"Div by 1 and an infinity", narrow.Div(complex(1, 2), complex(1, -inf32)), complex(minus032, 0)},
		{"Div of an infinity by 2", narrow.Div(complex(inf32, 1), 2), complex(inf32, nan32)},
		{"Div by NaN and 1", narrow.Div(complex(1, 1), complex(nan32, 1)), complex(nan32, nan32)},
		{"Div by 1 and NaN", narrow.Div(complex(1, 1), complex(1, nan32)), complex(nan32, nan32)},
		{"Div of NaN by 2", narrow.Div(complex(nan32, 1), 2), complex(nan32, nan32)},
		{"Div, t too great", narrow.Div(complex(1, 2), complex(greatest, greatest)), 0},
		{"Div of the greatest by itself", narrow.Div(complex(greatest, greatest), complex(greatest, greatest)), complex(nan32, 0)},
		{"Div of 2^126 four times", narrow.Div(complex(0x1p126, 0x1p126), complex(0x1p126, 0x1p126)), 1},
		{"Div, r too small", narrow.Div(complex(1, 0x1p127), complex(0x1p-80, 0x1p80)), complex(0x1p47, -0x1p-80)},
		{"Div, r below the normal ones", narrow.Div(complex(0x1p100, 0), complex(0x1p-70, 0x1p75)), complex(0x1p-120, -0x1p25)},
		{"Div, quotients too great", narrow.Div(complex(0x1p100, -0x1p100), complex(0x1p-100, 0)), complex(inf32, -inf32)},
		{"Div, quotients too small", narrow.Div(complex(0x1p-100, -0x1p-100), complex(0x1p100, 0)), complex(0, minus032)},
	})
	eachPair(func(a, b complex64) {
		if got, want := narrow.Div(a, b), divided(a, b); !alikeNarrow(got, want) {
			t.Errorf("Div(%v, %v): %v, want %v", a, b, got, want)
		}
	})
}

// P3.4

// absolute is the chapter's size, step by step.
func absolute(w complex64) float32 {
	re, im := math.Abs(float64(real(w))), math.Abs(float64(imag(w)))
	if math.IsInf(re, 1) || math.IsInf(im, 1) {
		return inf32
	}
	if math.IsNaN(re) || math.IsNaN(im) {
		return nan32
	}
	g, l := float32(max(re, im)), float32(min(re, im))
	if g == 0 {
		return 0
	}
	q := over(l, g)
	return times(g, root(plus(1, times(q, q))))
}

func TestAbs(t *testing.T) {
	for _, c := range []struct {
		w    complex64
		want float32
	}{
		// Narrowed at its end alone it would be 6.0827627.
		{complex(6, 1), 6.0827622}, {complex(-1, -6), 6.0827622},
		{complex(5, 12), 13}, {complex(-12, 5), 13}, {complex(0, -7), 7}, {complex(-7, minus032), 7}, {complex(1, 1), 1.4142135},
		{0, 0}, {complex(minus032, minus032), 0}, {complex(minus032, 0), 0},
		{complex(inf32, 1), inf32}, {complex(-inf32, nan32), inf32}, {complex(loud32, inf32), inf32}, {complex(0, -inf32), inf32}, {complex(inf32, -inf32), inf32},
		{complex(nan32, 0), nan32}, {complex(0, nan32), nan32}, {complex(minus032, loud32), nan32}, {complex(nan32, 3), nan32}, {complex(greatest, nan32), nan32}, {complex(nan32, nan32), nan32},
		{complex(least, 0), least}, {complex(least, least), least}, {complex(3*least, -4*least), 5 * least}, {complex(2*least, 2*least), 3 * least},
		{complex(0x1p-100, 0x1p-100), 1.4142135 * 0x1p-100}, {complex(1, least), 1}, {complex(least, greatest), greatest},
		{complex(greatest, 0), greatest}, {complex(greatest, greatest), inf32}, {complex(-0x1p127, 0x1p127), 1.4142135 * 0x1p127}, {complex(-0x1.8p127, 0x1.8p127), inf32}, {complex(0x1p126, 0x1p127), 0x1p127 * 1.118034},
	} {
		if got := narrow.Abs(c.w); !alike32(got, c.want) {
			t.Errorf("Abs(%v): %v, want %v", c.w, got, c.want)
		}
	}
	for _, w := range append(narrows(), near(3000, 11, -1, 1)...) {
		if got, want := narrow.Abs(w), absolute(w); !alike32(got, want) {
			t.Errorf("Abs(%v): %v, want %v", w, got, want)
		}
	}
}

// P3.5

func TestNext(t *testing.T) {
	for _, c := range []struct {
		x    float32
		up   bool
		want float32
	}{
		{0, true, least}, {0, false, -least}, {minus032, true, least}, {minus032, false, -least},
		{least, false, 0}, {-least, true, minus032}, {least, true, 2 * least}, {-least, false, -2 * least},
		{normal - least, true, normal}, {normal, false, normal - least}, {-normal, true, -(normal - least)}, {-(normal - least), false, -normal},
		{1, true, 1 + 0x1p-23}, {1, false, 1 - 0x1p-24}, {-1, true, -1 + 0x1p-24}, {-1, false, -1 - 0x1p-23}, {2, false, 2 - 0x1p-23},
		{greatest, true, inf32}, {greatest, false, greatest - 0x1p104}, {-greatest, false, -inf32}, {-greatest, true, -(greatest - 0x1p104)},
		{inf32, true, inf32}, {inf32, false, greatest}, {-inf32, false, -inf32}, {-inf32, true, -greatest},
		{nan32, true, nan32}, {nan32, false, nan32}, {loud32, true, nan32}, {loud32, false, nan32}, {-nan32, false, nan32},
	} {
		if got := narrow.Next(c.x, c.up); !alike32(got, c.want) {
			t.Errorf("Next(%v, %v): %v, want %v", c.x, c.up, got, c.want)
		}
	}
	narrowReals(func(x float32) {
		up, down := math.Nextafter32(x, inf32), math.Nextafter32(x, -inf32)
		if x == -least {
			up = minus032
		}
		if got := narrow.Next(x, true); !alike32(got, up) {
			t.Errorf("Next of %v up: %v, want %v", x, got, up)
		}
		if got := narrow.Next(x, false); !alike32(got, down) {
			t.Errorf("Next of %v down: %v, want %v", x, got, down)
		}
	})
}

// P3.6

func TestBits(t *testing.T) {
	for _, c := range []struct {
		w    complex64
		want uint64
	}{
		{0, 0}, {complex(minus032, 0), 0x8000000000000000}, {complex(0, minus032), 0x80000000}, {complex(1, 2), 0x3f80000040000000}, {complex(-2, 1), 0xc00000003f800000},
		{complex(least, -least), 0x0000000180000001}, {complex(normal, greatest), 0x008000007f7fffff}, {complex(inf32, -inf32), 0x7f800000ff800000},
		{complex(nan32, 1), 0x7fc000003f800000}, {complex(1, loud32), 0x3f8000007fc00000}, {complex(loud32, minus032), 0x7fc0000080000000},
		{complex(-nan32, math.Float32frombits(0xffffffff)), 0x7fc000007fc00000}, {complex(math.Float32frombits(0x7f800001), inf32), 0x7fc000007f800000},
	} {
		if got := narrow.Bits(c.w); got != c.want {
			t.Errorf("Bits(%v): %016x, want %016x", c.w, got, c.want)
		}
	}
}

func TestFromBits(t *testing.T) {
	look(t, []wanted{
		{"of 0", narrow.FromBits(0), 0},
		{"of all", narrow.FromBits(1<<64 - 1), complex(nan32, nan32)},
		{"of both signs", narrow.FromBits(0x8000000080000000), complex(minus032, minus032)},
		{"of the sign of re", narrow.FromBits(1 << 63), complex(minus032, 0)},
		{"of (1, 2)", narrow.FromBits(0x3f80000040000000), complex(1, 2)},
		{"of least ones", narrow.FromBits(0x8000000100000001), complex(-least, least)},
		{"of the greatest and the infinity", narrow.FromBits(0x7f7fffffff800000), complex(greatest, -inf32)},
		{"of re a NaN", narrow.FromBits(0x7f80000140000000), complex(nan32, 2)},
		{"of im a NaN", narrow.FromBits(0x40000000ffc00000), complex(2, nan32)},
		{"of re an infinity, im a NaN", narrow.FromBits(0x7f8000007fffffff), complex(inf32, nan32)},
	})
	for _, u := range scatter(2000, 12) {
		want := complex(math.Float32frombits(uint32(u>>32)), math.Float32frombits(uint32(u)))
		if got := narrow.FromBits(u); !alikeNarrow(got, want) {
			t.Errorf("FromBits(%016x): %v, want %v", u, got, want)
		}
	}
}

// P3.7

func TestThereAndBack(t *testing.T) {
	hold := func(w complex64) {
		if !alikeNarrow(narrow.To(narrow.Back(w)), w) || !narrow.Fits(narrow.Back(w)) {
			t.Errorf("there and back: %v", w)
		}
	}
	for _, w := range narrows() {
		hold(w)
	}
	narrowReals(func(x float32) {
		hold(complex(x, 1))
		hold(complex(-1, x))
	})
}

func TestKeptAndLostTogether(t *testing.T) {
	small := func(lost float64, kept float32) bool {
		if lost == 0 {
			return true
		}
		neighbour := float64(narrow.Next(kept, lost > 0))
		return !finite(neighbour) || 2*math.Abs(lost) <= math.Abs(neighbour-float64(kept))
	}
	all := reals()
	for i, x := range all {
		z := complex(x, all[len(all)-1-i])
		lost, err := narrow.Lost(z)
		if err != api.OK {
			continue
		}
		kept := narrow.To(z)
		if back := narrow.Back(kept); real(back)+real(lost) != real(z) || imag(back)+imag(lost) != imag(z) {
			t.Errorf("%v: %v and %v", z, back, lost)
		}
		if !small(real(lost), real(kept)) || !small(imag(lost), imag(kept)) {
			t.Errorf("%v: %v is over half of what the neighbour is away", z, lost)
		}
	}
}

func TestNarrowingKeepsTheOrder(t *testing.T) {
	all := reals()
	slices.Sort(all)
	for i := 1; i < len(all); i++ {
		a, b := narrow.To(complex(all[i-1], -all[i])), narrow.To(complex(all[i], -all[i-1]))
		if !(real(a) <= real(b)) || !(imag(a) <= imag(b)) {
			t.Errorf("%x and %x are narrowed to %v and %v", all[i-1], all[i], a, b)
		}
	}
}

func TestBitsThereAndBack(t *testing.T) {
	hold := func(w complex64) {
		if got := narrow.FromBits(narrow.Bits(w)); !alikeNarrow(got, w) {
			t.Errorf("FromBits of Bits of %v: %v", w, got)
		}
	}
	for _, w := range narrows() {
		hold(w)
	}
	narrowReals(func(x float32) {
		hold(complex(x, -2))
		hold(complex(-2, x))
	})
	isNaN := func(bits uint32) bool { return bits&(1<<31-1) > 0x7f800000 }
	for _, u := range scatter(20000, 13) {
		if isNaN(uint32(u>>32)) || isNaN(uint32(u)) {
			continue
		}
		if got := narrow.Bits(narrow.FromBits(u)); got != u {
			t.Errorf("Bits of FromBits of %016x: %016x", u, got)
		}
	}
}

func TestNextUpAndDown(t *testing.T) {
	hold := func(x float32, up bool) {
		next := narrow.Next(x, up)
		if finite(float64(x)) && finite(float64(next)) && narrow.Next(next, !up) != x {
			t.Errorf("Next of %v to %v, and back: %v", x, next, narrow.Next(next, !up))
		}
	}
	narrowReals(func(x float32) {
		hold(x, true)
		hold(x, false)
	})
}

// Rule 5: a product that a caller hands in is narrowed ahead of all sums, and a product that is told ahead of the caller's: where the machine can join both, the calls must not.
func TestNothingIsJoinedWithTheCallers(t *testing.T) {
	for _, x := range []float32{0.1, 0.3, 0.7} {
		p, opposite := times(x, x), times(-x, x)
		if got := narrow.Add(complex(x*x, x*x), complex(-p, -p)); got != 0 {
			t.Errorf("Add of %v squared and %v: %v", x, -p, got)
		}
		if got := narrow.Sub(complex(-p, x*x), complex(-(x*x), p)); got != 0 {
			t.Errorf("Sub of %v and %v squared: %v", p, x, got)
		}
		if got := narrow.Mul(complex(x, 0), complex(x, x)); real(got)+opposite != 0 || imag(got)+opposite != 0 {
			t.Errorf("Mul of %v and itself, less %v: not 0", x, p)
		}
		if got := narrow.Abs(complex(x, x)) + times(-x, root(2)); got != 0 {
			t.Errorf("Abs of %v twice: %v too great", x, got)
		}
	}
}

// P1: every call ends, none panics, and one asked twice answers the same.
func TestCalm(t *testing.T) {
	for _, call := range []func(a, b complex64) complex64{narrow.Add, narrow.Sub, narrow.Mul, narrow.Div} {
		eachPair(func(a, b complex64) {
			if first := call(a, b); !alikeNarrow(first, call(a, b)) {
				t.Errorf("of %v and %v: %v, then %v", a, b, first, call(a, b))
			}
		})
	}
	for _, w := range narrows() {
		if !alike32(narrow.Abs(w), narrow.Abs(w)) || narrow.Bits(w) != narrow.Bits(w) {
			t.Errorf("Abs or Bits of %v", w)
		}
		for _, up := range []bool{true, false} {
			if !alike32(narrow.Next(real(w), up), narrow.Next(real(w), up)) {
				t.Errorf("Next of %v", real(w))
			}
		}
	}
	sides := append(reals(), nan, loudNaN)
	for i, x := range sides {
		z := complex(x, sides[len(sides)-1-i])
		first, err := narrow.Lost(z)
		again, errAgain := narrow.Lost(z)
		if !alikeNumbers(first, again) || err != errAgain || narrow.Fits(z) != narrow.Fits(z) || !alikeNarrow(narrow.To(z), narrow.To(z)) {
			t.Errorf("Lost, Fits or To of %v", z)
		}
		if err != api.OK && !alikeNumbers(first, 0) {
			t.Errorf("Lost of %v: %v beside an error", z, first)
		}
	}
}
