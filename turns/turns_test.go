package turns_test

import (
	"math"
	"math/big"
	"testing"

	"gridwork/api"
	"gridwork/parts"
	"gridwork/turns"
)

const (
	least    = 0x1p-1074
	normal   = 0x1p-1022
	greatest = math.MaxFloat64
)

var (
	inf     = math.Inf(1)
	nan     = math.NaN()
	minus0  = math.Copysign(0, -1)
	loudNaN = math.Float64frombits(0xfff0000000000001)

	c1 = math.Float64frombits(0x3feee8dd4748bf15)
	c2 = math.Float64frombits(0x3febb67ae8584caa)
	c3 = math.Float64frombits(0x3fe6a09e667f3bcd)
	c5 = math.Float64frombits(0x3fd0907dc1930690)
	q  = math.Float64frombits(0x400e8ec8a4aeacc4)
)

// The five operations, each in a function of its own that is laid into none: nothing can be joined there. What a call tells is held against them.

//go:noinline
func plus(a, b float64) float64 { return a + b }

//go:noinline
func less(a, b float64) float64 { return a - b }

//go:noinline
func times(a, b float64) float64 { return a * b }

//go:noinline
func over(a, b float64) float64 { return a / b }

//go:noinline
func root(a float64) float64 { return math.Sqrt(a) }

// alike is the document's 'the same', worked out without the packages that are tested.
func alike(a, b float64) bool {
	if math.IsNaN(a) || math.IsNaN(b) {
		return math.IsNaN(a) && math.IsNaN(b)
	}
	return math.Float64bits(a) == math.Float64bits(b)
}

func alikeNumbers(a, b complex128) bool {
	return alike(real(a), real(b)) && alike(imag(a), imag(b))
}

func finite(z complex128) bool {
	return math.Abs(real(z)) <= greatest && math.Abs(imag(z)) <= greatest
}

// scatter gives words of all bits, always the same ones.
func scatter(n int, seed uint64) []uint64 {
	var all []uint64
	for range n {
		seed ^= seed << 13
		seed ^= seed >> 7
		seed ^= seed << 17
		all = append(all, seed)
	}
	return all
}

// scatterReals gives reals of all bits.
func scatterReals(n int, seed uint64) []float64 {
	var all []float64
	for _, bits := range scatter(n, seed) {
		all = append(all, math.Float64frombits(bits))
	}
	return all
}

// scatterNear gives finite reals whose powers of two lie from low to high.
func scatterNear(n int, seed uint64, low, high int) []float64 {
	var all []float64
	for _, bits := range scatter(n, seed) {
		power := low + int(bits>>52&0x7ff)%(high-low+1)
		fraction := 1 + float64(bits&(1<<52-1))*0x1p-52
		all = append(all, math.Copysign(math.Ldexp(fraction, power), math.Float64frombits(bits)))
	}
	return all
}

// pairs makes numbers of reals, each with the next one.
func pairs(l []float64) []complex128 {
	var all []complex128
	for i := 0; i+1 < len(l); i += 2 {
		all = append(all, complex(l[i], l[i+1]))
	}
	return all
}

// sides are reals at which something begins or ends, NaN among them.
func sides() []float64 {
	all := []float64{nan, loudNaN}
	for _, x := range []float64{0, least, 2 * least, 3 * least, normal - least, normal, 0x1p-60, 0.1, 1, 3, 0x1p53, 0x1p1023, greatest, inf} {
		all = append(all, x, -x)
	}
	return append(all, math.Nextafter(1, 0), math.Nextafter(1, 2))
}

// numbers are all numbers whose parts are sides, numbers of all bits, such whose parts are near each other, equal, or next to each other, and such with a part that is far the lesser.
func numbers() []complex128 {
	var all []complex128
	for _, re := range sides() {
		for _, im := range sides() {
			all = append(all, complex(re, im))
		}
	}
	all = append(all, pairs(scatterReals(600, 1))...)
	all = append(all, pairs(scatterNear(4000, 2, -2, 2))...)
	all = append(all, pairs(scatterNear(2000, 3, -30, 30))...)
	all = append(all, pairs(scatterNear(400, 4, -1074, -1000))...)
	all = append(all, pairs(scatterNear(400, 5, 1000, 1023))...)
	for _, x := range scatterNear(200, 6, -1022, 1023) {
		all = append(all, complex(x, x), complex(-x, x), complex(x, math.Nextafter(x, 0)), complex(math.Nextafter(-x, 0), x))
	}
	for _, x := range scatterNear(200, 7, -1, 1) {
		all = append(all, complex(x, 0), complex(0, x), complex(minus0, x), complex(x, minus0))
	}
	return all
}

// steps are whole numbers about every step of three turns, and such far beyond a turn and below nought.
func steps() []int {
	all := []int{math.MinInt, math.MinInt + 1, math.MaxInt, math.MaxInt - 1}
	for k := -72; k <= 72; k++ {
		all = append(all, k)
	}
	for k := range 24 {
		all = append(all, math.MinInt+k, math.MaxInt-k, 24*(math.MaxInt/24-1)+k, 24*(math.MinInt/24)+k)
		all = append(all, 1<<31+k, -1<<31-k, 1<<32+k, -1<<53+k, 24e15+k, -24e15+k)
	}
	for _, bits := range scatter(500, 8) {
		all = append(all, int(bits))
	}
	return all
}

// circle are the numbers at the 24 steps, written out.
func circle() [24]complex128 {
	return [24]complex128{
		complex(1, 0), complex(c1, c5), complex(c2, 0.5), complex(c3, c3), complex(0.5, c2), complex(c5, c1),
		complex(0, 1), complex(-c5, c1), complex(-0.5, c2), complex(-c3, c3), complex(-c2, 0.5), complex(-c1, c5),
		complex(-1, 0), complex(-c1, -c5), complex(-c2, -0.5), complex(-c3, -c3), complex(-0.5, -c2), complex(-c5, -c1),
		complex(0, -1), complex(c5, -c1), complex(0.5, -c2), complex(c3, -c3), complex(c2, -0.5), complex(c1, -c5),
	}
}

// rootOf finds the number at k steps by whole numbers of any length, which nothing can run over.
func rootOf(k int) complex128 {
	left := new(big.Int).Mod(big.NewInt(int64(k)), big.NewInt(24))
	return circle()[left.Int64()]
}

// angleOf is the chapter's angle, operation by operation, of a number that has one.
func angleOf(z complex128) float64 {
	re, im := real(z), imag(z)
	a, b := math.Abs(re), math.Abs(im)
	t := over(min(a, b), max(a, b))
	for range 3 {
		t = over(t, plus(1, root(plus(1, times(t, t)))))
	}
	u := times(t, t)
	s := over(1, 15)
	for _, d := range []float64{13, 11, 9, 7, 5, 3, 1} {
		s = less(over(1, d), times(u, s))
	}
	v := times(times(times(8, t), s), q)
	if b > a {
		v = less(6, v)
	}
	if re < 0 {
		v = less(12, v)
	}
	if im < 0 {
		v = less(0, v)
	}
	return v
}

// angle is Angle of a number that has one.
func angle(t *testing.T, z complex128) float64 {
	t.Helper()
	v, e := turns.Angle(z)
	if e != api.OK {
		t.Errorf("Angle(%v): %v", z, e)
	}
	return v
}

// haveAngles are the numbers that have an angle.
func haveAngles() []complex128 {
	var all []complex128
	for _, z := range numbers() {
		if finite(z) && z != 0 {
			all = append(all, z)
		}
	}
	return all
}

// wanted is a row of a table: what a call answered, and what it should.
type wanted struct {
	call      string
	got, want complex128
}

func look(t *testing.T, rows []wanted) {
	t.Helper()
	for _, c := range rows {
		if !alikeNumbers(c.got, c.want) {
			t.Errorf("%s: %v, want %v", c.call, c.got, c.want)
		}
	}
}

// The chapter's examples.
func TestExamples(t *testing.T) {
	look(t, []wanted{
		{"Root(0)", turns.Root(0), complex(1, 0)},
		{"Root(6)", turns.Root(6), complex(0, 1)},
		{"Root(12)", turns.Root(12), complex(-1, 0)},
		{"Root(18)", turns.Root(18), complex(0, -1)},
		{"Root(-6)", turns.Root(-6), complex(0, -1)},
		{"Root(24)", turns.Root(24), complex(1, 0)},
		{"Root(3)", turns.Root(3), complex(c3, c3)},
		{"Root(4)", turns.Root(4), complex(0.5, c2)},
		{"Root(4), in decimals", turns.Root(4), complex(0.5, 0.8660254037844386)},
		{"Root(7)", turns.Root(7), complex(-c5, c1)},
		{"Phasor(2, 4)", turns.Phasor(2, 4), complex(1, 2*c2)},
		{"Phasor(-1, 6)", turns.Phasor(-1, 6), complex(minus0, -1)},
		{"Phasor(0, 12)", turns.Phasor(0, 12), complex(minus0, 0)},
		{"Turned((0, 2), 6)", turns.Turned(complex(0, 2), 6), complex(-2, 0)},
	})
	for _, c := range []struct {
		z    complex128
		want float64
		err  api.Errno
	}{
		{complex(1, 0), 0, api.OK}, {complex(-1, 0), 12, api.OK}, {complex(-1, minus0), 12, api.OK},
		{complex(0, 5), 6, api.OK}, {complex(0, -5), -6, api.OK},
		{complex(0, 0), 0, api.ErrArg}, {complex(nan, 1), 0, api.ErrNumber},
	} {
		if v, e := turns.Angle(c.z); !alike(v, c.want) || e != c.err {
			t.Errorf("Angle(%v): %v, %v; want %v, %v", c.z, v, e, c.want, c.err)
		}
	}
}

// P4.1

func TestEachStepOfTheCircle(t *testing.T) {
	for k, want := range circle() {
		for _, whole := range []int{0, 24, -24, 48, -240, 24e6, -24e15, 24 * (math.MaxInt/24 - 1), 24 * (math.MinInt / 24)} {
			if got := turns.Root(whole + k); !alikeNumbers(got, want) {
				t.Errorf("Root(%d): %v, want %v", whole+k, got, want)
			}
		}
	}
	look(t, []wanted{
		{"Root(-2^63)", turns.Root(math.MinInt), complex(-0.5, -c2)}, // 16 steps
		{"Root(-2^63 + 5)", turns.Root(math.MinInt + 5), complex(c3, -c3)},
		{"Root(2^63 - 1)", turns.Root(math.MaxInt), complex(-c5, c1)}, // 7 steps
		{"Root(-1)", turns.Root(-1), complex(c1, -c5)},
		{"Root(-23)", turns.Root(-23), complex(c1, c5)},
		{"Root(-24)", turns.Root(-24), complex(1, 0)},
		{"Root(-25)", turns.Root(-25), complex(c1, -c5)},
	})
	for _, k := range steps() {
		if got := turns.Root(k); !alikeNumbers(got, rootOf(k)) {
			t.Errorf("Root(%d): %v, want %v", k, got, rootOf(k))
		}
	}
}

func TestNoPartOfARootIsMinusNought(t *testing.T) {
	for _, k := range steps() {
		z := turns.Root(k)
		for _, x := range []float64{real(z), imag(z)} {
			if x == 0 && math.Signbit(x) {
				t.Errorf("Root(%d): %v has a part that is -0", k, z)
			}
		}
	}
}

// The parts are the nearest reals to the cosines that they stand for, by exact arithmetic: the squares of c1 and c5 are a half and a quarter of the root of 3, together and apart.
func TestRootsAreTheNearest(t *testing.T) {
	exact := func(x float64) *big.Float { return new(big.Float).SetPrec(400).SetFloat64(x) }
	quarterRoot3 := exact(3)
	quarterRoot3.Sqrt(quarterRoot3)
	quarterRoot3.Quo(quarterRoot3, exact(4))
	for k, square := range map[int]*big.Float{
		0: exact(1),
		1: exact(0).Add(exact(0.5), quarterRoot3),
		2: exact(0.75),
		3: exact(0.5),
		4: exact(0.25),
		5: exact(0).Sub(exact(0.5), quarterRoot3),
		6: exact(0),
	} {
		want, _ := square.Sqrt(square).Float64()
		if got := real(turns.Root(k)); !alike(got, want) {
			t.Errorf("the cosine of %d steps: %v, want %v", k, got, want)
		}
	}
}

// P4.2

func TestPhasor(t *testing.T) {
	look(t, []wanted{
		{"Phasor(1, 0)", turns.Phasor(1, 0), complex(1, 0)},
		{"Phasor(-1, 0)", turns.Phasor(-1, 0), complex(-1, minus0)},
		{"Phasor(3, 18)", turns.Phasor(3, 18), complex(0, -3)},
		{"Phasor(-3, 18)", turns.Phasor(-3, 18), complex(minus0, 3)},
		{"Phasor(0, 0)", turns.Phasor(0, 0), complex(0, 0)},
		{"Phasor(-0, 0)", turns.Phasor(minus0, 0), complex(minus0, minus0)},
		{"Phasor(-0, 12)", turns.Phasor(minus0, 12), complex(0, minus0)},
		{"Phasor(0, 15)", turns.Phasor(0, 15), complex(minus0, minus0)},
		{"Phasor(10, 2)", turns.Phasor(10, 2), complex(8.660254037844386, 5)},
		{"Phasor(2, -2^63)", turns.Phasor(2, math.MinInt), complex(-1, -2*c2)},
		{"Phasor, too small", turns.Phasor(least, 5), complex(0, least)},
		{"Phasor, a tie to even", turns.Phasor(least, 8), complex(minus0, least)},
		{"Phasor, a tie to even, 3 least", turns.Phasor(3*least, 4), complex(2*least, 3*least)},
		{"Phasor of the greatest", turns.Phasor(-greatest, 6), complex(minus0, -greatest)},
		{"Phasor of an infinity", turns.Phasor(inf, 9), complex(-inf, inf)},
		{"Phasor of an infinity, at no angle", turns.Phasor(inf, 0), complex(inf, nan)},
		{"Phasor of an infinity, below 0", turns.Phasor(-inf, 18), complex(nan, inf)},
		{"Phasor of NaN", turns.Phasor(nan, 6), complex(nan, nan)},
	})
	sizes := append(sides(), scatterReals(100, 9)...)
	sizes = append(sizes, scatterNear(100, 10, -1, 1)...)
	for _, k := range steps() {
		r := rootOf(k)
		for _, x := range sizes {
			want := complex(times(x, real(r)), times(x, imag(r)))
			if got := turns.Phasor(x, k); !alikeNumbers(got, want) {
				t.Errorf("Phasor(%v, %d): %v, want %v", x, k, got, want)
			}
		}
	}
}

// product is the chapter's product of numbers, operation by operation.
func product(a, b complex128) complex128 {
	return complex(less(times(real(a), real(b)), times(imag(a), imag(b))), plus(times(real(a), imag(b)), times(imag(a), real(b))))
}

func TestTurned(t *testing.T) {
	look(t, []wanted{
		{"Turned(1, 0)", turns.Turned(1, 0), complex(1, 0)},
		{"Turned((3, 4), 0)", turns.Turned(complex(3, 4), 0), complex(3, 4)},
		{"Turned((3, 4), 6)", turns.Turned(complex(3, 4), 6), complex(-4, 3)},
		{"Turned((3, 4), 12)", turns.Turned(complex(3, 4), 12), complex(-3, -4)},
		{"Turned((3, 4), -6)", turns.Turned(complex(3, 4), -6), complex(4, -3)},
		{"Turned((2, 0), 2)", turns.Turned(2, 2), complex(2*c2, 1)},
		{"Turned((1, 0), 12)", turns.Turned(1, 12), complex(-1, 0)},
		// The products' noughts meet in a sum: what is left is not what turning signs would tell.
		{"Turned((0, 0), 12)", turns.Turned(0, 12), complex(minus0, 0)},
		{"Turned((-0, -0), 0)", turns.Turned(complex(minus0, minus0), 0), complex(0, minus0)},
		{"Turned((-0, 0), 6)", turns.Turned(complex(minus0, 0), 6), complex(minus0, 0)},
		{"Turned((1, 1), 3)", turns.Turned(complex(1, 1), 3), complex(0, 2*c3)},
		{"Turned((2, 2), -2^63)", turns.Turned(complex(2, 2), math.MinInt), complex(2*c2-1, -1-2*c2)},
		{"Turned of an infinity", turns.Turned(complex(inf, 1), 0), complex(inf, nan)},
		{"Turned of infinities", turns.Turned(complex(inf, inf), 3), complex(nan, inf)},
		{"Turned of the greatest", turns.Turned(complex(greatest, -greatest), 3), complex(inf, 0)},
		{"Turned of NaN", turns.Turned(complex(1, nan), 1), complex(nan, nan)},
	})
	all := numbers()
	for k := -24; k < 48; k++ {
		for _, z := range all {
			if got, want := turns.Turned(z, k), product(z, rootOf(k)); !alikeNumbers(got, want) {
				t.Errorf("Turned(%v, %d): %v, want %v", z, k, got, want)
			}
		}
	}
	few := pairs(scatterNear(40, 11, -1, 1))
	for _, k := range steps() {
		for _, z := range few {
			if got, want := turns.Turned(z, k), product(z, rootOf(k)); !alikeNumbers(got, want) {
				t.Errorf("Turned(%v, %d): %v, want %v", z, k, got, want)
			}
		}
	}
}

// P4.3

func TestAnglesRefused(t *testing.T) {
	for _, z := range numbers() {
		want := api.OK
		if !finite(z) {
			want = api.ErrNumber
		} else if z == 0 {
			want = api.ErrArg
		}
		v, e := turns.Angle(z)
		if e != want {
			t.Errorf("Angle(%v): %v, want %v", z, e, want)
		}
		if want != api.OK && !alike(v, 0) {
			t.Errorf("Angle(%v): %v beside an error", z, v)
		}
	}
	for _, c := range []struct {
		z    complex128
		want api.Errno
	}{
		{complex(0, 0), api.ErrArg}, {complex(minus0, 0), api.ErrArg}, {complex(0, minus0), api.ErrArg}, {complex(minus0, minus0), api.ErrArg},
		{complex(inf, 0), api.ErrNumber}, {complex(0, -inf), api.ErrNumber}, {complex(-inf, inf), api.ErrNumber},
		{complex(0, nan), api.ErrNumber}, {complex(loudNaN, 0), api.ErrNumber}, {complex(nan, inf), api.ErrNumber},
		{complex(least, 0), api.OK}, {complex(minus0, -least), api.OK}, {complex(greatest, -greatest), api.OK},
	} {
		if _, e := turns.Angle(c.z); e != c.want {
			t.Errorf("Angle(%v): %v, want %v", c.z, e, c.want)
		}
	}
}

func TestAnglesToTheBit(t *testing.T) {
	for _, z := range haveAngles() {
		if got, want := angle(t, z), angleOf(z); !alike(got, want) {
			t.Errorf("Angle(%v): %v, want %v", z, got, want)
		}
	}
	for k := range 24 {
		z := rootOf(k)
		if got, want := angle(t, z), angleOf(z); !alike(got, want) {
			t.Errorf("Angle(%v): %v, want %v", z, got, want)
		}
	}
}

func TestAnglesAtEdges(t *testing.T) {
	for _, c := range []struct {
		z    complex128
		want float64
	}{
		{complex(1, minus0), 0}, {complex(greatest, 0), 0}, {complex(least, 0), 0}, {complex(-least, 0), 12}, {complex(-greatest, minus0), 12},
		{complex(minus0, 5), 6}, {complex(minus0, -5), -6}, {complex(0, least), 6}, {complex(0, -greatest), -6},
		// A tangent too small to be halved: the angle is rounded to 0, and is +0 on either side.
		{complex(1, least), 0}, {complex(1, -least), 0}, {complex(-1, least), 12}, {complex(-1, -least), -12},
		{complex(least, 1), 6}, {complex(-least, 1), 6}, {complex(least, -1), -6}, {complex(-least, -1), -6},
		// No quotient is left at all.
		{complex(greatest, -least), 0}, {complex(least, -greatest), -6}, {complex(-greatest, -least), -12},
	} {
		if got := angle(t, c.z); !alike(got, c.want) {
			t.Errorf("Angle(%v): %v, want %v", c.z, got, c.want)
		}
	}
}

// What is told to the bit is also near to what it stands for.
func TestAnglesAreNear(t *testing.T) {
	if nearest := float64(12 / math.Pi); q != nearest { // a constant, rounded once
		t.Errorf("q: %v, want %v", q, nearest)
	}
	for _, z := range haveAngles() {
		want := math.Atan2(math.Abs(imag(z)), real(z)) * (12 / math.Pi)
		if imag(z) < 0 { // of (-1, -0) the chapter tells 12
			want = -want
		}
		if got := angle(t, z); math.Abs(got-want) > 1e-14 {
			t.Errorf("Angle(%v): %v, far from %v", z, got, want)
		}
	}
	for k := -11; k <= 12; k++ {
		for _, size := range []float64{1, 0.1, 1e300, 1e-300} {
			if got := angle(t, turns.Phasor(size, k)); math.Abs(got-float64(k)) > 1e-14 {
				t.Errorf("Angle of %v at %d steps: %v", size, k, got)
			}
		}
	}
}

// P4.4

func TestRootsBySymmetry(t *testing.T) {
	for _, k := range steps() {
		r := turns.Root(k)
		if k <= math.MaxInt-24 && !alikeNumbers(turns.Root(k+24), r) {
			t.Errorf("Root(%d + 24): %v, want %v", k, turns.Root(k+24), r)
		}
		if k <= math.MaxInt-12 && turns.Root(k+12) != -r {
			t.Errorf("Root(%d + 12): %v, want the opposite of %v", k, turns.Root(k+12), r)
		}
		if k > math.MinInt && turns.Root(-k) != parts.Conj(r) {
			t.Errorf("Root(-%d): %v, want the conjugate of %v", k, turns.Root(-k), r)
		}
		if k >= math.MinInt+7 && turns.Root(6-k) != complex(imag(r), real(r)) {
			t.Errorf("Root(6 - %d): %v, want %v with its parts changed", k, turns.Root(6-k), r)
		}
	}
}

func TestAnglesBySymmetry(t *testing.T) {
	for _, z := range haveAngles() {
		v := angle(t, z)
		if !(-12 <= v && v <= 12) {
			t.Errorf("Angle(%v): %v", z, v)
		}
		conj := angle(t, parts.Conj(z))
		if imag(z) != 0 && conj != -v {
			t.Errorf("Angle of the conjugate of %v: %v, want the opposite of %v", z, conj, v)
		}
		if imag(z) == 0 && !alike(conj, v) {
			t.Errorf("Angle of the conjugate of %v: %v, want %v", z, conj, v)
		}
	}
}

// plain tells whether a real is neither subnormal nor infinite.
func plain(x float64) bool {
	return x == 0 || math.Abs(x) >= normal && math.Abs(x) <= greatest
}

func TestAnglesTimesPowersOfTwo(t *testing.T) {
	held := 0
	for _, z := range haveAngles() {
		if !plain(real(z)) || !plain(imag(z)) {
			continue
		}
		for _, power := range []int{-2044, -1022, -500, -60, -1, 1, 2, 53, 500, 1023, 2045} {
			re, im := math.Ldexp(real(z), power), math.Ldexp(imag(z), power)
			// A product that is not exact is not z times that power: it was rounded to nought, or up to the least real that is not subnormal.
			exact := math.Ldexp(re, -power) == real(z) && math.Ldexp(im, -power) == imag(z)
			if !plain(re) || !plain(im) || !exact {
				continue
			}
			held++
			if got, want := angle(t, complex(re, im)), angle(t, z); !alike(got, want) {
				t.Errorf("Angle of %v times 2^%d: %v, want %v", z, power, got, want)
			}
		}
	}
	if held < 1000 {
		t.Errorf("only %d angles were held against each other", held)
	}
}

func TestAnglesOfEqualParts(t *testing.T) {
	want := angleOf(complex(1, 1))
	if math.Abs(want-3) > 1e-15 {
		t.Errorf("Angle((1, 1)) comes to %v", want)
	}
	for _, x := range []float64{1, 0.1, least, 3 * least, normal - least, normal, 1e-300, 1e300, 0x1p1023, greatest} {
		if got := angle(t, complex(x, x)); !alike(got, want) {
			t.Errorf("Angle of %v twice: %v, want %v", x, got, want)
		}
	}
}

func TestAnglesAlongTheAxes(t *testing.T) {
	for _, x := range []float64{1, 0.1, least, 3 * least, normal - least, normal, 1e-300, 1e300, 0x1p1023, greatest} {
		for _, none := range []float64{0, minus0} {
			for z, want := range map[complex128]float64{
				complex(x, none): 0, complex(-x, none): 12, complex(none, x): 6, complex(none, -x): -6,
			} {
				if got := angle(t, z); !alike(got, want) {
					t.Errorf("Angle(%v): %v, want %v", z, got, want)
				}
			}
		}
	}
}

// Rule 5: a product that a caller hands in is rounded ahead of all sums, and a product that is told ahead of the caller's: where the machine can join both, the calls must not.
func TestNothingIsJoinedWithTheCallers(t *testing.T) {
	for _, x := range []float64{0.1, 0.3, 0.7} {
		for k := range 24 {
			r := rootOf(k)
			if got := real(turns.Phasor(x, k)) + times(-x, real(r)); got != 0 {
				t.Errorf("re of Phasor(%v, %d): %v too great", x, k, got)
			}
			if got := imag(turns.Phasor(x, k)) + times(-x, imag(r)); got != 0 {
				t.Errorf("im of Phasor(%v, %d): %v too great", x, k, got)
			}
			if got, want := turns.Turned(complex(x*x, x*0.9), k), product(complex(times(x, x), times(x, 0.9)), r); !alikeNumbers(got, want) {
				t.Errorf("Turned by %d: %v, want %v", k, got, want)
			}
		}
		z := complex(times(x, 0.9), times(x, x))
		v, e := turns.Angle(complex(x*0.9, x*x))
		if got := v - angleOf(z); e != api.OK || got != 0 {
			t.Errorf("Angle(%v): %v too great, %v", z, got, e)
		}
	}
}

// P1: every call ends, none panics, and one asked twice answers the same.
func TestCalm(t *testing.T) {
	for _, z := range numbers() {
		v, e := turns.Angle(z)
		if again, f := turns.Angle(z); !alike(v, again) || e != f {
			t.Errorf("Angle(%v): %v, %v, then %v, %v", z, v, e, again, f)
		}
		for _, k := range []int{math.MinInt, -1, 0, 7, math.MaxInt} {
			if first, again := turns.Turned(z, k), turns.Turned(z, k); !alikeNumbers(first, again) {
				t.Errorf("Turned(%v, %d): %v, then %v", z, k, first, again)
			}
			if first, again := turns.Phasor(real(z), k), turns.Phasor(real(z), k); !alikeNumbers(first, again) {
				t.Errorf("Phasor(%v, %d): %v, then %v", real(z), k, first, again)
			}
		}
	}
	for _, k := range steps() {
		if first, again := turns.Root(k), turns.Root(k); !alikeNumbers(first, again) {
			t.Errorf("Root(%d): %v, then %v", k, first, again)
		}
	}
}
