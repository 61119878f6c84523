package parts_test

import (
	"math"
	"math/big"
	"testing"

	"gridwork/parts"
)

const (
	least    = 0x1p-1074
	greatest = math.MaxFloat64
)

var (
	inf     = math.Inf(1)
	nan     = math.NaN()
	minus0  = math.Copysign(0, -1)
	loudNaN = math.Float64frombits(0xfff0000000000001)
)

// The five operations, each in a function of its own that is laid into none: nothing can be joined there. What a call tells is held against them.

//go:noinline
func plus(a, b float64) float64 { return a + b }

//go:noinline
func less(a, b float64) float64 { return a - b }

//go:noinline
func times(a, b float64) float64 { return a * b }

//go:noinline
func over(a, b float64) float64 { return a / b }

//go:noinline
func root(a float64) float64 { return math.Sqrt(a) }

// alike is the document's 'the same', worked out without the packages that are tested.
func alike(a, b float64) bool {
	if math.IsNaN(a) || math.IsNaN(b) {
		return math.IsNaN(a) && math.IsNaN(b)
	}
	return math.Float64bits(a) == math.Float64bits(b)
}

func alikeNumbers(a, b complex128) bool {
	return alike(real(a), real(b)) && alike(imag(a), imag(b))
}

func hasNaN(z complex128) bool { return math.IsNaN(real(z)) || math.IsNaN(imag(z)) }

func finite(x float64) bool { return !math.IsNaN(x) && !math.IsInf(x, 0) }

// scatter gives reals of all bits, always the same ones.
func scatter(n int, seed uint64) []float64 {
	var all []float64
	for range n {
		seed ^= seed << 13
		seed ^= seed >> 7
		seed ^= seed << 17
		all = append(all, math.Float64frombits(seed))
	}
	return all
}

// scatterNear gives finite reals whose powers of two lie from low to high, always the same ones.
func scatterNear(n int, seed uint64, low, high int) []float64 {
	all := scatter(n, seed)
	for i, x := range all {
		bits := math.Float64bits(x)
		power := low + int(bits>>52&0x7ff)%(high-low+1)
		fraction := 1 + float64(bits&(1<<52-1))*0x1p-52
		all[i] = math.Copysign(math.Ldexp(fraction, power), x)
	}
	return all
}

// pairs makes numbers of reals, each with the next one.
func pairs(l []float64) []complex128 {
	var all []complex128
	for i := 0; i+1 < len(l); i += 2 {
		all = append(all, complex(l[i], l[i+1]))
	}
	return all
}

// edges are all numbers whose parts are reals at which something begins or ends, NaN among them.
func edges() []complex128 {
	sides := []float64{nan, loudNaN}
	for _, x := range []float64{0, least, 0x1p-1022, 0.1, 1, 3, 0x1p1023, greatest, inf} {
		sides = append(sides, x, -x)
	}
	var all []complex128
	for _, re := range sides {
		for _, im := range sides {
			all = append(all, complex(re, im))
		}
	}
	return all
}

// numbers are the edges, numbers of all bits, such whose parts are near each other (there every rounding shows), such whose products or squares leave the reals' range, and odd least ones.
func numbers() []complex128 {
	all := append(edges(), pairs(scatter(100, 1))...)
	all = append(all, pairs(scatterNear(100, 2, -30, 30))...)
	all = append(all, pairs(scatterNear(200, 8, -1, 1))...)
	all = append(all, pairs(scatterNear(60, 3, -560, -500))...)
	all = append(all, pairs(scatterNear(60, 4, 500, 520))...)
	all = append(all, pairs(scatterNear(40, 5, 1015, 1023))...)
	for re := -5.0; re <= 5; re++ {
		all = append(all, complex(re*least, 2*least), complex(re*least, -3*least), complex(2*least, re*least))
	}
	return all
}

// eachPair goes over pairs of all numbers.
func eachPair(do func(a, b complex128)) {
	all := numbers()
	for _, a := range all {
		for _, b := range all {
			do(a, b)
		}
	}
}

// wanted is a row of a table: what a call answered, and what it should.
type wanted struct {
	call      string
	got, want complex128
}

func look(t *testing.T, rows []wanted) {
	t.Helper()
	for _, c := range rows {
		if !alikeNumbers(c.got, c.want) {
			t.Errorf("%s: %v, want %v", c.call, c.got, c.want)
		}
	}
}

// wantedReal is such a row of a real.
type wantedReal struct {
	call      string
	got, want float64
}

func lookReal(t *testing.T, rows []wantedReal) {
	t.Helper()
	for _, c := range rows {
		if !alike(c.got, c.want) {
			t.Errorf("%s: %v, want %v", c.call, c.got, c.want)
		}
	}
}

// The chapter's examples.
func TestExamples(t *testing.T) {
	look(t, []wanted{
		{"Mul((1, 2), (3, -4))", parts.Mul(complex(1, 2), complex(3, -4)), complex(11, 2)},
		{"Div((1, 2), (3, -4))", parts.Div(complex(1, 2), complex(3, -4)), complex(-0.2, 0.4)},
		{"Div((1, 0), (0, 0))", parts.Div(1, 0), complex(nan, nan)},
		{"Div((1, 1), (+Inf, 0))", parts.Div(complex(1, 1), complex(inf, 0)), 0},
		{"Div of 1e308 four times", parts.Div(complex(1e308, 1e308), complex(1e308, 1e308)), complex(nan, 0)},
		{"Div of 5e307 four times", parts.Div(complex(5e307, 5e307), complex(5e307, 5e307)), 1},
		{"Sqrt((-4, 0))", parts.Sqrt(complex(-4, 0)), complex(0, 2)},
		{"Sqrt((-4, -0))", parts.Sqrt(complex(-4, minus0)), complex(0, -2)},
		{"Sqrt((3, 4))", parts.Sqrt(complex(3, 4)), complex(2, 1)},
		{"Sqrt((0, -0))", parts.Sqrt(complex(0, minus0)), complex(0, minus0)},
		{"Sqrt((-Inf, NaN))", parts.Sqrt(complex(-inf, nan)), complex(nan, nan)},
		{"Neg((0, 1))", parts.Neg(complex(0, 1)), complex(minus0, -1)},
		{"Conj((1, 0))", parts.Conj(1), complex(1, minus0)},
		{"Sub((0, 0), (0, 0))", parts.Sub(0, 0), 0},
	})
	lookReal(t, []wantedReal{
		{"Abs((3, -4))", parts.Abs(complex(3, -4)), 5},
		{"Abs((-0, 0))", parts.Abs(complex(minus0, 0)), 0},
		{"Abs((NaN, -Inf))", parts.Abs(complex(nan, -inf)), inf},
		{"Abs((1e300, 1e300))", parts.Abs(complex(1e300, 1e300)), 1.4142135623730951e300},
		{"Size1((3, -4))", parts.Size1(complex(3, -4)), 7},
		{"Size2((3, -4))", parts.Size2(complex(3, -4)), 25},
		{"Size1((1.5e308, 1.5e308))", parts.Size1(complex(1.5e308, 1.5e308)), inf},
	})
	plain, turned, none := complex(0, 1), complex(minus0, 1), complex(nan, 1)
	if parts.Same(plain, turned) || !parts.Equal(plain, turned) || !parts.Same(none, none) || parts.Equal(none, none) {
		t.Error("Same and Equal of noughts and NaN")
	}
}

// P2.1

func TestSameAndEqual(t *testing.T) {
	for _, c := range []struct {
		a, b        complex128
		same, equal bool
	}{
		{0, 0, true, true}, {0, complex(minus0, 0), false, true}, {0, complex(0, minus0), false, true},
		{complex(minus0, minus0), complex(minus0, minus0), true, true}, {complex(minus0, 0), complex(0, minus0), false, true},
		{complex(1, 2), complex(1, 2), true, true}, {complex(1, 2), complex(2, 1), false, false},
		{complex(1, 2), complex(1, 2+0x1p-51), false, false}, {complex(1, 2), complex(1+0x1p-52, 2), false, false},
		{complex(1, 2), complex(-1, 2), false, false}, {complex(1, 2), complex(1, -2), false, false},
		{complex(nan, 1), complex(nan, 1), true, false}, {complex(nan, 1), complex(loudNaN, 1), true, false},
		{complex(1, loudNaN), complex(1, nan), true, false}, {complex(nan, nan), complex(loudNaN, -nan), true, false},
		{complex(nan, 1), complex(1, nan), false, false}, {complex(nan, 1), complex(nan, 2), false, false},
		{complex(nan, 0), complex(nan, minus0), false, false}, {complex(nan, 1), complex(1, 1), false, false},
		{complex(1, 1), complex(1, nan), false, false}, {complex(inf, nan), complex(nan, inf), false, false},
		{complex(inf, -inf), complex(inf, -inf), true, true}, {complex(inf, inf), complex(inf, -inf), false, false},
		{complex(least, 0), 0, false, false}, {complex(0, least), 0, false, false},
		{complex(greatest, 0), complex(inf, 0), false, false},
	} {
		if parts.Same(c.a, c.b) != c.same || parts.Same(c.b, c.a) != c.same {
			t.Errorf("Same(%v, %v): not %v", c.a, c.b, c.same)
		}
		if parts.Equal(c.a, c.b) != c.equal || parts.Equal(c.b, c.a) != c.equal {
			t.Errorf("Equal(%v, %v): not %v", c.a, c.b, c.equal)
		}
	}
	eachPair(func(a, b complex128) {
		if parts.Same(a, b) != alikeNumbers(a, b) {
			t.Errorf("Same(%v, %v): %v", a, b, parts.Same(a, b))
		}
		if parts.Equal(a, b) != (a == b) {
			t.Errorf("Equal(%v, %v): %v", a, b, parts.Equal(a, b))
		}
	})
}

func TestFiniteAndZero(t *testing.T) {
	for _, c := range []struct {
		z            complex128
		finite, zero bool
	}{
		{0, true, true}, {complex(minus0, 0), true, true}, {complex(0, minus0), true, true}, {complex(minus0, minus0), true, true},
		{complex(least, 0), true, false}, {complex(0, -least), true, false}, {complex(1, 1), true, false},
		{complex(greatest, -greatest), true, false}, {complex(-0x1p1023, 0x1p-1022), true, false},
		{complex(inf, 0), false, false}, {complex(0, inf), false, false}, {complex(-inf, 0), false, false}, {complex(0, -inf), false, false},
		{complex(nan, 0), false, false}, {complex(0, nan), false, false}, {complex(loudNaN, 0), false, false}, {complex(0, loudNaN), false, false},
		{complex(inf, nan), false, false}, {complex(1, inf), false, false}, {complex(nan, 1), false, false},
	} {
		if parts.Finite(c.z) != c.finite || parts.Zero(c.z) != c.zero {
			t.Errorf("%v: Finite %v, Zero %v", c.z, parts.Finite(c.z), parts.Zero(c.z))
		}
	}
	for _, z := range numbers() {
		if parts.Finite(z) != (finite(real(z)) && finite(imag(z))) || parts.Zero(z) != (z == 0) {
			t.Errorf("%v: Finite %v, Zero %v", z, parts.Finite(z), parts.Zero(z))
		}
	}
}

// P2.2

func TestAddAndSub(t *testing.T) {
	look(t, []wanted{
		{"Add of whole numbers", parts.Add(complex(1, 2), complex(3, -5)), complex(4, -3)},
		{"Add, rounded", parts.Add(complex(0.1, 1), complex(0.2, 0x1p-53)), complex(0.30000000000000004, 1)},
		{"Add of noughts below 0", parts.Add(complex(minus0, minus0), complex(minus0, 0)), complex(minus0, 0)},
		{"Add of opposites", parts.Add(complex(5, -5), complex(-5, 5)), 0},
		{"Add, too great", parts.Add(complex(greatest, -greatest), complex(greatest, -greatest)), complex(inf, -inf)},
		{"Add of infinities", parts.Add(complex(inf, inf), complex(-inf, 1)), complex(nan, inf)},
		{"Add of NaN", parts.Add(complex(nan, 1), complex(1, 1)), complex(nan, 2)},
		{"Sub of whole numbers", parts.Sub(complex(1, 2), complex(3, -5)), complex(-2, 7)},
		{"Sub of noughts", parts.Sub(complex(minus0, minus0), complex(0, minus0)), complex(minus0, 0)},
		{"Sub of equal ones", parts.Sub(complex(-5, 5), complex(-5, 5)), 0},
		{"Sub of infinities", parts.Sub(complex(inf, inf), complex(inf, -inf)), complex(nan, inf)},
		{"Sub of NaN", parts.Sub(complex(1, 1), complex(1, nan)), complex(0, nan)},
	})
	eachPair(func(a, b complex128) {
		if want := complex(plus(real(a), real(b)), plus(imag(a), imag(b))); !alikeNumbers(parts.Add(a, b), want) {
			t.Errorf("Add(%v, %v): %v, want %v", a, b, parts.Add(a, b), want)
		}
		if want := complex(less(real(a), real(b)), less(imag(a), imag(b))); !alikeNumbers(parts.Sub(a, b), want) {
			t.Errorf("Sub(%v, %v): %v, want %v", a, b, parts.Sub(a, b), want)
		}
	})
}

func TestNegAndConj(t *testing.T) {
	turned := func(x float64) uint64 { return math.Float64bits(x) ^ 1<<63 }
	for _, z := range numbers() {
		neg, conj := parts.Neg(z), parts.Conj(z)
		if math.Float64bits(real(neg)) != turned(real(z)) || math.Float64bits(imag(neg)) != turned(imag(z)) {
			t.Errorf("Neg(%v): %v", z, neg)
		}
		if math.Float64bits(real(conj)) != math.Float64bits(real(z)) || math.Float64bits(imag(conj)) != turned(imag(z)) {
			t.Errorf("Conj(%v): %v", z, conj)
		}
	}
}

func TestScale(t *testing.T) {
	look(t, []wanted{
		{"Scale by -2", parts.Scale(-2, complex(0, 3)), complex(minus0, -6)},
		{"Scale, rounded", parts.Scale(0.1, complex(0.1, 3)), complex(0.010000000000000002, 0.30000000000000004)},
		{"Scale by -0", parts.Scale(minus0, complex(1, -1)), complex(minus0, 0)},
		{"Scale by 0, of infinities", parts.Scale(0, complex(inf, 1)), complex(nan, 0)},
		{"Scale by an infinity", parts.Scale(inf, complex(-1, 0)), complex(-inf, nan)},
		{"Scale, too great", parts.Scale(2, complex(greatest, -1)), complex(inf, -2)},
		{"Scale, too small", parts.Scale(0.5, complex(least, -3*least)), complex(0, -2*least)},
		{"Scale by NaN", parts.Scale(nan, 0), complex(nan, nan)},
	})
	eachPair(func(a, b complex128) {
		x := real(a)
		if want := complex(times(x, real(b)), times(x, imag(b))); !alikeNumbers(parts.Scale(x, b), want) {
			t.Errorf("Scale(%v, %v): %v, want %v", x, b, parts.Scale(x, b), want)
		}
	})
}

// P2.3

func TestMul(t *testing.T) {
	look(t, []wanted{
		{"Mul of i and i", parts.Mul(complex(0, 1), complex(0, 1)), -1},
		{"Mul, rounded", parts.Mul(complex(0.1, 0.1), complex(0.1, 0.1)), complex(0, 0.020000000000000004)},
		{"Mul of noughts", parts.Mul(complex(minus0, 0), complex(0, 0)), complex(minus0, 0)},
		{"Mul of an infinity", parts.Mul(complex(inf, 0), complex(0, 1)), complex(nan, inf)},
		{"Mul of infinities", parts.Mul(complex(inf, inf), complex(inf, -inf)), complex(inf, nan)},
		{"Mul, products too great", parts.Mul(complex(1e200, 1e200), complex(1e200, 1e200)), complex(nan, inf)},
		{"Mul, products too small", parts.Mul(complex(1e-200, -1e-200), complex(1e-200, 1e-200)), 0},
		{"Mul of NaN", parts.Mul(complex(nan, 1), complex(1, 1)), complex(nan, nan)},
	})
	eachPair(func(a, b complex128) {
		p, q, c, d := real(a), imag(a), real(b), imag(b)
		want := complex(less(times(p, c), times(q, d)), plus(times(p, d), times(q, c)))
		if got := parts.Mul(a, b); !alikeNumbers(got, want) {
			t.Errorf("Mul(%v, %v): %v, want %v", a, b, got, want)
		}
	})
}

// P2.4

// divided is the chapter's quotient, operation by operation.
func divided(a, b complex128) complex128 {
	p, q, c, d := real(a), imag(a), real(b), imag(b)
	if math.Abs(c) >= math.Abs(d) {
		r := over(d, c)
		t := plus(c, times(d, r))
		return complex(over(plus(p, times(q, r)), t), over(less(q, times(p, r)), t))
	}
	r := over(c, d)
	t := plus(times(c, r), d)
	return complex(over(plus(times(p, r), q), t), over(less(times(q, r), p), t))
}

func TestDiv(t *testing.T) {
	look(t, []wanted{
		{"Div by a real", parts.Div(complex(6, -9), complex(-3, 0)), complex(-2, 3)},
		{"Div by i", parts.Div(complex(6, -9), complex(0, 3)), complex(-3, -2)},
		{"Div by 2 i", parts.Div(1, complex(0, 2)), complex(0, -0.5)},
		{"Div by parts of equal size", parts.Div(complex(4, 2), complex(1, -1)), complex(1, 3)},
		{"Div by parts of equal size, below 0", parts.Div(complex(4, 2), complex(-1, -1)), complex(-3, 1)},
		{"Div, im the greater", parts.Div(complex(11, 2), complex(1, 2)), complex(3, -4)},
		// Parts of equal size go by r = d / c: the other way would tell (0, -0).
		{"Div of 0 by parts of equal size", parts.Div(0, complex(-1, 1)), complex(minus0, minus0)},
		{"Div of noughts by -i", parts.Div(complex(0, minus0), complex(0, -1)), complex(0, minus0)},
		{"Div of -0 by 1", parts.Div(complex(minus0, minus0), 1), complex(minus0, 0)},
		{"Div by 0", parts.Div(complex(1, 1), 0), complex(nan, nan)},
		{"Div by 0 and least", parts.Div(complex(0, least), complex(0, least)), 1},
		{"Div of noughts by 0", parts.Div(0, complex(0, minus0)), complex(nan, nan)},
		{"Div by +Inf and -Inf", parts.Div(1, complex(inf, -inf)), complex(nan, nan)},
		{"Div by 1 and an infinity", parts.Div(complex(1, 2), complex(1, -inf)), complex(minus0, 0)},
		{"Div of an infinity by 2", parts.Div(complex(inf, 1), 2), complex(inf, nan)},
		{"Div of an infinity by (2, 2)", parts.Div(complex(inf, 1), complex(2, 2)), complex(inf, -inf)},
		{"Div by NaN and 1", parts.Div(complex(1, 1), complex(nan, 1)), complex(nan, nan)},
		{"Div by 1 and NaN", parts.Div(complex(1, 1), complex(1, nan)), complex(nan, nan)},
		{"Div by an infinity and NaN", parts.Div(complex(1, 1), complex(inf, nan)), complex(nan, nan)},
		{"Div of NaN by 2", parts.Div(complex(nan, 1), 2), complex(nan, nan)},
		{"Div, t too great", parts.Div(complex(1, 2), complex(greatest, greatest)), 0},
		{"Div, r too small", parts.Div(complex(1, 1e300), complex(1e-200, 1e200)), complex(1e100, -1e-200)},
		{"Div, quotients too great", parts.Div(complex(1e300, -1e300), complex(1e-300, 0)), complex(inf, -inf)},
	})
	eachPair(func(a, b complex128) {
		if got, want := parts.Div(a, b), divided(a, b); !alikeNumbers(got, want) {
			t.Errorf("Div(%v, %v): %v, want %v", a, b, got, want)
		}
	})
}

func TestInv(t *testing.T) {
	look(t, []wanted{
		{"Inv(2)", parts.Inv(2), complex(0.5, 0)},
		{"Inv((2, -0))", parts.Inv(complex(2, minus0)), complex(0.5, 0)},
		{"Inv((0, -4))", parts.Inv(complex(0, -4)), complex(minus0, 0.25)},
		{"Inv((0, 4))", parts.Inv(complex(0, 4)), complex(0, -0.25)},
		{"Inv((1, 1))", parts.Inv(complex(1, 1)), complex(0.5, -0.5)},
		{"Inv(0)", parts.Inv(0), complex(nan, nan)},
		{"Inv of an infinity", parts.Inv(complex(-inf, 1)), complex(minus0, minus0)},
		{"Inv of the least", parts.Inv(complex(least, 0)), complex(inf, 0)},
		{"Inv of NaN", parts.Inv(complex(1, nan)), complex(nan, nan)},
	})
	for _, z := range numbers() {
		if got, want := parts.Inv(z), divided(complex(1, 0), z); !alikeNumbers(got, want) {
			t.Errorf("Inv(%v): %v, want %v", z, got, want)
		}
	}
}

// P2.5

func TestSizes(t *testing.T) {
	lookReal(t, []wantedReal{
		{"Size1 of noughts", parts.Size1(complex(minus0, minus0)), 0},
		{"Size1, rounded", parts.Size1(complex(-0.1, 0.2)), 0.30000000000000004},
		{"Size1 of infinities", parts.Size1(complex(inf, -inf)), inf},
		{"Size1 of an infinity and NaN", parts.Size1(complex(inf, nan)), nan},
		{"Size1 of NaN", parts.Size1(complex(1, loudNaN)), nan},
		{"Size2 of noughts", parts.Size2(complex(minus0, minus0)), 0},
		{"Size2, rounded", parts.Size2(complex(0.1, 0.1)), 0.020000000000000004},
		{"Size2, too great", parts.Size2(complex(1e200, 0)), inf},
		{"Size2, too small", parts.Size2(complex(1e-200, -1e-200)), 0},
		{"Size2 of infinities", parts.Size2(complex(-inf, 1)), inf},
		{"Size2 of an infinity and NaN", parts.Size2(complex(-inf, nan)), nan},
	})
	for _, z := range numbers() {
		re, im := real(z), imag(z)
		if got, want := parts.Size1(z), plus(math.Abs(re), math.Abs(im)); !alike(got, want) {
			t.Errorf("Size1(%v): %v, want %v", z, got, want)
		}
		if got, want := parts.Size2(z), plus(times(re, re), times(im, im)); !alike(got, want) {
			t.Errorf("Size2(%v): %v, want %v", z, got, want)
		}
	}
}

// absolute is the chapter's absolute value, operation by operation.
func absolute(z complex128) float64 {
	re, im := math.Abs(real(z)), math.Abs(imag(z))
	switch {
	case re == inf || im == inf:
		return inf
	case re == 0 && im == 0:
		return 0
	case hasNaN(z):
		return nan
	}
	w := over(min(re, im), max(re, im))
	return times(max(re, im), root(plus(1, times(w, w))))
}

func TestAbs(t *testing.T) {
	lookReal(t, []wantedReal{
		{"Abs((-4, 3))", parts.Abs(complex(-4, 3)), 5},
		{"Abs((5, 12))", parts.Abs(complex(5, 12)), 13},
		{"Abs of both noughts below 0", parts.Abs(complex(minus0, minus0)), 0},
		{"Abs of parts of equal size", parts.Abs(complex(1, -1)), math.Sqrt2},
		{"Abs of a real", parts.Abs(complex(-7, 0)), 7},
		{"Abs, im alone", parts.Abs(complex(minus0, -7)), 7},
		{"Abs of the least", parts.Abs(complex(least, 0)), least},
		{"Abs of the least twice", parts.Abs(complex(least, least)), least},
		{"Abs of the greatest", parts.Abs(complex(0, -greatest)), greatest},
		{"Abs of the greatest twice", parts.Abs(complex(greatest, greatest)), inf},
		{"Abs, w w too small", parts.Abs(complex(1e300, 1e-300)), 1e300},
		{"Abs, the least real's w", parts.Abs(complex(1, 1e-9)), 1},
		{"Abs of an infinity", parts.Abs(complex(-inf, 1)), inf},
		{"Abs of an infinity and NaN", parts.Abs(complex(-inf, nan)), inf},
		{"Abs of NaN and an infinity", parts.Abs(complex(loudNaN, inf)), inf},
		{"Abs of NaN and 0", parts.Abs(complex(nan, 0)), nan},
		{"Abs of 0 and NaN", parts.Abs(complex(0, nan)), nan},
		{"Abs of 1 and NaN", parts.Abs(complex(1, nan)), nan},
		{"Abs of NaN twice", parts.Abs(complex(nan, nan)), nan},
	})
	for _, z := range numbers() {
		if got, want := parts.Abs(z), absolute(z); !alike(got, want) {
			t.Errorf("Abs(%v): %v, want %v", z, got, want)
		}
	}
}

// P2.6

// rooted is the chapter's square root, operation by operation.
func rooted(z complex128) complex128 {
	re, im := real(z), imag(z)
	switch {
	case hasNaN(z):
		return complex(nan, nan)
	case z == 0:
		return complex(0, im)
	case re >= 0:
		u := root(plus(over(absolute(z), 2), over(re, 2)))
		return complex(u, over(im, times(2, u)))
	}
	v := root(less(over(absolute(z), 2), over(re, 2)))
	return complex(math.Abs(over(im, times(2, v))), math.Copysign(v, im))
}

func TestSqrt(t *testing.T) {
	look(t, []wanted{
		{"Sqrt(9)", parts.Sqrt(9), 3},
		{"Sqrt((9, -0))", parts.Sqrt(complex(9, minus0)), complex(3, minus0)},
		{"Sqrt((0, 2))", parts.Sqrt(complex(0, 2)), complex(1, 1)},
		{"Sqrt((-0, -2))", parts.Sqrt(complex(minus0, -2)), complex(1, -1)},
		{"Sqrt((-3, 4))", parts.Sqrt(complex(-3, 4)), complex(1, 2)},
		{"Sqrt((-3, -4))", parts.Sqrt(complex(-3, -4)), complex(1, -2)},
		{"Sqrt((3, -4))", parts.Sqrt(complex(3, -4)), complex(2, -1)},
		{"Sqrt((0, 0))", parts.Sqrt(0), 0},
		{"Sqrt((-0, 0))", parts.Sqrt(complex(minus0, 0)), 0},
		{"Sqrt((-0, -0))", parts.Sqrt(complex(minus0, minus0)), complex(0, minus0)},
		{"Sqrt((+Inf, 1))", parts.Sqrt(complex(inf, 1)), complex(inf, 0)},
		{"Sqrt((+Inf, -1))", parts.Sqrt(complex(inf, -1)), complex(inf, minus0)},
		{"Sqrt((-Inf, 1))", parts.Sqrt(complex(-inf, 1)), complex(0, inf)},
		{"Sqrt((-Inf, -0))", parts.Sqrt(complex(-inf, minus0)), complex(0, -inf)},
		{"Sqrt((1, +Inf))", parts.Sqrt(complex(1, inf)), complex(inf, nan)},
		{"Sqrt((-1, -Inf))", parts.Sqrt(complex(-1, -inf)), complex(nan, -inf)},
		{"Sqrt((-Inf, +Inf))", parts.Sqrt(complex(-inf, inf)), complex(nan, inf)},
		{"Sqrt((NaN, 0))", parts.Sqrt(complex(nan, 0)), complex(nan, nan)},
		{"Sqrt((0, NaN))", parts.Sqrt(complex(0, nan)), complex(nan, nan)},
		{"Sqrt((NaN, +Inf))", parts.Sqrt(complex(loudNaN, inf)), complex(nan, nan)},
		{"Sqrt of the greatest", parts.Sqrt(complex(greatest, 0)), complex(math.Sqrt(greatest), 0)},
		{"Sqrt of the greatest twice", parts.Sqrt(complex(greatest, greatest)), complex(inf, 0)},
		// A half of the least real is rounded to 0: no root is left, and what follows is a quotient by 0.
		{"Sqrt of the least", parts.Sqrt(complex(least, 0)), complex(0, nan)},
		{"Sqrt of the least, below 0", parts.Sqrt(complex(-least, 0)), complex(nan, 0)},
		{"Sqrt of the least im", parts.Sqrt(complex(0, -least)), complex(0, -inf)},
		{"Sqrt of 2 least", parts.Sqrt(complex(2*least, 0)), complex(math.Sqrt(2*least), 0)},
		// Both halves are rounded ahead of their sum: 5 / 2 to 2.
		{"Sqrt of least ones", parts.Sqrt(complex(2*least, 5*least)), complex(math.Sqrt(3*least), 5*least/(2*math.Sqrt(3*least)))},
		{"Sqrt of least ones, below 0", parts.Sqrt(complex(-2*least, 5*least)), complex(5*least/(2*math.Sqrt(3*least)), math.Sqrt(3*least))},
	})
	for _, z := range numbers() {
		if got, want := parts.Sqrt(z), rooted(z); !alikeNumbers(got, want) {
			t.Errorf("Sqrt(%v): %v, want %v", z, got, want)
		}
	}
}

// P2.7

func TestEitherWayRound(t *testing.T) {
	eachPair(func(a, b complex128) {
		if !alikeNumbers(parts.Add(a, b), parts.Add(b, a)) || !alikeNumbers(parts.Mul(a, b), parts.Mul(b, a)) {
			t.Errorf("Add or Mul of %v and %v", a, b)
		}
		if !alikeNumbers(parts.Sub(a, b), parts.Add(a, parts.Neg(b))) {
			t.Errorf("Sub of %v and %v", a, b)
		}
	})
}

func TestConjugates(t *testing.T) {
	hold := func(call string, a, b, plain, ofConj complex128) {
		if !hasNaN(a) && !hasNaN(b) && !hasNaN(plain) && ofConj != parts.Conj(plain) {
			t.Errorf("%s of the conjugates of %v and %v: %v, want the conjugate of %v", call, a, b, ofConj, plain)
		}
	}
	eachPair(func(a, b complex128) {
		ca, cb := parts.Conj(a), parts.Conj(b)
		hold("Mul", a, b, parts.Mul(a, b), parts.Mul(ca, cb))
		hold("Div", a, b, parts.Div(a, b), parts.Div(ca, cb))
	})
	for _, z := range numbers() {
		hold("Inv", z, 1, parts.Inv(z), parts.Inv(parts.Conj(z)))
		if got, want := parts.Sqrt(parts.Conj(z)), parts.Conj(parts.Sqrt(z)); !alikeNumbers(got, want) {
			t.Errorf("Sqrt of the conjugate of %v: %v, want %v", z, got, want)
		}
	}
}

func TestMulWithOne(t *testing.T) {
	for _, z := range numbers() {
		if parts.Finite(z) && (parts.Mul(z, 1) != z || parts.Mul(1, z) != z) {
			t.Errorf("Mul of %v and 1: %v", z, parts.Mul(z, 1))
		}
	}
}

func TestSizesBySymmetry(t *testing.T) {
	for _, z := range numbers() {
		abs, size := parts.Abs(z), parts.Size1(z)
		for _, y := range []complex128{parts.Neg(z), parts.Conj(z), complex(imag(z), real(z))} {
			if !alike(parts.Abs(y), abs) || !alike(parts.Size1(y), size) {
				t.Errorf("%v: Abs %v, Size1 %v; %v: %v, %v", z, abs, size, y, parts.Abs(y), parts.Size1(y))
			}
		}
	}
}

// P2.8

func TestAbsLiesBetween(t *testing.T) {
	all := numbers()
	for _, power := range []int{-60, -53, -52, -27, -26, -25, -1} { // of one part over the other, where 1 + w w begins to be above 1
		for _, x := range scatterNear(200, 6, -1000, 1000) {
			all = append(all, complex(x, math.Ldexp(x, power)), complex(math.Ldexp(-x, power), math.Nextafter(x, 0)))
		}
	}
	for _, z := range all {
		if !parts.Finite(z) {
			continue
		}
		abs, greater := parts.Abs(z), max(math.Abs(real(z)), math.Abs(imag(z)))
		if !(greater <= abs && abs <= parts.Size1(z)) {
			t.Errorf("Abs(%v): %v, the greater part's size %v, Size1 %v", z, abs, greater, parts.Size1(z))
		}
		if re := real(parts.Sqrt(z)); re < 0 || math.Signbit(re) && re == re {
			t.Errorf("Sqrt(%v): re is %v", z, re)
		}
	}
}

// Rule 5: a product that a caller hands in is rounded ahead of all sums, and a product that is told ahead of the caller's: where the machine can join both, the calls must not.
func TestNothingIsJoinedWithTheCallers(t *testing.T) {
	for _, x := range []float64{0.1, 0.3, 0.7} {
		p := times(x, x)
		if got := parts.Add(complex(x*x, x*x), complex(-p, -p)); got != 0 {
			t.Errorf("Add of %v squared and %v: %v", x, -p, got)
		}
		if got := parts.Sub(complex(-p, x*x), complex(-(x*x), p)); got != 0 {
			t.Errorf("Sub of %v and %v squared: %v", p, x, got)
		}
		if got := parts.Size1(complex(x*x, p)); got != 2*p {
			t.Errorf("Size1 of %v squared and %v: %v", x, p, got)
		}
		opposite := times(-x, x)
		if got := real(parts.Scale(x, complex(x, x))) + opposite; got != 0 {
			t.Errorf("Scale of %v, less %v: %v", x, p, got)
		}
		if got := imag(parts.Scale(x, complex(x, x))) + opposite; got != 0 {
			t.Errorf("Scale of %v, less %v: %v", x, p, got)
		}
		if got := parts.Abs(complex(x, x)) + times(-x, root(2)); got != 0 {
			t.Errorf("Abs of %v twice: %v too great", x, got)
		}
	}
}

// What is told to the bit is also near to what it stands for, held against exact arithmetic.
func TestNearToWhatItStandsFor(t *testing.T) {
	exact := func(x float64) *big.Float { return new(big.Float).SetPrec(4096).SetFloat64(x) }
	square := func(z complex128) (*big.Float, *big.Float) {
		re, im := exact(real(z)), exact(imag(z))
		both := new(big.Float).Mul(re, im)
		re.Mul(re, re)
		return re.Sub(re, im.Mul(im, im)), both.Add(both, both)
	}
	near := func(call string, z complex128, re, im *big.Float, want complex128) {
		re.Sub(re, exact(real(want)))
		im.Sub(im, exact(imag(want)))
		bound := exact(parts.Abs(want) * 0x1p-50)
		if re.Abs(re).Cmp(bound) > 0 || im.Abs(im).Cmp(bound) > 0 {
			t.Errorf("%s of %v is far from what it stands for", call, z)
		}
	}
	l := pairs(scatterNear(400, 7, -20, 20))
	for i, a := range l {
		b := l[len(l)-1-i]
		re, im := square(parts.Sqrt(a))
		near("Sqrt", a, re, im, a)
		re, _ = square(complex(parts.Abs(a), 0))
		want, _ := square(complex(imag(a), 0))
		ofRe, _ := square(complex(real(a), 0))
		sum, _ := want.Add(want, ofRe).Float64()
		near("Abs", a, re, exact(0), complex(sum, 0))
		q := parts.Div(a, b)
		re, im = exact(real(q)), exact(imag(q))
		c, d := exact(real(b)), exact(imag(b))
		cross := new(big.Float).Mul(im, d)
		other := new(big.Float).Mul(re, d)
		near("Div", a, re.Sub(re.Mul(re, c), cross), im.Add(im.Mul(im, c), other), a)
	}
}

// P1: every call ends, none panics, and one asked twice answers the same.
func TestCalm(t *testing.T) {
	for _, call := range []func(a, b complex128) complex128{parts.Add, parts.Sub, parts.Mul, parts.Div} {
		eachPair(func(a, b complex128) {
			if first := call(a, b); !alikeNumbers(first, call(a, b)) {
				t.Errorf("of %v and %v: %v, then %v", a, b, first, call(a, b))
			}
		})
	}
	for _, call := range []func(z complex128) complex128{parts.Inv, parts.Neg, parts.Conj, parts.Sqrt} {
		for _, z := range numbers() {
			if first := call(z); !alikeNumbers(first, call(z)) {
				t.Errorf("of %v: %v, then %v", z, first, call(z))
			}
		}
	}
}
