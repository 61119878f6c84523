package real_test

import (
	"math"
	"math/big"
	"testing"

	"gridwork/real"
)

const (
	least     = 0x1p-1074
	lastPlace = int64(0x7ff0000000000000)
)

var (
	inf     = math.Inf(1)
	nan     = math.NaN()
	minus0  = math.Copysign(0, -1)
	loudNaN = math.Float64frombits(0xfff0000000000001)
)

// alike is the document's 'the same', worked out without the package that is tested.
func alike(a, b float64) bool {
	if math.IsNaN(a) || math.IsNaN(b) {
		return math.IsNaN(a) && math.IsNaN(b)
	}
	return math.Float64bits(a) == math.Float64bits(b)
}

// edges are the reals, but NaN, at which something begins or ends, each with both signs.
func edges() []float64 {
	sizes := []float64{
		0, least, 2 * least, 3 * least, 0x1p-1022 - least, 0x1p-1022, 0x1p-1022 + least,
		0x1p-968, 0x1p-537, 0x1p-484, 0x1p-53, 0.1, 0.2, 0.5, 1 - 0x1p-53, 1, 1 + 0x1p-52, 2, 3,
		0x1p53, 0x1p53 + 2, 0x1p970, 3 * 0x1p970, 0x1p971, 0x1p1022, 0x1p1023, math.MaxFloat64, inf,
	}
	var all []float64
	for _, x := range sizes {
		all = append(all, x, -x)
	}
	return all
}

func edgesAndNaN() []float64 { return append(edges(), nan, loudNaN) }

// scatter gives reals of all bits, always the same ones.
func scatter(n int, seed uint64) []float64 {
	var all []float64
	for range n {
		seed ^= seed << 13
		seed ^= seed >> 7
		seed ^= seed << 17
		all = append(all, math.Float64frombits(seed))
	}
	return all
}

// scatterNear gives finite reals whose powers of two lie from low to high, always the same ones.
func scatterNear(n int, seed uint64, low, high int) []float64 {
	all := scatter(n, seed)
	for i, x := range all {
		bits := math.Float64bits(x)
		power := low + int(bits>>52&0x7ff)%(high-low+1)
		fraction := 1 + float64(bits&(1<<52-1))*0x1p-52
		all[i] = math.Copysign(math.Ldexp(fraction, power), x)
	}
	return all
}

// exact holds every sum and product of reals of any powers without rounding.
func exact(x float64) *big.Float { return new(big.Float).SetPrec(8192).SetFloat64(x) }

func finite(x float64) bool { return !math.IsNaN(x) && !math.IsInf(x, 0) }

// P1.1

func TestSame(t *testing.T) {
	for _, c := range []struct {
		a, b float64
		want bool
	}{
		{0, minus0, false}, {minus0, 0, false}, {0, 0, true}, {minus0, minus0, true},
		{nan, nan, true}, {nan, loudNaN, true}, {loudNaN, -nan, true},
		{nan, 1, false}, {1, nan, false}, {nan, inf, false}, {inf, loudNaN, false},
		{1, 1, true}, {1, -1, false}, {1, 1 + 0x1p-52, false},
		{inf, inf, true}, {inf, -inf, false}, {least, least, true}, {least, 0, false},
	} {
		if got := real.Same(c.a, c.b); got != c.want {
			t.Errorf("Same(%v, %v): %v", c.a, c.b, got)
		}
	}
}

func TestSameOfAllPairs(t *testing.T) {
	all := append(edgesAndNaN(), scatter(40, 1)...)
	for _, a := range all {
		for _, b := range all {
			if real.Same(a, b) != alike(a, b) {
				t.Errorf("Same(%v, %v): %v", a, b, real.Same(a, b))
			}
		}
	}
}

func TestKind(t *testing.T) {
	for _, c := range []struct {
		x    float64
		want int
	}{
		{0, 0}, {minus0, 0},
		{least, 1}, {-least, 1}, {0x1p-1023, 1}, {0x1p-1022 - least, 1}, {-(0x1p-1022 - least), 1},
		{0x1p-1022, 2}, {-0x1p-1022, 2}, {1, 2}, {-0.1, 2}, {math.MaxFloat64, 2}, {-math.MaxFloat64, 2},
		{inf, 3}, {-inf, 3}, {nan, 4}, {-nan, 4}, {loudNaN, 4},
	} {
		if got := real.Kind(c.x); got != c.want {
			t.Errorf("Kind(%v): %d, want %d", c.x, got, c.want)
		}
	}
}

// P1.2

func TestPlace(t *testing.T) {
	for _, c := range []struct {
		x    float64
		want int64
		ok   bool
	}{
		{0, 0, true}, {minus0, 0, true}, {least, 1, true}, {-least, -1, true}, {2 * least, 2, true},
		{0x1p-1022, 1 << 52, true}, {0x1p-1022 - least, 1<<52 - 1, true},
		{1, 4607182418800017408, true}, {-1, -4607182418800017408, true}, {1 + 0x1p-52, 4607182418800017409, true},
		{math.MaxFloat64, lastPlace - 1, true}, {-math.MaxFloat64, 1 - lastPlace, true},
		{inf, lastPlace, true}, {-inf, -lastPlace, true},
		{nan, 0, false}, {-nan, 0, false}, {loudNaN, 0, false},
	} {
		if got, ok := real.Place(c.x); got != c.want || ok != c.ok {
			t.Errorf("Place(%v): %d %v, want %d %v", c.x, got, ok, c.want, c.ok)
		}
	}
}

func TestAt(t *testing.T) {
	for _, c := range []struct {
		place int64
		want  float64
		ok    bool
	}{
		{0, 0, true}, {1, least, true}, {-1, -least, true}, {1 << 52, 0x1p-1022, true},
		{4607182418800017408, 1, true}, {-4607182418800017408, -1, true},
		{lastPlace - 1, math.MaxFloat64, true}, {lastPlace, inf, true},
		{1 - lastPlace, -math.MaxFloat64, true}, {-lastPlace, -inf, true},
		{lastPlace + 1, 0, false}, {-lastPlace - 1, 0, false},
		{math.MaxInt64, 0, false}, {math.MinInt64, 0, false}, {math.MinInt64 + 1, 0, false},
	} {
		if got, ok := real.At(c.place); !alike(got, c.want) || ok != c.ok {
			t.Errorf("At(%d): %v %v, want %v %v", c.place, got, ok, c.want, c.ok)
		}
	}
}

// P1.3

func TestNext(t *testing.T) {
	for _, c := range []struct {
		x    float64
		up   bool
		want float64
	}{
		{0, true, least}, {0, false, -least}, {minus0, true, least}, {minus0, false, -least},
		{-least, true, 0}, {least, false, 0}, {least, true, 2 * least}, {-least, false, -2 * least},
		{0x1p-1022 - least, true, 0x1p-1022}, {0x1p-1022, false, 0x1p-1022 - least},
		{1, true, 1 + 0x1p-52}, {1, false, 1 - 0x1p-53}, {-1, true, -1 + 0x1p-53}, {-1, false, -1 - 0x1p-52},
		{math.MaxFloat64, true, inf}, {-math.MaxFloat64, false, -inf},
		{inf, true, inf}, {inf, false, math.MaxFloat64}, {-inf, false, -inf}, {-inf, true, -math.MaxFloat64},
		{nan, true, nan}, {nan, false, nan}, {loudNaN, true, nan}, {loudNaN, false, nan},
	} {
		if got := real.Next(c.x, c.up); !alike(got, c.want) {
			t.Errorf("Next(%v, %v): %v, want %v", c.x, c.up, got, c.want)
		}
	}
}

// P1.4

func TestTwoSum(t *testing.T) {
	for _, c := range []struct{ a, b, s, e float64 }{
		{1, 0x1p-60, 1, 0x1p-60}, {0x1p-60, 1, 1, 0x1p-60},
		{0.1, 0.2, 0.30000000000000004, -2.7755575615628914e-17},
		{1, 0x1p-53, 1, 0x1p-53}, {1 + 0x1p-52, 0x1p-53, 1 + 0x1p-51, -0x1p-53},
		{0, 0, 0, 0}, {0, minus0, 0, 0}, {minus0, 0, 0, 0}, {minus0, minus0, minus0, 0},
		{5, -5, 0, 0}, {least, least, 2 * least, 0}, {0x1p-1022, -least, 0x1p-1022 - least, 0},
		{math.MaxFloat64, least, math.MaxFloat64, least}, {math.MaxFloat64, -math.MaxFloat64, 0, 0},
		// A difference on the way is too great, though the sum is not; the other way round none is.
		{-3 * 0x1p970, math.MaxFloat64, math.MaxFloat64 - 0x1p971, nan},
		{math.MaxFloat64, -3 * 0x1p970, math.MaxFloat64 - 0x1p971, -0x1p970},
		{math.MaxFloat64, math.MaxFloat64, inf, nan}, {-math.MaxFloat64, -math.MaxFloat64, -inf, nan},
		{inf, 1, inf, nan}, {1, inf, inf, nan}, {-inf, 1, -inf, nan}, {inf, inf, inf, nan}, {inf, -inf, nan, nan},
		{nan, 1, nan, nan}, {1, nan, nan, nan}, {nan, inf, nan, nan},
	} {
		if s, e := real.TwoSum(c.a, c.b); !alike(s, c.s) || !alike(e, c.e) {
			t.Errorf("TwoSum(%v, %v): %v %v, want %v %v", c.a, c.b, s, e, c.s, c.e)
		}
	}
}

// A product that is handed in is rounded ahead of the sum: where the machine can join both, the call must not.
func TestTwoSumJoinsNothing(t *testing.T) {
	for _, x := range []float64{0.1, 0.3, 0.7} {
		p := float64(x * x)
		if s, e := real.TwoSum(x*x, -p); s != 0 || e != 0 {
			t.Errorf("TwoSum(%v %v, %v): %v %v", x, x, -p, s, e)
		}
		if s, e := real.TwoSum(-p, x*x); s != 0 || e != 0 {
			t.Errorf("TwoSum(%v, %v %v): %v %v", -p, x, x, s, e)
		}
	}
}

func TestTwoProd(t *testing.T) {
	for _, c := range []struct{ a, b, p, e float64 }{
		{0.1, 0.1, 0.010000000000000002, -8.326672684688674e-19},
		{0.1, -0.1, -0.010000000000000002, 8.326672684688674e-19},
		{3, 5, 15, 0}, {-3, 5, -15, 0},
		{1 + 0x1p-52, 1 + 0x1p-52, 1 + 0x1p-51, 0x1p-104},
		{0, 5, 0, 0}, {minus0, 5, minus0, 0}, {0, -5, minus0, 0}, {minus0, minus0, 0, 0}, {0, math.MaxFloat64, 0, 0},
		// At the bound of P1.8, and where the error is too small to be told whole.
		{0x1p-484 * (1 + 0x1p-52), 0x1p-484 * (1 + 0x1p-52), 0x1p-968 * (1 + 0x1p-51), 0x1p-1072},
		{0x1p-500, 0x1p-560 * (1 + 0x1p-52), 0x1p-1060, 0},
		{0x1p-537, 0x1p-537, least, 0}, {0x1p-538, 0x1p-537, 0, 0}, {0x1.8p-538, 0x1p-537, least, minus0},
		{-0x1p-600, 0x1p-600, minus0, minus0}, {least, least, 0, 0}, {3 * least, 0.5, 2 * least, minus0},
		{5 * least, 0.5, 2 * least, 0}, {0x1p-530, 0x1.8p-544, 2 * least, minus0},
		{math.MaxFloat64, 1, math.MaxFloat64, 0}, {math.MaxFloat64, 2, inf, -inf}, {math.MaxFloat64, -2, -inf, inf},
		{inf, 1, inf, nan}, {-inf, 2, -inf, nan}, {inf, inf, inf, nan}, {inf, 0, nan, nan}, {minus0, inf, nan, nan},
		{nan, 1, nan, nan}, {1, nan, nan, nan}, {nan, 0, nan, nan},
	} {
		if p, e := real.TwoProd(c.a, c.b); !alike(p, c.p) || !alike(e, c.e) {
			t.Errorf("TwoProd(%v, %v): %v %v, want %v %v", c.a, c.b, p, e, c.p, c.e)
		}
	}
}

func TestTwoProdIsRoundedOnce(t *testing.T) {
	all := append(edges(), scatter(60, 2)...)
	all = append(all, scatterNear(60, 3, -545, -480)...)
	for _, a := range all {
		for _, b := range all {
			p, e := real.TwoProd(a, b)
			if !finite(a) || !finite(b) || !finite(p) {
				continue
			}
			product := exact(a)
			product.Mul(product, exact(b))
			wantP, _ := product.Float64()
			wantE, _ := product.Sub(product, exact(p)).Float64()
			if !alike(p, wantP) || !alike(e, wantE) {
				t.Errorf("TwoProd(%v, %v): %v %v, want %v %v", a, b, p, e, wantP, wantE)
			}
		}
	}
}

// P1.5

func TestSum(t *testing.T) {
	for _, c := range []struct {
		l    []float64
		want float64
	}{
		{nil, 0}, {[]float64{}, 0}, {[]float64{minus0}, 0}, {[]float64{minus0, minus0}, 0}, {[]float64{7}, 7},
		{[]float64{1, 0x1p-53, 0x1p-53}, 1}, {[]float64{0x1p-53, 0x1p-53, 1}, 1 + 0x1p-52},
		{[]float64{1, 0x1p60, -0x1p60}, 0}, {[]float64{0x1p60, -0x1p60, 1}, 1},
		{[]float64{math.MaxFloat64, math.MaxFloat64, -inf}, nan}, {[]float64{math.MaxFloat64, math.MaxFloat64, -1}, inf},
		{[]float64{1, nan, 2}, nan}, {[]float64{-inf, 5}, -inf},
	} {
		if got := real.Sum(c.l); !alike(got, c.want) {
			t.Errorf("Sum(%v): %v, want %v", c.l, got, c.want)
		}
	}
}

func TestSumErr(t *testing.T) {
	for _, c := range []struct {
		l    []float64
		want float64
		errs []float64
	}{
		{nil, 0, nil}, {[]float64{}, 0, nil}, {[]float64{minus0}, 0, []float64{0}}, {[]float64{7}, 7, []float64{0}},
		{[]float64{1, 0x1p-53, 0x1p-53}, 1, []float64{0, 0x1p-53, 0x1p-53}},
		{[]float64{0.1, 0.2, -0.3}, 0x1p-54, []float64{0, -2.7755575615628914e-17, 0}},
		{[]float64{1, 0x1p60, -0x1p60}, 0, []float64{0, 1, 0}},
		{[]float64{1, inf, 2}, inf, []float64{0, nan, nan}}, {[]float64{1, nan}, nan, []float64{0, nan}},
		{[]float64{math.MaxFloat64, math.MaxFloat64}, inf, []float64{0, nan}},
		// The sum so far is TwoSum's first: here it matters which is.
		{[]float64{-3 * 0x1p970, math.MaxFloat64}, math.MaxFloat64 - 0x1p971, []float64{0, nan}},
		{[]float64{math.MaxFloat64, -3 * 0x1p970}, math.MaxFloat64 - 0x1p971, []float64{0, -0x1p970}},
	} {
		s, errs := real.SumErr(c.l)
		if !alike(s, c.want) || len(errs) != len(c.errs) {
			t.Errorf("SumErr(%v): %v %v, want %v %v", c.l, s, errs, c.want, c.errs)
			continue
		}
		for i, e := range errs {
			if !alike(e, c.errs[i]) {
				t.Errorf("SumErr(%v): the error %d is %v, want %v", c.l, i, e, c.errs[i])
			}
		}
	}
}

func TestSumErrGoesByTwoSum(t *testing.T) {
	l := append(scatterNear(200, 4, -60, 60), 0.1, minus0, 0x1p-53, inf, 1, nan, 2)
	sum, errs := real.SumErr(l)
	if !alike(sum, real.Sum(l)) || len(errs) != len(l) {
		t.Fatal(sum, len(errs))
	}
	s := 0.0
	for i, x := range l {
		var e float64
		if s, e = real.TwoSum(s, x); !alike(e, errs[i]) {
			t.Errorf("the error %d is %v, want %v", i, errs[i], e)
		}
	}
}

// What was handed in stays as it was, its spare room too, and an answer shares nothing with it.
func TestSumErrAnswersNewMemory(t *testing.T) {
	room := []float64{1, 0x1p-53, 41, 42}
	l := room[:2]
	_, first := real.SumErr(l)
	_, second := real.SumErr(l)
	real.Sum(l)
	real.Greatest(l)
	for i := range first {
		first[i] = 99
	}
	first = append(first, 98, 97)
	for i, want := range []float64{1, 0x1p-53, 41, 42} {
		if room[i] != want {
			t.Error("what was handed in has changed:", room)
		}
	}
	if second[0] != 0 || second[1] != 0x1p-53 {
		t.Error("two answers share memory:", second)
	}
}

// P1.6

func TestGreatest(t *testing.T) {
	for _, c := range []struct {
		l    []float64
		at   int
		want float64
	}{
		{nil, -1, 0}, {[]float64{}, -1, 0}, {[]float64{nan}, -1, 0}, {[]float64{nan, loudNaN, -nan}, -1, 0},
		{[]float64{nan, 3, 5, 5}, 2, 5}, {[]float64{5, nan, 3}, 0, 5}, {[]float64{3, nan, 5}, 2, 5},
		{[]float64{minus0, 0}, 0, minus0}, {[]float64{0, minus0}, 0, 0}, {[]float64{-1, minus0, 0}, 1, minus0},
		{[]float64{-3, -2, -5}, 1, -2}, {[]float64{-7}, 0, -7}, {[]float64{nan, -inf}, 1, -inf}, {[]float64{-inf, -inf}, 0, -inf},
		{[]float64{-inf, -math.MaxFloat64}, 1, -math.MaxFloat64}, {[]float64{1, inf, inf, nan}, 1, inf},
		{[]float64{1, 1 + 0x1p-52}, 1, 1 + 0x1p-52}, {[]float64{0, least}, 1, least},
	} {
		if at, got := real.Greatest(c.l); at != c.at || !alike(got, c.want) {
			t.Errorf("Greatest(%v): %d %v, want %d %v", c.l, at, got, c.at, c.want)
		}
	}
}

// P1.7

func TestPlacesRiseWithTheReals(t *testing.T) {
	var all []float64
	for _, x := range append(edges(), scatter(200, 5)...) {
		if !math.IsNaN(x) {
			all = append(all, x)
		}
	}
	for _, a := range all {
		for _, b := range all {
			pa, _ := real.Place(a)
			pb, _ := real.Place(b)
			if (a < b) != (pa < pb) || (a == b) != (pa == pb) {
				t.Errorf("%v has the place %d, %v %d", a, pa, b, pb)
			}
		}
	}
}

func TestThereAndBack(t *testing.T) {
	for _, x := range append(edges(), scatter(500, 6)...) {
		p, ok := real.Place(x)
		if !ok {
			continue
		}
		want := x + 0 // +0 of -0
		if got, ok := real.At(p); !ok || !alike(got, want) {
			t.Errorf("At(Place(%v)): %v %v", x, got, ok)
		}
		if math.IsInf(x, 0) {
			continue
		}
		if got := real.Next(real.Next(x, false), true); !alike(got, want) {
			t.Errorf("Next up of Next down of %v: %v", x, got)
		}
		if got := real.Next(real.Next(x, true), false); !alike(got, want) {
			t.Errorf("Next down of Next up of %v: %v", x, got)
		}
		if up, down := real.Next(x, true), real.Next(x, false); up != math.Nextafter(x, inf) || down != math.Nextafter(x, -inf) {
			t.Errorf("next to %v: %v below, %v above", x, down, up)
		}
	}
	for _, p := range []int64{0, 1, -1, 2, -2, 1<<52 - 1, 1 << 52, -1 << 52, 4607182418800017407, lastPlace - 1, lastPlace, 1 - lastPlace, -lastPlace} {
		x, ok := real.At(p)
		if got, same := real.Place(x); !ok || !same || got != p {
			t.Errorf("Place(At(%d)): %d %v", p, got, same)
		}
	}
}

// P1.8

func TestTwoSumTakesNothingOff(t *testing.T) {
	all := append(edges(), scatter(150, 7)...)
	all = append(all, scatterNear(100, 8, -60, 60)...)
	all = append(all, scatterNear(50, 9, 960, 1021)...)
	for _, a := range all {
		for _, b := range all {
			if !(math.Abs(a) <= 0x1p1022 && math.Abs(b) <= 0x1p1022) {
				continue
			}
			s, e := real.TwoSum(a, b)
			want := exact(a)
			want.Add(want, exact(b))
			if got := exact(s); got.Add(got, exact(e)).Cmp(want) != 0 {
				t.Errorf("TwoSum(%v, %v): %v %v", a, b, s, e)
			}
		}
	}
}

func TestTwoProdTakesNothingOff(t *testing.T) {
	all := append(edges(), scatter(100, 10)...)
	all = append(all, scatterNear(100, 11, -486, -482)...)
	for _, a := range all {
		for _, b := range all {
			p, e := real.TwoProd(a, b)
			great := finite(p) && math.Abs(p) >= 0x1p-968
			if !finite(a) || !finite(b) || !(great || a == 0 || b == 0) {
				continue
			}
			want := exact(a)
			want.Mul(want, exact(b))
			if got := exact(p); got.Add(got, exact(e)).Cmp(want) != 0 {
				t.Errorf("TwoProd(%v, %v): %v %v", a, b, p, e)
			}
		}
	}
}

func TestSumErrTakesNothingOff(t *testing.T) {
	for _, l := range [][]float64{
		nil, {0x1p1022, -0x1p1022, 0x1p1022}, {least, 0x1p1022, -0x1p1022, -least}, {minus0, minus0},
		scatterNear(500, 12, -1022, 1000), scatterNear(500, 13, -30, 30), scatterNear(500, 14, 900, 1000),
	} {
		want, got := exact(0), exact(0)
		for _, x := range l {
			want.Add(want, exact(x))
		}
		s, errs := real.SumErr(l)
		got.Add(got, exact(s))
		for _, e := range errs {
			got.Add(got, exact(e))
		}
		if got.Cmp(want) != 0 {
			t.Errorf("SumErr of %d reals: %v, with its errors %v, want %v", len(l), s, got, want)
		}
	}
}

// P1: every call ends, none panics, and one asked twice answers the same.
func TestCalm(t *testing.T) {
	all := append(edgesAndNaN(), scatter(40, 15)...)
	for _, a := range all {
		for _, b := range all {
			s, e := real.TwoSum(a, b)
			if s2, e2 := real.TwoSum(a, b); !alike(s, s2) || !alike(e, e2) || !alike(s, a+b) {
				t.Errorf("TwoSum(%v, %v)", a, b)
			}
			p, e := real.TwoProd(a, b)
			if p2, e2 := real.TwoProd(a, b); !alike(p, p2) || !alike(e, e2) || !alike(p, a*b) {
				t.Errorf("TwoProd(%v, %v)", a, b)
			}
			real.Sum([]float64{a, b})
			real.SumErr([]float64{a, b})
			real.Greatest([]float64{a, b})
		}
		if kind := real.Kind(a); kind < 0 || kind > 4 {
			t.Errorf("Kind(%v): %d", a, kind)
		}
		bits := int64(math.Float64bits(a))
		for _, p := range []int64{bits, -bits, bits + 1, bits - 1} {
			if x, ok := real.At(p); math.IsNaN(x) || !ok && !alike(x, 0) {
				t.Errorf("At(%d): %v %v", p, x, ok)
			}
		}
	}
}
