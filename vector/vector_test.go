package vector_test

import (
	"math"
	"slices"
	"testing"

	"gridwork/api"
	"gridwork/vector"
)

const (
	least    = 0x1p-1074
	greatest = math.MaxFloat64
	most     = 65536 // numbers of a vector
)

var (
	inf     = math.Inf(1)
	nan     = math.NaN()
	minus0  = math.Copysign(0, -1)
	loudNaN = math.Float64frombits(0xfff0000000000001)
)

// The operations, each in a function of its own that is laid into none: nothing can be joined there. What a call tells is held against them.

//go:noinline
func plus(a, b float64) float64 { return a + b }

//go:noinline
func less(a, b float64) float64 { return a - b }

//go:noinline
func times(a, b float64) float64 { return a * b }

func sum(a, b complex128) complex128 {
	return complex(plus(real(a), real(b)), plus(imag(a), imag(b)))
}

func difference(a, b complex128) complex128 {
	return complex(less(real(a), real(b)), less(imag(a), imag(b)))
}

func product(a, b complex128) complex128 {
	p, q, c, d := real(a), imag(a), real(b), imag(b)
	return complex(less(times(p, c), times(q, d)), plus(times(p, d), times(q, c)))
}

func conjugate(z complex128) complex128 {
	return complex(real(z), math.Float64frombits(math.Float64bits(imag(z))^1<<63))
}

func size1(z complex128) float64 {
	return plus(math.Abs(real(z)), math.Abs(imag(z)))
}

// alike is the document's 'the same', worked out without the packages that are tested.
func alike(a, b float64) bool {
	if math.IsNaN(a) || math.IsNaN(b) {
		return math.IsNaN(a) && math.IsNaN(b)
	}
	return math.Float64bits(a) == math.Float64bits(b)
}

func alikeNumbers(a, b complex128) bool {
	return alike(real(a), real(b)) && alike(imag(a), imag(b))
}

func alikeVectors(a, b []complex128) bool {
	return slices.EqualFunc(a, b, alikeNumbers)
}

func finite(x float64) bool { return !math.IsNaN(x) && !math.IsInf(x, 0) }

func finiteNumber(z complex128) bool { return finite(real(z)) && finite(imag(z)) }

func finiteVector(l []complex128) bool {
	return !slices.ContainsFunc(l, func(z complex128) bool { return !finiteNumber(z) })
}

// scatter gives whole numbers of 64 bits, always the same ones.
func scatter(n int, seed uint64) []uint64 {
	var all []uint64
	for range n {
		seed ^= seed << 13
		seed ^= seed >> 7
		seed ^= seed << 17
		all = append(all, seed)
	}
	return all
}

// near gives a vector of finite numbers whose parts' powers of two lie from low to high, always the same one.
func near(n int, seed uint64, low, high int) []complex128 {
	part := func(bits uint64) float64 {
		power := low + int(bits>>52&0x7ff)%(high-low+1)
		x := math.Ldexp(1+float64(bits&(1<<52-1))*0x1p-52, power)
		if bits>>63 != 0 {
			return -x
		}
		return x
	}
	var all []complex128
	bits := scatter(2*n, seed)
	for i := range n {
		all = append(all, complex(part(bits[2*i]), part(bits[2*i+1])))
	}
	return all
}

// edges are all numbers whose parts are reals at which something begins or ends, NaN among them.
func edges() []complex128 {
	sides := []float64{nan, loudNaN}
	for _, x := range []float64{0, least, 0.1, 1, 0x1p1023, greatest, inf} {
		sides = append(sides, x, -x)
	}
	var all []complex128
	for _, re := range sides {
		for _, im := range sides {
			all = append(all, complex(re, im))
		}
	}
	return all
}

// vectors are none; each edge alone; an edge among other numbers; and numbers near each other (there every rounding, and the order of a sum, shows), or such whose products leave the reals' range.
func vectors() [][]complex128 {
	all := [][]complex128{nil, {}}
	for i, z := range edges() {
		all = append(all, []complex128{z})
		if i%5 == 0 {
			all = append(all, []complex128{complex(1.5, -3), z, complex(0.1, 0.7)})
		}
	}
	for i := range 40 {
		seed := uint64(i + 1)
		all = append(all, near(1, seed, -1, 1), near(2, seed, -1, 1), near(3, seed, -1, 1), near(7, seed, -2, 2), near(64, seed, -30, 30))
		all = append(all, near(3, seed, -545, -530), near(3, seed, 508, 513), near(7, seed, 1019, 1023))
	}
	return append(all, near(1000, 41, -3, 3), near(1000, 42, -3, 3))
}

// eachPair goes over all pairs of vectors that have as many numbers.
func eachPair(do func(a, b []complex128)) {
	all := vectors()
	for _, a := range all {
		for _, b := range all {
			if len(a) == len(b) {
				do(a, b)
			}
		}
	}
}

// factors are the numbers by which vectors are multiplied.
func factors() []complex128 {
	return append(near(6, 43, -1, 1), 0, 1, complex(0, 1), complex(minus0, minus0), complex(-2, 0.1), complex(0x1p1000, -0x1p-1000),
		complex(inf, 0), complex(0, -inf), complex(nan, 1), complex(1, nan))
}

// placed is what a function makes of two vectors, place by place.
func placed(a, b []complex128, of func(p, q complex128) complex128) []complex128 {
	var all []complex128
	for i := 0; i < len(a); i++ {
		all = append(all, of(a[i], b[i]))
	}
	return all
}

// dotted is the chapter's Dot, step by step.
func dotted(a, b []complex128) complex128 {
	s := complex(0, 0)
	for i := 0; i < len(a); i++ {
		s = sum(s, product(a[i], b[i]))
	}
	return s
}

// A pairCall takes two vectors and answers a list or a number, the other one being nil or (0, 0).
type pairCall struct {
	name string
	call func(a, b []complex128) ([]complex128, complex128, api.Errno)
}

// pairCalls are the calls that two vectors are handed to.
func pairCalls() []pairCall {
	list := func(call func(a, b []complex128) ([]complex128, api.Errno)) func(a, b []complex128) ([]complex128, complex128, api.Errno) {
		return func(a, b []complex128) ([]complex128, complex128, api.Errno) {
			l, e := call(a, b)
			return l, 0, e
		}
	}
	number := func(call func(a, b []complex128) (complex128, api.Errno)) func(a, b []complex128) ([]complex128, complex128, api.Errno) {
		return func(a, b []complex128) ([]complex128, complex128, api.Errno) {
			z, e := call(a, b)
			return nil, z, e
		}
	}
	axpy := func(x, y []complex128) ([]complex128, api.Errno) { return vector.Axpy(complex(2, -3), x, y) }
	return []pairCall{
		{"Add", list(vector.Add)}, {"Sub", list(vector.Sub)}, {"Axpy", list(axpy)},
		{"Dot", number(vector.Dot)}, {"Inner", number(vector.Inner)},
	}
}

// listCalls are the calls that tell a list; those of one vector are handed the first.
func listCalls() map[string]func(a, b []complex128) []complex128 {
	all := map[string]func(a, b []complex128) []complex128{
		"Scale": func(a, _ []complex128) []complex128 { return vector.Scale(complex(2, -3), a) },
		"Conj":  func(a, _ []complex128) []complex128 { return vector.Conj(a) },
	}
	for _, c := range pairCalls()[:3] {
		all[c.name] = func(a, b []complex128) []complex128 {
			l, _, _ := c.call(a, b)
			return l
		}
	}
	return all
}

// asked asks a call of two vectors that must not be refused.
func asked[T any](t *testing.T, call func(a, b []complex128) (T, api.Errno), a, b []complex128) T {
	t.Helper()
	got, e := call(a, b)
	if e != api.OK {
		t.Errorf("of %v and %v: refused, %d", a, b, e)
	}
	return got
}

// The chapter's examples.
func TestExamples(t *testing.T) {
	a, b := []complex128{complex(1, 2), complex(3, 4)}, []complex128{complex(0, -2), complex(1, 1)}
	if got, e := vector.Add(a, b); e != api.OK || !alikeVectors(got, []complex128{complex(1, 0), complex(4, 5)}) {
		t.Errorf("Add: %v, %d", got, e)
	}
	if got, e := vector.Sub(a, b); e != api.OK || !alikeVectors(got, []complex128{complex(1, 4), complex(2, 3)}) {
		t.Errorf("Sub: %v, %d", got, e)
	}
	a, b = []complex128{complex(1, 1), complex(2, 0)}, []complex128{complex(1, -1), complex(0, 3)}
	if got, e := vector.Dot(a, b); e != api.OK || !alikeNumbers(got, complex(2, 6)) {
		t.Errorf("Dot: %v, %d", got, e)
	}
	if got, e := vector.Inner(a, b); e != api.OK || !alikeNumbers(got, complex(0, 4)) {
		t.Errorf("Inner: %v, %d", got, e)
	}
	got, e := vector.Axpy(complex(0, 1), []complex128{complex(1, 0), complex(0, 1)}, []complex128{complex(5, 5), complex(5, 5)})
	if e != api.OK || !alikeVectors(got, []complex128{complex(5, 6), complex(4, 5)}) {
		t.Errorf("Axpy: %v, %d", got, e)
	}
	l := []complex128{complex(3, -4), complex(0, 1), complex(-2, 0)}
	if one, greatest := vector.Norm1(l), vector.NormMax(l); one != 10 || greatest != 7 {
		t.Errorf("Norm1 %v, NormMax %v", one, greatest)
	}
	if got, e := vector.Dot(nil, nil); e != api.OK || !alikeNumbers(got, 0) {
		t.Errorf("Dot of none: %v, %d", got, e)
	}
	if got, e := vector.Add(a[:1], b); e != api.ErrShape || len(got) != 0 {
		t.Errorf("Add of one and of two numbers: %v, %d", got, e)
	}
	if got := vector.Norm1([]complex128{complex(nan, 0)}); got == got {
		t.Errorf("Norm1 of NaN: %v", got)
	}
	if got := vector.NormMax([]complex128{complex(nan, 0), 1}); got != 1 {
		t.Errorf("NormMax of NaN and 1: %v", got)
	}
	if got := vector.NormMax([]complex128{complex(0x1p1023, 0x1p1023)}); got != inf {
		t.Errorf("NormMax of 2^1023 twice: %v", got)
	}
}

// P6.1

func TestErrors(t *testing.T) {
	if api.MaxVector != most || api.ErrLong != 3 || api.ErrShape != 4 {
		t.Fatal("the limit and the errors' numbers")
	}
	numbers := near(most+2, 44, -1, 1)
	for _, c := range []struct {
		a, b int
		want api.Errno
	}{
		{0, 0, api.OK}, {1, 1, api.OK}, {2, 2, api.OK}, {most - 1, most - 1, api.OK}, {most, most, api.OK},
		{0, 1, api.ErrShape}, {1, 0, api.ErrShape}, {1, 2, api.ErrShape}, {2, 1, api.ErrShape}, {64, 65, api.ErrShape},
		{most, most - 1, api.ErrShape}, {most - 1, most, api.ErrShape}, {most, 0, api.ErrShape}, {0, most, api.ErrShape},
		// Too long comes ahead of unlike lengths, on either side.
		{most + 1, most + 1, api.ErrLong}, {most + 1, most, api.ErrLong}, {most, most + 1, api.ErrLong},
		{most + 1, 0, api.ErrLong}, {0, most + 1, api.ErrLong}, {most + 1, 1, api.ErrLong}, {1, most + 1, api.ErrLong},
		{most + 2, most + 1, api.ErrLong}, {most + 1, most + 2, api.ErrLong},
	} {
		for _, p := range pairCalls() {
			l, z, e := p.call(numbers[:c.a], numbers[:c.b])
			if e != c.want {
				t.Errorf("%s of %d and of %d numbers: %d, want %d", p.name, c.a, c.b, e, c.want)
			}
			if e != api.OK && (len(l) != 0 || !alikeNumbers(z, 0)) {
				t.Errorf("%s of %d and of %d numbers: refused, but tells %d numbers, or %v", p.name, c.a, c.b, len(l), z)
			}
		}
	}
}

func TestErrorsWhateverTheNumbersAre(t *testing.T) {
	odd := []complex128{complex(nan, inf), complex(-inf, nan)}
	for _, p := range pairCalls() {
		if l, z, e := p.call(odd, odd[:1]); e != api.ErrShape || len(l) != 0 || z != 0 {
			t.Errorf("%s of two and of one that are not finite: %v, %v, %d", p.name, l, z, e)
		}
		if _, _, e := p.call(odd, odd); e != api.OK {
			t.Errorf("%s of what is not finite: %d", p.name, e)
		}
	}
}

func TestNilAndEmptyAreTheSame(t *testing.T) {
	none, one := make([]complex128, 0, 4), []complex128{1}
	for _, p := range pairCalls() {
		for _, a := range [][]complex128{nil, none} {
			for _, b := range [][]complex128{nil, none} {
				if l, z, e := p.call(a, b); e != api.OK || len(l) != 0 || !alikeNumbers(z, 0) {
					t.Errorf("%s of none: %v, %v, %d", p.name, l, z, e)
				}
			}
			if _, _, e := p.call(a, one); e != api.ErrShape {
				t.Errorf("%s of none and one: %d", p.name, e)
			}
			if _, _, e := p.call(one, a); e != api.ErrShape {
				t.Errorf("%s of one and none: %d", p.name, e)
			}
		}
	}
	for _, x := range [][]complex128{nil, none} {
		if len(vector.Scale(2, x)) != 0 || len(vector.Conj(x)) != 0 {
			t.Error("Scale or Conj of none")
		}
		if !alike(vector.Norm1(x), 0) || !alike(vector.NormMax(x), 0) {
			t.Errorf("of none: Norm1 %v, NormMax %v", vector.Norm1(x), vector.NormMax(x))
		}
	}
}

// Calls of one vector name no error: they take one of any length.
func TestLongerThanTheLimit(t *testing.T) {
	for _, n := range []int{most, most + 1, 3 * most} {
		x := slices.Repeat([]complex128{complex(1, -1)}, n)
		x[n-1] = complex(3, 0)
		if got := vector.Scale(2, x); len(got) != n || got[0] != complex(2, -2) || got[n-2] != complex(2, -2) || got[n-1] != 6 {
			t.Errorf("Scale of %d numbers", n)
		}
		if got := vector.Conj(x); len(got) != n || got[0] != complex(1, 1) || got[n-2] != complex(1, 1) || got[n-1] != 3 {
			t.Errorf("Conj of %d numbers", n)
		}
		if got := vector.Norm1(x); got != float64(2*n+1) {
			t.Errorf("Norm1 of %d numbers: %v", n, got)
		}
		if got := vector.NormMax(x); got != 3 {
			t.Errorf("NormMax of %d numbers: %v", n, got)
		}
	}
}

// P6.2

func TestPlaceByPlace(t *testing.T) {
	a := []complex128{complex(0.1, minus0), complex(inf, nan), complex(greatest, 1), complex(minus0, 5)}
	b := []complex128{complex(0.2, minus0), complex(-inf, 1), complex(greatest, 0x1p-54), complex(minus0, -5)}
	if got, e := vector.Add(a, b); e != api.OK || !alikeVectors(got, []complex128{complex(0.30000000000000004, minus0), complex(nan, nan), complex(inf, 1), complex(minus0, 0)}) {
		t.Errorf("Add: %v, %d", got, e)
	}
	if got, e := vector.Sub(a, b); e != api.OK || !alikeVectors(got, []complex128{complex(-0.1, 0), complex(inf, nan), complex(0, 1), complex(0, 10)}) {
		t.Errorf("Sub: %v, %d", got, e)
	}
	eachPair(func(a, b []complex128) {
		if got, want := asked(t, vector.Add, a, b), placed(a, b, sum); !alikeVectors(got, want) {
			t.Errorf("Add(%v, %v): %v, want %v", a, b, got, want)
		}
		if got, want := asked(t, vector.Sub, a, b), placed(a, b, difference); !alikeVectors(got, want) {
			t.Errorf("Sub(%v, %v): %v, want %v", a, b, got, want)
		}
	})
}

func TestAxpy(t *testing.T) {
	x, y := []complex128{complex(1, 2), complex(0, minus0), complex(inf, 0)}, []complex128{complex(10, 20), complex(minus0, minus0), 1}
	if got, e := vector.Axpy(complex(3, -1), x, y); e != api.OK || !alikeVectors(got, []complex128{complex(15, 25), complex(0, minus0), complex(inf, -inf)}) {
		t.Errorf("Axpy: %v, %d", got, e)
	}
	// The product is rounded ahead of the sum: joined, 0.1 0.1 less its rounded self would not be nought.
	p := times(0.1, 0.1)
	if got, e := vector.Axpy(0.1, []complex128{0.1}, []complex128{complex(-p, 0)}); e != api.OK || !alikeVectors(got, []complex128{0}) {
		t.Errorf("Axpy of 0.1 squared, less that: %v, %d", got, e)
	}
	// Nothing is left out for t being nought: a nought times an infinity shows, and a -0 of y becomes +0.
	if got, e := vector.Axpy(0, []complex128{complex(inf, 1), 1}, []complex128{7, complex(minus0, minus0)}); e != api.OK || !alikeVectors(got, []complex128{complex(nan, nan), 0}) {
		t.Errorf("Axpy by 0: %v, %d", got, e)
	}
	eachPair(func(x, y []complex128) {
		for _, k := range factors() {
			want := placed(x, y, func(ofX, ofY complex128) complex128 { return sum(ofY, product(k, ofX)) })
			if got, e := vector.Axpy(k, x, y); e != api.OK || !alikeVectors(got, want) {
				t.Errorf("Axpy(%v, %v, %v): %v, %d, want %v", k, x, y, got, e, want)
			}
		}
	})
}

func TestScaleAndConj(t *testing.T) {
	x := []complex128{complex(1, 0), complex(-2, 3), complex(minus0, minus0), complex(inf, -inf), complex(nan, 1)}
	if got := vector.Conj(x); !alikeVectors(got, []complex128{complex(1, minus0), complex(-2, -3), complex(minus0, 0), complex(inf, inf), complex(nan, -1)}) {
		t.Errorf("Conj: %v", got)
	}
	if got := vector.Scale(complex(0, 1), x); !alikeVectors(got, []complex128{complex(0, 1), complex(-3, -2), complex(0, minus0), complex(nan, nan), complex(nan, nan)}) {
		t.Errorf("Scale by i: %v", got)
	}
	if got := vector.Scale(complex(0x1p1023, 0), []complex128{complex(2, 0), complex(0x1p-1074, 0)}); !alikeVectors(got, []complex128{complex(inf, 0), complex(0x1p-51, 0)}) {
		t.Errorf("Scale by 2^1023: %v", got)
	}
	for _, x := range vectors() {
		if got, want := vector.Conj(x), placed(x, x, func(z, _ complex128) complex128 { return conjugate(z) }); !alikeVectors(got, want) {
			t.Errorf("Conj(%v): %v, want %v", x, got, want)
		}
		for _, k := range factors() {
			want := placed(x, x, func(z, _ complex128) complex128 { return product(k, z) })
			if got := vector.Scale(k, x); !alikeVectors(got, want) {
				t.Errorf("Scale(%v, %v): %v, want %v", k, x, got, want)
			}
		}
	}
}

// P6.3

func TestDotAndInner(t *testing.T) {
	eachPair(func(a, b []complex128) {
		if got, want := asked(t, vector.Dot, a, b), dotted(a, b); !alikeNumbers(got, want) {
			t.Errorf("Dot(%v, %v): %v, want %v", a, b, got, want)
		}
		conjugates := placed(a, a, func(z, _ complex128) complex128 { return conjugate(z) })
		if got, want := asked(t, vector.Inner, a, b), dotted(conjugates, b); !alikeNumbers(got, want) {
			t.Errorf("Inner(%v, %v): %v, want %v", a, b, got, want)
		}
	})
}

func TestDotBeginsWithNought(t *testing.T) {
	for _, c := range []struct{ a, b, product complex128 }{
		{complex(minus0, 0), 1, complex(minus0, 0)},
		{complex(-1, minus0), 1, complex(-1, minus0)},
		{complex(minus0, 3), 1, complex(minus0, 3)},
	} {
		if got := product(c.a, c.b); !alikeNumbers(got, c.product) {
			t.Fatalf("%v times %v: %v", c.a, c.b, got)
		}
		want := complex(real(c.product)+0, imag(c.product)+0)
		if got, e := vector.Dot([]complex128{c.a}, []complex128{c.b}); e != api.OK || !alikeNumbers(got, want) {
			t.Errorf("Dot of %v and %v alone: %v, %d, want %v", c.a, c.b, got, e, want)
		}
		if got, e := vector.Inner([]complex128{conjugate(c.a)}, []complex128{c.b}); e != api.OK || !alikeNumbers(got, want) {
			t.Errorf("Inner of %v and %v alone: %v, %d, want %v", conjugate(c.a), c.b, got, e, want)
		}
	}
}

func TestDotRises(t *testing.T) {
	ones := []complex128{1, 1, 1}
	for _, c := range []struct {
		a    []complex128
		want complex128
	}{
		{[]complex128{complex(1e16, 0), 1, complex(-1e16, 0)}, 0},
		{[]complex128{complex(1e16, 0), complex(-1e16, 0), 1}, 1},
		{[]complex128{complex(0, 1), complex(0, 0x1p-53), complex(0, 0x1p-53)}, complex(0, 1)},
		{[]complex128{complex(0, 0x1p-53), complex(0, 0x1p-53), complex(0, 1)}, complex(0, 1+0x1p-52)},
		{[]complex128{complex(greatest, 0), complex(greatest, 0), complex(-greatest, 0)}, complex(inf, 0)},
		{[]complex128{complex(greatest, 0), complex(-greatest, 0), complex(greatest, 0)}, complex(greatest, 0)},
	} {
		if got, e := vector.Dot(c.a, ones); e != api.OK || got != c.want {
			t.Errorf("Dot of %v and ones: %v, %d, want %v", c.a, got, e, c.want)
		}
		conjugates := vector.Conj(c.a)
		if got, e := vector.Inner(conjugates, ones); e != api.OK || got != c.want {
			t.Errorf("Inner of %v and ones: %v, %d, want %v", conjugates, got, e, c.want)
		}
	}
}

// A product is rounded ahead of the sum that it is added to.
func TestDotJoinsNothing(t *testing.T) {
	for _, x := range []float64{0.1, 0.3, 0.7} {
		a, b := []complex128{complex(times(-x, x), 0), complex(x, 0)}, []complex128{1, complex(x, 0)}
		if got, e := vector.Dot(a, b); e != api.OK || got != 0 {
			t.Errorf("Dot: %v squared, less that: %v, %d", x, got, e)
		}
		if got, e := vector.Inner(a, b); e != api.OK || got != 0 {
			t.Errorf("Inner: %v squared, less that: %v, %d", x, got, e)
		}
	}
}

// Vectors as long as may be are gone through to their last place.
func TestAsLongAsMayBe(t *testing.T) {
	a, b := near(most, 47, -3, 3), near(most, 48, -3, 3)
	if got := asked(t, vector.Add, a, b); !alikeVectors(got, placed(a, b, sum)) {
		t.Error("Add")
	}
	if got := asked(t, vector.Sub, a, b); !alikeVectors(got, placed(a, b, difference)) {
		t.Error("Sub")
	}
	k := complex(0.1, -0.3)
	want := placed(a, b, func(ofX, ofY complex128) complex128 { return sum(ofY, product(k, ofX)) })
	if got, e := vector.Axpy(k, a, b); e != api.OK || !alikeVectors(got, want) {
		t.Errorf("Axpy, %d", e)
	}
	if got, want := asked(t, vector.Dot, a, b), dotted(a, b); !alikeNumbers(got, want) {
		t.Errorf("Dot: %v, want %v", got, want)
	}
	if got, want := asked(t, vector.Inner, a, b), dotted(vector.Conj(a), b); !alikeNumbers(got, want) {
		t.Errorf("Inner: %v, want %v", got, want)
	}
}

// P6.4

func TestNorms(t *testing.T) {
	for _, c := range []struct {
		x         []complex128
		one, best float64
	}{
		{[]complex128{0}, 0, 0}, {[]complex128{complex(minus0, minus0)}, 0, 0}, {[]complex128{complex(minus0, 0), complex(0, minus0)}, 0, 0},
		{[]complex128{complex(-1, -2)}, 3, 3}, {[]complex128{complex(1, -2), complex(-4, 1), complex(3, 0)}, 11, 5},
		{[]complex128{complex(3, 4)}, 7, 7}, // by the sum of the sizes, not by the absolute value
		{[]complex128{complex(3, 3), complex(0, 5)}, 11, 6},
		{[]complex128{complex(least, 0), complex(0, -least)}, 2 * least, least},
		{[]complex128{1, complex(0x1p-53, 0), complex(0, 0x1p-53)}, 1, 1},
		{[]complex128{complex(0x1p-53, 0), complex(0, 0x1p-53), 1}, 1 + 0x1p-52, 1},
		{[]complex128{1, complex(0x1p-53, 0x1p-53)}, 1 + 0x1p-52, 1}, // a number's sizes are added ahead of the sum
		{[]complex128{complex(greatest, 0), complex(0, greatest)}, inf, greatest},
		{[]complex128{complex(-0x1p1023, -0x1p1023)}, inf, inf}, {[]complex128{complex(1.5e308, 1.5e308), 1}, inf, inf},
		{[]complex128{complex(inf, 1)}, inf, inf}, {[]complex128{complex(-inf, -inf), complex(inf, 0)}, inf, inf},
		{[]complex128{1, complex(0, -inf), 2}, inf, inf},
		// A NaN stays in the sum; the greatest leaves it out, with the number's other part, wherever it stands.
		{[]complex128{complex(nan, 9)}, nan, 0}, {[]complex128{complex(9, loudNaN)}, nan, 0},
		{[]complex128{complex(nan, 0), 1}, nan, 1}, {[]complex128{1, complex(0, nan)}, nan, 1}, {[]complex128{1, complex(nan, 9), complex(2, 1)}, nan, 3},
		{[]complex128{complex(inf, nan), 1}, nan, 1}, {[]complex128{complex(nan, -inf)}, nan, 0},
		{[]complex128{complex(inf, 0), complex(nan, 0)}, nan, inf}, {[]complex128{complex(nan, 0), complex(inf, 0)}, nan, inf},
		{[]complex128{complex(nan, nan), complex(loudNaN, nan)}, nan, 0},
	} {
		if got := vector.Norm1(c.x); !alike(got, c.one) {
			t.Errorf("Norm1(%v): %v, want %v", c.x, got, c.one)
		}
		if got := vector.NormMax(c.x); !alike(got, c.best) {
			t.Errorf("NormMax(%v): %v, want %v", c.x, got, c.best)
		}
	}
	for _, x := range vectors() {
		one, best := 0.0, 0.0
		for i := 0; i < len(x); i++ {
			one = plus(one, size1(x[i]))
			if size1(x[i]) > best {
				best = size1(x[i])
			}
		}
		if got := vector.Norm1(x); !alike(got, one) {
			t.Errorf("Norm1(%v): %v, want %v", x, got, one)
		}
		if got := vector.NormMax(x); !alike(got, best) {
			t.Errorf("NormMax(%v): %v, want %v", x, got, best)
		}
	}
}

// P6.5

func TestInnerBySymmetry(t *testing.T) {
	looked := 0
	eachPair(func(a, b []complex128) {
		inner, there := asked(t, vector.Inner, a, b), asked(t, vector.Inner, b, a)
		if dot := asked(t, vector.Dot, vector.Conj(a), b); !alikeNumbers(inner, dot) {
			t.Errorf("Inner(%v, %v): %v, Dot of Conj: %v", a, b, inner, dot)
		}
		if finiteNumber(inner) {
			looked++
			if there != conjugate(inner) {
				t.Errorf("Inner(%v, %v): %v; the other way round %v", a, b, inner, there)
			}
		}
	})
	if looked < 1000 {
		t.Errorf("only %d were finite", looked)
	}
}

func TestNormsBySymmetry(t *testing.T) {
	for _, x := range vectors() {
		one, best, conj := vector.Norm1(x), vector.NormMax(x), vector.Conj(x)
		if !alike(vector.Norm1(conj), one) || !alike(vector.NormMax(conj), best) {
			t.Errorf("%v: Norm1 %v, NormMax %v; of Conj %v, %v", x, one, best, vector.Norm1(conj), vector.NormMax(conj))
		}
		if one == one && !(best <= one) {
			t.Errorf("%v: Norm1 %v, NormMax %v", x, one, best)
		}
	}
}

func TestAddAndSubBySymmetry(t *testing.T) {
	eachPair(func(a, b []complex128) {
		one, other := asked(t, vector.Add, a, b), asked(t, vector.Add, b, a)
		if finiteVector(one) && !slices.Equal(one, other) {
			t.Errorf("Add(%v, %v): %v; the other way round %v", a, b, one, other)
		}
	})
	for _, a := range vectors() {
		if !finiteVector(a) {
			continue
		}
		if got := asked(t, vector.Sub, a, a); !slices.Equal(got, make([]complex128, len(a))) {
			t.Errorf("Sub of %v and itself: %v", a, got)
		}
		if got := vector.Scale(complex(1, 0), a); !slices.Equal(got, a) {
			t.Errorf("Scale of %v by 1: %v", a, got)
		}
	}
}

// whole gives a vector of whole numbers whose parts' sizes are below 2^20, always the same one.
func whole(n int, seed uint64) []complex128 {
	part := func(bits uint64) float64 { return float64(int(bits%(1<<21-1)) - (1<<20 - 1)) }
	var all []complex128
	for _, bits := range scatter(n, seed) {
		all = append(all, complex(part(bits>>32), part(bits&(1<<32-1))))
	}
	return all
}

// exact is the sum of the products of whole numbers, in whole numbers.
func exact(a, b []complex128) complex128 {
	var re, im int64
	for i := range a {
		p, q, c, d := int64(real(a[i])), int64(imag(a[i])), int64(real(b[i])), int64(imag(b[i]))
		re += p*c - q*d
		im += p*d + q*c
	}
	return complex(float64(re), float64(im))
}

// mixed gives a vector's numbers in another order, for vectors of one length and a seed always the same one.
func mixed(l []complex128, seed uint64) []complex128 {
	all := slices.Clone(l)
	for i, bits := range scatter(len(all), seed) {
		j := int(bits % uint64(i+1))
		all[i], all[j] = all[j], all[i]
	}
	return all
}

func TestDotOfWholeNumbers(t *testing.T) {
	const top = 1<<20 - 1
	extreme := [][]complex128{
		slices.Repeat([]complex128{complex(top, top)}, 64), slices.Repeat([]complex128{complex(-top, top)}, 64), slices.Repeat([]complex128{complex(top, -top)}, 64),
	}
	for i := range 200 {
		n, seed := i%65, uint64(3*i+1)
		a, b, c := whole(n, seed), whole(n, seed+1), whole(n, seed+2)
		if i < len(extreme) {
			a, b, c = extreme[i], extreme[(i+1)%3], extreme[(i+2)%3]
		}
		ofA, ofB := asked(t, vector.Dot, a, c), asked(t, vector.Dot, b, c)
		if ofA != exact(a, c) || ofB != exact(b, c) {
			t.Errorf("Dot of whole numbers %v and %v: %v, want %v", a, c, ofA, exact(a, c))
		}
		if got := asked(t, vector.Dot, mixed(a, seed), mixed(c, seed)); got != ofA {
			t.Errorf("Dot of %v and %v: %v, the places in another order: %v", a, c, ofA, got)
		}
		if got := asked(t, vector.Dot, asked(t, vector.Add, a, b), c); got != sum(ofA, ofB) {
			t.Errorf("Dot of Add of %v and %v: %v, both Dots %v and %v", a, b, got, ofA, ofB)
		}
	}
}

// Rule 3

// eachOverlap hands a call two vectors that are pieces of one list: apart, one and the same, or with places in common, and with other places ahead of and behind them, within their room.
func eachOverlap(do func(whole, a, b []complex128)) {
	for _, at := range []int{1, 2, 4, 5, 7, 9} {
		whole := near(16, 45, -1, 1)
		do(whole, whole[4:8], whole[at:at+4])
	}
}

func TestWhatIsHandedInIsNotChanged(t *testing.T) {
	hold := func(name string, whole, before []complex128) {
		t.Helper()
		if !slices.Equal(whole, before) {
			t.Errorf("%s changes what it is handed", name)
		}
	}
	eachOverlap(func(whole, a, b []complex128) {
		before := slices.Clone(whole)
		for _, p := range pairCalls() {
			p.call(a, b)
			hold(p.name, whole, before)
			p.call(a, b[:3])
			hold(p.name, whole, before)
		}
		for name, call := range listCalls() {
			call(a, b)
			hold(name, whole, before)
		}
		vector.Norm1(a)
		hold("Norm1", whole, before)
		vector.NormMax(a)
		hold("NormMax", whole, before)
	})
}

func TestPiecesOfOneList(t *testing.T) {
	eachOverlap(func(_, a, b []complex128) {
		for name, call := range listCalls() {
			if got, want := call(a, b), call(slices.Clone(a), slices.Clone(b)); !slices.Equal(got, want) {
				t.Errorf("%s of pieces of one list: %v, want %v", name, got, want)
			}
		}
	})
}

// room gives a list with its spare places.
func room(l []complex128) []complex128 { return l[:cap(l)] }

func fill(l []complex128) {
	for i := range l {
		l[i] = complex(-77, 77)
	}
}

func TestWhatIsHandedBackIsNew(t *testing.T) {
	eachOverlap(func(whole, a, b []complex128) {
		before := slices.Clone(whole)
		for name, call := range listCalls() {
			got, again := call(a, b), call(a, b)
			told := slices.Clone(again)
			fill(room(got))
			if !slices.Equal(whole, before) {
				t.Errorf("%s: what it tells shares memory with what it is handed", name)
			}
			if !slices.Equal(again, told) {
				t.Errorf("%s: what it tells twice shares memory", name)
			}
			fill(whole)
			if !slices.Equal(again, told) {
				t.Errorf("%s: what it tells changes with what it was handed", name)
			}
			copy(whole, before)
		}
	})
}

func TestNoneWithSpareRoom(t *testing.T) {
	whole := near(8, 46, -1, 1)
	before := slices.Clone(whole)
	for name, call := range listCalls() {
		fill(room(call(whole[2:2], whole[3:3])))
		if !slices.Equal(whole, before) {
			t.Errorf("%s of none: what it tells shares its spare room", name)
		}
	}
}

// P1: every call ends, none panics, and one asked twice answers the same.
func TestCalm(t *testing.T) {
	all := vectors()
	for i, a := range all {
		b := all[(i*7+3)%len(all)] // mostly of another length
		for _, p := range pairCalls() {
			l, z, e := p.call(a, b)
			other, y, f := p.call(a, b)
			if !alikeVectors(l, other) || !alikeNumbers(z, y) || e != f {
				t.Errorf("%s of %v and %v: %v, %v, %d, then %v, %v, %d", p.name, a, b, l, z, e, other, y, f)
			}
		}
		for _, k := range factors() {
			if !alikeVectors(vector.Scale(k, a), vector.Scale(k, a)) {
				t.Errorf("Scale of %v by %v", a, k)
			}
		}
		if !alikeVectors(vector.Conj(a), vector.Conj(a)) || !alike(vector.Norm1(a), vector.Norm1(a)) || !alike(vector.NormMax(a), vector.NormMax(a)) {
			t.Errorf("Conj, Norm1 or NormMax of %v", a)
		}
	}
}
