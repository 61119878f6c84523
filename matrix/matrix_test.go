package matrix_test

import (
	"fmt"
	"math"
	"slices"
	"testing"

	"gridwork/api"
	"gridwork/matrix"
)

const (
	least    = 0x1p-1074
	greatest = math.MaxFloat64
	most     = 64 // rows or columns of a matrix
)

var (
	inf     = math.Inf(1)
	nan     = math.NaN()
	minus0  = math.Copysign(0, -1)
	loudNaN = math.Float64frombits(0xfff0000000000001)
)

// The operations, each in a function of its own that is laid into none: nothing can be joined there. What a call tells is held against them.

//go:noinline
func plus(a, b float64) float64 { return a + b }

//go:noinline
func less(a, b float64) float64 { return a - b }

//go:noinline
func times(a, b float64) float64 { return a * b }

func sum(a, b complex128) complex128 {
	return complex(plus(real(a), real(b)), plus(imag(a), imag(b)))
}

func difference(a, b complex128) complex128 {
	return complex(less(real(a), real(b)), less(imag(a), imag(b)))
}

func product(a, b complex128) complex128 {
	p, q, c, d := real(a), imag(a), real(b), imag(b)
	return complex(less(times(p, c), times(q, d)), plus(times(p, d), times(q, c)))
}

func conjugate(z complex128) complex128 {
	return complex(real(z), math.Float64frombits(math.Float64bits(imag(z))^1<<63))
}

func size1(z complex128) float64 {
	return plus(math.Abs(real(z)), math.Abs(imag(z)))
}

// alike is the document's 'the same', worked out without the packages that are tested.
func alike(a, b float64) bool {
	if math.IsNaN(a) || math.IsNaN(b) {
		return math.IsNaN(a) && math.IsNaN(b)
	}
	return math.Float64bits(a) == math.Float64bits(b)
}

func alikeNumbers(a, b complex128) bool {
	return alike(real(a), real(b)) && alike(imag(a), imag(b))
}

func alikeLists(a, b []complex128) bool {
	return slices.EqualFunc(a, b, alikeNumbers)
}

func alikeMatrices(a, b api.Matrix) bool {
	return a.Rows == b.Rows && a.Cols == b.Cols && alikeLists(a.Data, b.Data)
}

// equalMatrices is 'equal', worked out without the package that is tested.
func equalMatrices(a, b api.Matrix) bool {
	return a.Rows == b.Rows && a.Cols == b.Cols && slices.Equal(a.Data, b.Data)
}

func finite(z complex128) bool {
	for _, x := range []float64{real(z), imag(z)} {
		if math.IsNaN(x) || math.IsInf(x, 0) {
			return false
		}
	}
	return true
}

func finiteMatrix(m api.Matrix) bool {
	return !slices.ContainsFunc(m.Data, func(z complex128) bool { return !finite(z) })
}

// of is a matrix of the numbers that are told, row by row.
func of(rows, cols int, l ...complex128) api.Matrix {
	return api.Matrix{Rows: rows, Cols: cols, Data: l}
}

// put is the matrix that a function tells entry by entry.
func put(rows, cols int, entry func(i, j int) complex128) api.Matrix {
	m := api.Matrix{Rows: rows, Cols: cols}
	for i := 0; i < rows; i++ {
		for j := 0; j < cols; j++ {
			m.Data = append(m.Data, entry(i, j))
		}
	}
	return m
}

func entry(m api.Matrix, i, j int) complex128 { return m.Data[i*m.Cols+j] }

// show tells a matrix, or of a great one the shape alone.
func show(m api.Matrix) string {
	if len(m.Data) > 16 {
		return fmt.Sprintf("%d by %d", m.Rows, m.Cols)
	}
	return fmt.Sprintf("%d by %d %v", m.Rows, m.Cols, m.Data)
}

// scatter gives whole numbers of 64 bits, always the same ones.
func scatter(n int, seed uint64) []uint64 {
	var all []uint64
	for range n {
		seed ^= seed << 13
		seed ^= seed >> 7
		seed ^= seed << 17
		all = append(all, seed)
	}
	return all
}

// near gives finite numbers whose parts' powers of two lie from low to high, always the same ones.
func near(n int, seed uint64, low, high int) []complex128 {
	part := func(bits uint64) float64 {
		power := low + int(bits>>52&0x7ff)%(high-low+1)
		x := math.Ldexp(1+float64(bits&(1<<52-1))*0x1p-52, power)
		if bits>>63 != 0 {
			return -x
		}
		return x
	}
	var all []complex128
	bits := scatter(2*n, seed)
	for i := range n {
		all = append(all, complex(part(bits[2*i]), part(bits[2*i+1])))
	}
	return all
}

// edges are all numbers whose parts are reals at which something begins or ends, NaN among them.
func edges() []complex128 {
	sides := []float64{nan, loudNaN}
	for _, x := range []float64{0, least, 1, greatest, inf} {
		sides = append(sides, x, -x)
	}
	var all []complex128
	for _, re := range sides {
		for _, im := range sides {
			all = append(all, complex(re, im))
		}
	}
	return all
}

// matrices have no rows, no columns or neither; are one edge alone, or have one among other numbers; or have numbers near each other (there every rounding, and the order of a sum, shows), or such whose products leave the reals' range.
func matrices() []api.Matrix {
	all := []api.Matrix{{}, {Data: []complex128{}}, {Rows: 1}, {Cols: 1}, {Rows: 3}, {Cols: 3, Data: []complex128{}}, {Rows: most}, {Cols: most}}
	for i, z := range edges() {
		all = append(all, of(1, 1, z))
		if i%7 == 0 {
			l := []complex128{complex(1.5, -3), complex(minus0, 0), complex(0.1, 0.7), complex(2, minus0), 0, complex(-1, 1)}
			l[i%4] = z
			all = append(all, of(2, 2, l[:4]...), of(2, 3, l...), of(3, 2, l...))
		}
	}
	for i := range 6 {
		seed := uint64(i + 1)
		for _, shape := range [][2]int{{1, 1}, {2, 2}, {1, 3}, {3, 1}, {2, 3}, {3, 2}, {3, 3}, {5, 7}, {7, 5}, {1, 7}} {
			n := shape[0] * shape[1]
			for _, l := range [][]complex128{near(n, seed, -1, 1), near(n, seed, -30, 30), near(n, seed, -545, -530), near(n, seed, 508, 513), near(n, seed, 1020, 1023)} {
				all = append(all, of(shape[0], shape[1], l...))
			}
		}
	}
	return append(all, of(most, most, near(most*most, 41, -3, 3)...), of(most, most, near(most*most, 42, -3, 3)...),
		of(most, 1, near(most, 43, -3, 3)...), of(1, most, near(most, 44, -3, 3)...), of(most, 3, near(3*most, 45, -3, 3)...), of(3, most, near(3*most, 46, -3, 3)...))
}

// eachPair goes over all pairs of matrices that fit each other.
func eachPair(fit func(a, b api.Matrix) bool, do func(a, b api.Matrix)) {
	all := matrices()
	for _, a := range all {
		for _, b := range all {
			if fit(a, b) {
				do(a, b)
			}
		}
	}
}

func sameShape(a, b api.Matrix) bool { return a.Rows == b.Rows && a.Cols == b.Cols }

func inARow(a, b api.Matrix) bool { return a.Cols == b.Rows }

// none are matrices that may not be, each by one fault alone where that can be.
func none() []api.Matrix {
	numbers := near(70*70, 47, -1, 1)
	all := []api.Matrix{
		{Rows: 2, Cols: 2, Data: numbers[:3]}, {Rows: 2, Cols: 2, Data: numbers[:5]}, {Rows: 2, Cols: 2}, {Rows: 2, Cols: 2, Data: []complex128{}},
		{Rows: 2, Cols: 3, Data: numbers[:5]}, {Rows: 2, Cols: 3, Data: numbers[:7]}, {Rows: 1, Cols: 1}, {Rows: 1, Cols: 1, Data: numbers[:2]},
		{Rows: 2, Cols: 2, Data: numbers[:3:4]}, {Rows: 3, Cols: 2, Data: numbers[:5]}, {Rows: 3, Cols: 2, Data: numbers[:9]},
		{Rows: most, Cols: most, Data: numbers[:most*most-1]}, {Rows: most, Cols: most, Data: numbers[:most*most+1]}, {Rows: most, Cols: most},
		{Rows: 0, Cols: 0, Data: numbers[:1]}, {Rows: 0, Cols: 3, Data: numbers[:3]}, {Rows: 3, Cols: 0, Data: numbers[:3]}, {Rows: 0, Cols: most, Data: numbers[:1]}, {Rows: most, Data: numbers[:1]},
		{Rows: most + 1, Cols: 1, Data: numbers[:most+1]}, {Rows: 1, Cols: most + 1, Data: numbers[:most+1]},
		{Rows: most + 1, Cols: most, Data: numbers[:most*(most+1)]}, {Rows: most, Cols: most + 1, Data: numbers[:most*(most+1)]},
		{Rows: most + 1, Cols: most + 1, Data: numbers[:(most+1)*(most+1)]},
		{Rows: most + 1}, {Cols: most + 1}, {Rows: most + 1, Data: []complex128{}}, {Rows: math.MaxInt}, {Cols: math.MaxInt},
		{Rows: -1}, {Cols: -1}, {Rows: math.MinInt}, {Cols: math.MinInt}, {Rows: -1, Cols: 1}, {Rows: 1, Cols: -1}, {Rows: -1, Cols: 1, Data: numbers[:1]},
		// Twice below 0, or wrapped round, the product would fit.
		{Rows: -1, Cols: -1, Data: numbers[:1]}, {Rows: -2, Cols: -3, Data: numbers[:6]}, {Rows: math.MinInt, Cols: math.MinInt}, {Rows: math.MinInt, Cols: 2}, {Rows: 2, Cols: math.MinInt},
		{Rows: math.MaxInt, Cols: math.MaxInt, Data: numbers[:1]},
	}
	if math.MaxInt > math.MaxInt32 {
		half := math.MaxInt/2 + 1 // 2^62
		all = append(all, api.Matrix{Rows: half, Cols: 4}, api.Matrix{Rows: 4, Cols: half}, api.Matrix{Rows: half, Cols: half})
	}
	return all
}

// An answer is what a call tells, whatever it tells of.
type answer struct {
	m api.Matrix
	l []complex128
	x float64
	e api.Errno
}

func alikeAnswers(a, b answer) bool {
	return alikeMatrices(a.m, b.m) && alikeLists(a.l, b.l) && alike(a.x, b.x) && a.e == b.e
}

// nothing tells whether an answer tells nothing beside its error.
func (a answer) nothing() bool {
	return a.m.Rows == 0 && a.m.Cols == 0 && len(a.m.Data) == 0 && len(a.l) == 0 && alike(a.x, 0)
}

// data is the list that an answer tells, if it tells one.
func (a answer) data() []complex128 {
	if a.l != nil {
		return a.l
	}
	return a.m.Data
}

// pairCalls are the calls that two matrices are handed to.
func pairCalls() map[string]func(a, b api.Matrix) answer {
	all := map[string]func(a, b api.Matrix) answer{}
	for name, call := range map[string]func(a, b api.Matrix) (api.Matrix, api.Errno){"Add": matrix.Add, "Sub": matrix.Sub, "Mul": matrix.Mul} {
		all[name] = func(a, b api.Matrix) answer {
			m, e := call(a, b)
			return answer{m: m, e: e}
		}
	}
	return all
}

// oneCalls are the calls that one matrix is handed to, with places and a vector beside it.
func oneCalls() map[string]func(m api.Matrix, i, j int, x []complex128) answer {
	return map[string]func(m api.Matrix, i, j int, x []complex128) answer{
		"Apply": func(m api.Matrix, _, _ int, x []complex128) answer {
			l, e := matrix.Apply(m, x)
			return answer{l: l, e: e}
		},
		"Transpose": func(m api.Matrix, _, _ int, _ []complex128) answer {
			got, e := matrix.Transpose(m)
			return answer{m: got, e: e}
		},
		"Conj": func(m api.Matrix, _, _ int, _ []complex128) answer {
			got, e := matrix.Conj(m)
			return answer{m: got, e: e}
		},
		"Row": func(m api.Matrix, i, _ int, _ []complex128) answer {
			l, e := matrix.Row(m, i)
			return answer{l: l, e: e}
		},
		"Col": func(m api.Matrix, _, j int, _ []complex128) answer {
			l, e := matrix.Col(m, j)
			return answer{l: l, e: e}
		},
		"Swap": func(m api.Matrix, i, j int, _ []complex128) answer {
			got, e := matrix.Swap(m, i, j)
			return answer{m: got, e: e}
		},
		"Norm1": func(m api.Matrix, _, _ int, _ []complex128) answer {
			x, e := matrix.Norm1(m)
			return answer{x: x, e: e}
		},
	}
}

// asked gives what a call of one matrix tells, which must not refuse it.
func asked(t *testing.T, call func(m api.Matrix) (api.Matrix, api.Errno), m api.Matrix) api.Matrix {
	t.Helper()
	got, e := call(m)
	if e != api.OK {
		t.Errorf("of %s: refused, %d", show(m), e)
	}
	return got
}

// askedBoth gives what a call of two matrices tells, which must not refuse them.
func askedBoth(t *testing.T, call func(a, b api.Matrix) (api.Matrix, api.Errno), a, b api.Matrix) api.Matrix {
	t.Helper()
	got, e := call(a, b)
	if e != api.OK {
		t.Errorf("of %s and %s: refused, %d", show(a), show(b), e)
	}
	return got
}

// identity gives a matrix with ones from corner to corner, which must not be refused.
func identity(t *testing.T, n int) api.Matrix {
	t.Helper()
	m, e := matrix.Identity(n)
	if e != api.OK {
		t.Errorf("Identity(%d): refused, %d", n, e)
	}
	return m
}

// The chapter's examples.
func TestExamples(t *testing.T) {
	if e := matrix.Check(of(2, 1, 7, 8)); e != api.OK {
		t.Errorf("Check of 2 rows, 1 column, 2 numbers: %d", e)
	}
	if e := matrix.Check(api.Matrix{Rows: 65}); e != api.ErrShape {
		t.Errorf("Check of 65 rows: %d", e)
	}
	if e := matrix.Check(api.Matrix{Rows: -1}); e != api.ErrShape {
		t.Errorf("Check of -1 rows: %d", e)
	}
	if got, e := matrix.Mul(of(2, 2, 1, 1i, 0, 2), of(2, 1, 1, 1i)); e != api.OK || !equalMatrices(got, of(2, 1, 0, 2i)) {
		t.Errorf("Mul: %s, %d", show(got), e)
	}
	if got, e := matrix.Apply(of(2, 2, 1, 2, 3, 4), []complex128{1, 1i}); e != api.OK || !slices.Equal(got, []complex128{1 + 2i, 3 + 4i}) {
		t.Errorf("Apply: %v, %d", got, e)
	}
	if got, e := matrix.Norm1(of(2, 2, 3+4i, 1, -1, 2)); e != api.OK || got != 8 {
		t.Errorf("Norm1: %v, %d", got, e)
	}
	if !matrix.Symmetric(of(2, 2, 1, 0, complex(minus0, 0), 2)) || matrix.Symmetric(of(1, 1, complex(nan, 0))) {
		t.Error("Symmetric")
	}
	m := of(2, 2, 1, 2, 3, 4)
	if got, e := matrix.Swap(m, 0, 2); e != api.ErrArg || !(answer{m: got}).nothing() {
		t.Errorf("Swap: %s, %d", show(got), e)
	}
	if got, e := matrix.Row(m, -1); e != api.ErrArg || len(got) != 0 {
		t.Errorf("Row: %v, %d", got, e)
	}
	if got, e := matrix.Identity(65); e != api.ErrArg || !(answer{m: got}).nothing() {
		t.Errorf("Identity: %s, %d", show(got), e)
	}
}

// P7.1

func TestCheck(t *testing.T) {
	if api.MaxOrder != most || api.ErrArg != 2 || api.ErrShape != 4 {
		t.Fatal("the limit and the errors' numbers")
	}
	for _, m := range matrices() {
		if e := matrix.Check(m); e != api.OK {
			t.Errorf("Check of %s: %d", show(m), e)
		}
	}
	for _, m := range none() {
		if e := matrix.Check(m); e != api.ErrShape {
			t.Errorf("Check of %d rows, %d columns, %d numbers: %d", m.Rows, m.Cols, len(m.Data), e)
		}
	}
}

func TestCheckOfEveryShape(t *testing.T) {
	numbers := make([]complex128, (most+2)*(most+2)+1)
	for rows := -2; rows <= most+2; rows++ {
		for cols := -2; cols <= most+2; cols++ {
			for _, n := range []int{rows*cols - 1, rows * cols, rows*cols + 1} {
				if n < 0 {
					continue
				}
				want := api.ErrShape
				if rows >= 0 && rows <= most && cols >= 0 && cols <= most && n == rows*cols {
					want = api.OK
				}
				if e := matrix.Check(api.Matrix{Rows: rows, Cols: cols, Data: numbers[:n]}); e != want {
					t.Errorf("Check of %d rows, %d columns, %d numbers: %d, want %d", rows, cols, n, e, want)
				}
			}
		}
	}
}

func TestIdentity(t *testing.T) {
	for n := 0; n <= most; n++ {
		got := identity(t, n)
		want := put(n, n, func(i, j int) complex128 {
			if i == j {
				return 1
			}
			return 0
		})
		if !alikeMatrices(got, want) {
			t.Errorf("Identity(%d): %s", n, show(got))
		}
	}
	for _, n := range []int{-1, -2, -most, most + 1, most + 2, 1 << 30, math.MinInt, math.MaxInt} {
		if got, e := matrix.Identity(n); e != api.ErrArg || !(answer{m: got}).nothing() {
			t.Errorf("Identity(%d): %s, %d", n, show(got), e)
		}
	}
}

// P7.2

func TestNoneIsRefused(t *testing.T) {
	for _, bad := range none() {
		name := fmt.Sprintf("of %d rows, %d columns, %d numbers", bad.Rows, bad.Cols, len(bad.Data))
		for which, call := range oneCalls() {
			// The places and the vector are right, or none of them is: the shape comes first.
			for _, at := range []int{0, 1, -1, 70, bad.Rows, bad.Cols, math.MinInt, math.MaxInt} {
				for _, n := range []int{0, 1, 2, 70} {
					if got := call(bad, at, at, make([]complex128, n)); got.e != api.ErrShape || !got.nothing() {
						t.Errorf("%s %s, at %d: %d", which, name, at, got.e)
					}
				}
			}
			if got := call(bad, 0, -1, nil); got.e != api.ErrShape {
				t.Errorf("%s %s, at 0 and -1: %d", which, name, got.e)
			}
		}
		for which, call := range pairCalls() {
			for _, other := range []api.Matrix{bad, {}, {Rows: 2}, {Cols: 2}, of(1, 1, 1), of(2, 2, 1, 2, 3, 4), of(2, 3, 1, 2, 3, 4, 5, 6)} {
				if got := call(bad, other); got.e != api.ErrShape || !got.nothing() {
					t.Errorf("%s %s, first: %d", which, name, got.e)
				}
				if got := call(other, bad); got.e != api.ErrShape || !got.nothing() {
					t.Errorf("%s %s, second: %d", which, name, got.e)
				}
			}
		}
	}
}

// P7.3

func TestShapesThatDoNotFit(t *testing.T) {
	// Fewer shapes than all, but each with each.
	counts := []int{0, 1, 2, 3, most - 1, most}
	numbers := near(most*most, 48, -1, 1)
	numbers[0], numbers[1] = complex(nan, inf), complex(-inf, nan) // nothing that is not finite is refused
	var all []api.Matrix
	for _, rows := range counts {
		for _, cols := range counts {
			all = append(all, api.Matrix{Rows: rows, Cols: cols, Data: numbers[:rows*cols]})
		}
	}
	fits := map[string]func(a, b api.Matrix) bool{"Add": sameShape, "Sub": sameShape, "Mul": inARow}
	for _, a := range all {
		for _, b := range all {
			for name, call := range pairCalls() {
				got, want := call(a, b), api.OK
				if !fits[name](a, b) {
					want = api.ErrShape
				}
				if got.e != want || got.e != api.OK && !got.nothing() {
					t.Errorf("%s of %d by %d and %d by %d: %d, want %d", name, a.Rows, a.Cols, b.Rows, b.Cols, got.e, want)
				}
				rows, cols := a.Rows, b.Cols
				if got.e == api.OK && (got.m.Rows != rows || got.m.Cols != cols || len(got.m.Data) != rows*cols) {
					t.Errorf("%s of %d by %d and %d by %d: %s", name, a.Rows, a.Cols, b.Rows, b.Cols, show(got.m))
				}
			}
		}
		for _, n := range append([]int{a.Cols - 1, a.Cols + 1, most + 1, most * most}, counts...) {
			if n < 0 {
				continue
			}
			got, e := matrix.Apply(a, make([]complex128, n))
			if n == a.Cols && (e != api.OK || len(got) != a.Rows) || n != a.Cols && (e != api.ErrShape || len(got) != 0) {
				t.Errorf("Apply of %d by %d to %d numbers: %d numbers, %d", a.Rows, a.Cols, n, len(got), e)
			}
		}
	}
	if got, e := matrix.Apply(of(1, 1, 2), make([]complex128, api.MaxVector+1)); e != api.ErrShape || len(got) != 0 {
		t.Errorf("Apply to more numbers than a vector has: %v, %d", got, e)
	}
}

func TestEntryByEntry(t *testing.T) {
	a := of(2, 2, complex(0.1, minus0), complex(inf, nan), complex(greatest, 1), complex(minus0, 5))
	b := of(2, 2, complex(0.2, minus0), complex(-inf, 1), complex(greatest, 0x1p-54), complex(minus0, -5))
	if got, e := matrix.Add(a, b); e != api.OK || !alikeMatrices(got, of(2, 2, complex(0.30000000000000004, minus0), complex(nan, nan), complex(inf, 1), complex(minus0, 0))) {
		t.Errorf("Add: %s, %d", show(got), e)
	}
	if got, e := matrix.Sub(a, b); e != api.OK || !alikeMatrices(got, of(2, 2, complex(-0.1, 0), complex(inf, nan), complex(0, 1), complex(0, 10))) {
		t.Errorf("Sub: %s, %d", show(got), e)
	}
	eachPair(sameShape, func(a, b api.Matrix) {
		want := put(a.Rows, a.Cols, func(i, j int) complex128 { return sum(entry(a, i, j), entry(b, i, j)) })
		if got := askedBoth(t, matrix.Add, a, b); !alikeMatrices(got, want) {
			t.Errorf("Add of %s and %s: %s, want %s", show(a), show(b), show(got), show(want))
		}
		want = put(a.Rows, a.Cols, func(i, j int) complex128 { return difference(entry(a, i, j), entry(b, i, j)) })
		if got := askedBoth(t, matrix.Sub, a, b); !alikeMatrices(got, want) {
			t.Errorf("Sub of %s and %s: %s, want %s", show(a), show(b), show(got), show(want))
		}
	})
}

// multiplied is the chapter's Mul, step by step.
func multiplied(a, b api.Matrix) api.Matrix {
	return put(a.Rows, b.Cols, func(i, j int) complex128 {
		s := complex(0, 0)
		for k := 0; k < a.Cols; k++ {
			s = sum(s, product(entry(a, i, k), entry(b, k, j)))
		}
		return s
	})
}

func TestMulAndApply(t *testing.T) {
	got, e := matrix.Mul(of(2, 3, 1, 2, 3, 4, 5, 6i), of(3, 2, 1, 10, 1i, 100, 2, 1000))
	if e != api.OK || !equalMatrices(got, of(2, 2, 7+2i, 3210, 4+17i, 540+6000i)) {
		t.Errorf("Mul: %s, %d", show(got), e)
	}
	eachPair(inARow, func(a, b api.Matrix) {
		want := multiplied(a, b)
		if got := askedBoth(t, matrix.Mul, a, b); !alikeMatrices(got, want) {
			t.Errorf("Mul of %s and %s: %s, want %s", show(a), show(b), show(got), show(want))
		}
		if b.Cols != 1 {
			return
		}
		if got, e := matrix.Apply(a, b.Data); e != api.OK || !alikeLists(got, want.Data) {
			t.Errorf("Apply of %s to %v: %v, %d, want %v", show(a), b.Data, got, e, want.Data)
		}
	})
}

// A sum of none is (0, 0), both parts +0.
func TestSumsOfNone(t *testing.T) {
	for _, n := range []int{0, 1, 2, most} {
		want := put(n, 3, func(_, _ int) complex128 { return 0 })
		if got := askedBoth(t, matrix.Mul, api.Matrix{Rows: n}, api.Matrix{Cols: 3}); !alikeMatrices(got, want) {
			t.Errorf("Mul of %d by 0 and 0 by 3: %s", n, show(got))
		}
		for _, x := range [][]complex128{nil, {}, make([]complex128, 0, 4)} {
			if got, e := matrix.Apply(api.Matrix{Rows: n}, x); e != api.OK || !alikeLists(got, make([]complex128, n)) {
				t.Errorf("Apply of %d by 0 to none: %v, %d", n, got, e)
			}
		}
	}
	if got := askedBoth(t, matrix.Mul, api.Matrix{Cols: 2}, of(2, 3, 1, 2, 3, 4, 5, 6)); !alikeMatrices(got, api.Matrix{Cols: 3}) {
		t.Errorf("Mul of 0 by 2 and 2 by 3: %s", show(got))
	}
}

// dots asks Mul, of a row and a column, and Apply for one sum of products.
func dots(t *testing.T, a, b []complex128, want complex128) {
	t.Helper()
	n := len(a)
	if got, e := matrix.Mul(of(1, n, a...), of(n, 1, b...)); e != api.OK || !alikeMatrices(got, of(1, 1, want)) {
		t.Errorf("Mul of %v and %v: %s, %d, want %v", a, b, show(got), e, want)
	}
	if got, e := matrix.Apply(of(1, n, a...), b); e != api.OK || !alikeLists(got, []complex128{want}) {
		t.Errorf("Apply of %v to %v: %v, %d, want %v", a, b, got, e, want)
	}
}

func TestSumsBeginWithNought(t *testing.T) {
	for _, c := range []struct{ a, b, product, want complex128 }{
		{complex(minus0, 0), 1, complex(minus0, 0), 0},
		{complex(-1, minus0), 1, complex(-1, minus0), complex(-1, 0)},
		{complex(minus0, 3), 1, complex(minus0, 3), complex(0, 3)},
	} {
		if got := product(c.a, c.b); !alikeNumbers(got, c.product) {
			t.Fatalf("%v times %v: %v", c.a, c.b, got)
		}
		dots(t, []complex128{c.a}, []complex128{c.b}, c.want)
	}
}

func TestSumsRise(t *testing.T) {
	ones := []complex128{1, 1, 1}
	for _, c := range []struct {
		a    []complex128
		want complex128
	}{
		{[]complex128{1e16, 1, -1e16}, 0},
		{[]complex128{1e16, -1e16, 1}, 1},
		{[]complex128{1i, complex(0, 0x1p-53), complex(0, 0x1p-53)}, 1i},
		{[]complex128{complex(0, 0x1p-53), complex(0, 0x1p-53), 1i}, complex(0, 1+0x1p-52)},
		{[]complex128{complex(greatest, 0), complex(greatest, 0), complex(-greatest, 0)}, complex(inf, 0)},
		{[]complex128{complex(greatest, 0), complex(-greatest, 0), complex(greatest, 0)}, complex(greatest, 0)},
	} {
		dots(t, c.a, ones, c.want)
	}
}

// Noughts are multiplied too: nought times an infinity or NaN shows.
func TestSumsLeaveNothingOut(t *testing.T) {
	dots(t, []complex128{0, 1}, []complex128{complex(inf, 0), 1}, complex(nan, nan))
	dots(t, []complex128{complex(nan, 0), 1}, []complex128{0, 1}, complex(nan, nan))
	dots(t, []complex128{1, complex(inf, 0)}, []complex128{1, complex(1, 1)}, complex(inf, inf))
	dots(t, []complex128{complex(0, inf)}, []complex128{complex(1, 1)}, complex(-inf, inf))
	dots(t, []complex128{complex(inf, inf)}, []complex128{complex(1, 1)}, complex(nan, inf))
	// An identity does not keep what is not finite.
	m := of(1, 2, complex(inf, 1), 2)
	if got := askedBoth(t, matrix.Mul, m, identity(t, 2)); !alikeMatrices(got, of(1, 2, complex(inf, nan), complex(nan, nan))) {
		t.Errorf("Mul of %s and the Identity: %s", show(m), show(got))
	}
}

// A product is rounded ahead of the sum that it is added to.
func TestSumsJoinNothing(t *testing.T) {
	for _, x := range []float64{0.1, 0.3, 0.7} {
		dots(t, []complex128{complex(times(-x, x), 0), complex(x, 0)}, []complex128{1, complex(x, 0)}, 0)
		dots(t, []complex128{complex(0, times(-x, x)), complex(0, x)}, []complex128{1, complex(x, 0)}, 0)
	}
}

// P7.4

func TestTransposeAndConj(t *testing.T) {
	m := of(2, 3, 1, complex(-2, 3), complex(minus0, minus0), complex(inf, -inf), complex(nan, 1), complex(1, loudNaN))
	want := of(3, 2, 1, complex(inf, -inf), complex(-2, 3), complex(nan, 1), complex(minus0, minus0), complex(1, nan))
	if got := asked(t, matrix.Transpose, m); !alikeMatrices(got, want) {
		t.Errorf("Transpose: %s", show(got))
	}
	want = of(2, 3, complex(1, minus0), complex(-2, -3), complex(minus0, 0), complex(inf, inf), complex(nan, -1), complex(1, nan))
	if got := asked(t, matrix.Conj, m); !alikeMatrices(got, want) {
		t.Errorf("Conj: %s", show(got))
	}
	for _, m := range matrices() {
		want := put(m.Cols, m.Rows, func(j, i int) complex128 { return entry(m, i, j) })
		if got := asked(t, matrix.Transpose, m); !alikeMatrices(got, want) {
			t.Errorf("Transpose of %s: %s", show(m), show(got))
		}
		want = put(m.Rows, m.Cols, func(i, j int) complex128 { return conjugate(entry(m, i, j)) })
		if got := asked(t, matrix.Conj, m); !alikeMatrices(got, want) {
			t.Errorf("Conj of %s: %s", show(m), show(got))
		}
	}
}

// places are numbers among which are all of n and such as are none of them.
func places(n int) []int {
	all := []int{math.MinInt, math.MaxInt, -most, -2, most, most + 1, 1 << 30}
	for i := -1; i <= n; i++ {
		all = append(all, i)
	}
	return all
}

func TestRowAndCol(t *testing.T) {
	for _, m := range matrices() {
		for _, i := range places(m.Rows) {
			got, e := matrix.Row(m, i)
			if i < 0 || i >= m.Rows {
				if e != api.ErrArg || len(got) != 0 {
					t.Errorf("Row %d of %s: %v, %d", i, show(m), got, e)
				}
				continue
			}
			if want := put(1, m.Cols, func(_, j int) complex128 { return entry(m, i, j) }); e != api.OK || !alikeLists(got, want.Data) {
				t.Errorf("Row %d of %s: %v, %d", i, show(m), got, e)
			}
		}
		for _, j := range places(m.Cols) {
			got, e := matrix.Col(m, j)
			if j < 0 || j >= m.Cols {
				if e != api.ErrArg || len(got) != 0 {
					t.Errorf("Col %d of %s: %v, %d", j, show(m), got, e)
				}
				continue
			}
			if want := put(m.Rows, 1, func(i, _ int) complex128 { return entry(m, i, j) }); e != api.OK || !alikeLists(got, want.Data) {
				t.Errorf("Col %d of %s: %v, %d", j, show(m), got, e)
			}
		}
	}
}

// changed is a matrix with two rows changed, one number after the other.
func changed(m api.Matrix, one, other int) api.Matrix {
	return put(m.Rows, m.Cols, func(i, j int) complex128 {
		if i == one {
			i = other
		} else if i == other {
			i = one
		}
		return entry(m, i, j)
	})
}

func TestSwap(t *testing.T) {
	m := of(3, 2, 1, 2, 3i, complex(nan, 4), complex(minus0, 5), complex(inf, 6))
	if got, e := matrix.Swap(m, 2, 0); e != api.OK || !alikeMatrices(got, of(3, 2, complex(minus0, 5), complex(inf, 6), 3i, complex(nan, 4), 1, 2)) {
		t.Errorf("Swap: %s, %d", show(got), e)
	}
	for _, m := range matrices() {
		for _, i := range places(m.Rows) {
			for _, j := range places(min(m.Rows, 8)) {
				got, e := matrix.Swap(m, i, j)
				if i < 0 || i >= m.Rows || j < 0 || j >= m.Rows {
					if e != api.ErrArg || !(answer{m: got}).nothing() {
						t.Errorf("Swap of %s, %d and %d: %s, %d", show(m), i, j, show(got), e)
					}
					continue
				}
				if e != api.OK || !alikeMatrices(got, changed(m, i, j)) {
					t.Errorf("Swap of %s, %d and %d: %s, %d", show(m), i, j, show(got), e)
				}
			}
		}
	}
}

// Places are those of the rows for Row and Swap, those of the columns for Col.
func TestPlacesOfOblongMatrices(t *testing.T) {
	for _, m := range []api.Matrix{of(1, 3, 1, 2, 3), of(3, 1, 1, 2, 3), {Rows: 3}, {Cols: 3}} {
		if _, e := matrix.Row(m, 2); (e == api.OK) != (m.Rows == 3) {
			t.Errorf("Row 2 of %s: %d", show(m), e)
		}
		if _, e := matrix.Col(m, 2); (e == api.OK) != (m.Cols == 3) {
			t.Errorf("Col 2 of %s: %d", show(m), e)
		}
		for _, c := range [][2]int{{2, 0}, {0, 2}, {2, 2}} {
			if _, e := matrix.Swap(m, c[0], c[1]); (e == api.OK) != (m.Rows == 3) {
				t.Errorf("Swap of %s, %v: %d", show(m), c, e)
			}
		}
	}
}

// P7.5

func TestNorm1(t *testing.T) {
	for _, c := range []struct {
		m    api.Matrix
		want float64
	}{
		{api.Matrix{}, 0}, {api.Matrix{Rows: most}, 0}, {api.Matrix{Cols: most}, 0}, {of(1, 1, complex(minus0, minus0)), 0}, {of(2, 2, 0, 0, complex(minus0, 0), complex(0, minus0)), 0},
		{of(1, 1, complex(3, -4)), 7}, // by the sum of the sizes, not by the absolute value
		{of(2, 1, 1, -2i), 3}, {of(1, 2, 1, -2i), 2}, {of(2, 2, 1, 2, 3, 4), 6}, {of(2, 2, 2, 1, 4, 3), 6}, {of(2, 2, 5, 1, 1, 1), 6},
		{of(1, 3, 3, 1, 2), 3}, {of(1, 3, 1, 3, 2), 3}, {of(1, 3, 1, 2, 3), 3}, {of(1, 2, complex(least, 0), 0), least},
		// i rises, and a number's sizes are added ahead of the sum.
		{of(3, 1, 1, complex(0x1p-53, 0), complex(0, 0x1p-53)), 1}, {of(3, 1, complex(0x1p-53, 0), complex(0, 0x1p-53), 1), 1 + 0x1p-52}, {of(2, 1, 1, complex(0x1p-53, 0x1p-53)), 1 + 0x1p-52},
		{of(2, 2, 1, complex(greatest, 0), 1, complex(0, -greatest)), inf}, {of(1, 1, complex(0x1p1023, 0x1p1023)), inf}, {of(1, 2, complex(-inf, -inf), 1), inf}, {of(1, 2, complex(greatest, 0), 1), greatest},
		// A column with a NaN is left out, whole, wherever it stands.
		{of(1, 1, complex(nan, 9)), 0}, {of(1, 1, complex(9, loudNaN)), 0}, {of(1, 2, complex(nan, nan), complex(loudNaN, 1)), 0},
		{of(1, 2, complex(nan, 9), 1), 1}, {of(1, 2, 1, complex(9, nan)), 1}, {of(1, 3, 1, complex(nan, 9), 2), 2}, {of(1, 3, 2, complex(nan, 9), 1), 2},
		{of(2, 2, 9, 1, complex(nan, 0), 1), 2}, {of(2, 2, complex(0, nan), 1, 9, 1), 2}, {of(2, 2, complex(inf, 0), 1, complex(nan, 0), 1), 2}, {of(1, 2, complex(inf, nan), 1), 1},
		{of(1, 2, complex(nan, 0), complex(inf, 0)), inf}, {of(1, 2, complex(inf, 0), complex(nan, 0)), inf}, {of(1, 2, complex(nan, 0), complex(minus0, 0)), 0},
	} {
		if got, e := matrix.Norm1(c.m); e != api.OK || !alike(got, c.want) {
			t.Errorf("Norm1 of %s: %v, %d, want %v", show(c.m), got, e, c.want)
		}
	}
	for _, m := range matrices() {
		want, found := 0.0, false
		for j := 0; j < m.Cols; j++ {
			s := 0.0
			for i := 0; i < m.Rows; i++ {
				s = plus(s, size1(entry(m, i, j)))
			}
			if !math.IsNaN(s) && (!found || s > want) {
				want, found = s, true
			}
		}
		if got, e := matrix.Norm1(m); e != api.OK || !alike(got, want) {
			t.Errorf("Norm1 of %s: %v, %d, want %v", show(m), got, e, want)
		}
	}
}

// P7.6

func TestSameAndEqual(t *testing.T) {
	for _, c := range []struct {
		a, b        api.Matrix
		same, equal bool
	}{
		{api.Matrix{}, api.Matrix{Data: []complex128{}}, true, true}, {api.Matrix{Rows: 3}, api.Matrix{Rows: 3}, true, true},
		{of(1, 2, 1, 2i), of(1, 2, 1, 2i), true, true}, {of(1, 2, 1, 2i), of(1, 2, 1, -2i), false, false}, {of(1, 2, 1, 2), of(1, 2, 2, 2), false, false},
		// Noughts part both, and so does NaN, in either part.
		{of(1, 1, 0), of(1, 1, complex(minus0, 0)), false, true}, {of(1, 1, 0), of(1, 1, complex(0, minus0)), false, true}, {of(1, 1, complex(minus0, minus0)), of(1, 1, complex(minus0, minus0)), true, true},
		{of(1, 1, complex(nan, 1)), of(1, 1, complex(loudNaN, 1)), true, false}, {of(1, 1, complex(1, nan)), of(1, 1, complex(1, nan)), true, false},
		{of(1, 1, complex(nan, 1)), of(1, 1, complex(1, nan)), false, false}, {of(1, 1, complex(nan, 0)), of(1, 1, complex(nan, minus0)), false, false},
		{of(1, 2, 1, complex(nan, 0)), of(1, 2, 1, complex(nan, 0)), true, false}, {of(1, 2, complex(nan, 0), 0), of(1, 2, complex(nan, 0), complex(minus0, 0)), false, false},
		{of(1, 1, complex(inf, -inf)), of(1, 1, complex(inf, -inf)), true, true}, {of(1, 1, complex(inf, 0)), of(1, 1, complex(-inf, 0)), false, false}, {of(1, 1, complex(greatest, 0)), of(1, 1, complex(inf, 0)), false, false},
		{of(1, 1, 1), of(1, 1, complex(1+0x1p-52, 0)), false, false}, {of(1, 1, 0), of(1, 1, complex(least, 0)), false, false},
		// As many numbers, but other rows and columns.
		{of(1, 2, 1, 1), of(2, 1, 1, 1), false, false}, {of(2, 3, 1, 1, 1, 1, 1, 1), of(3, 2, 1, 1, 1, 1, 1, 1), false, false}, {of(1, 4, 1, 1, 1, 1), of(2, 2, 1, 1, 1, 1), false, false},
		{api.Matrix{Rows: 1}, api.Matrix{Cols: 1}, false, false}, {api.Matrix{}, api.Matrix{Rows: 1}, false, false}, {api.Matrix{}, api.Matrix{Cols: 1}, false, false}, {api.Matrix{Rows: 1}, api.Matrix{Rows: 2}, false, false},
		{of(1, 1, 1), of(1, 2, 1, 1), false, false}, {of(1, 1, 1), of(2, 1, 1, 1), false, false}, {of(1, 1, 1), api.Matrix{}, false, false},
	} {
		for _, l := range [][2]api.Matrix{{c.a, c.b}, {c.b, c.a}} {
			if got := matrix.Same(l[0], l[1]); got != c.same {
				t.Errorf("Same of %s and %s: %v", show(l[0]), show(l[1]), got)
			}
			if got := matrix.Equal(l[0], l[1]); got != c.equal {
				t.Errorf("Equal of %s and %s: %v", show(l[0]), show(l[1]), got)
			}
		}
	}
	eachPair(func(_, _ api.Matrix) bool { return true }, func(a, b api.Matrix) {
		if got, want := matrix.Same(a, b), alikeMatrices(a, b); got != want {
			t.Errorf("Same of %s and %s: %v", show(a), show(b), got)
		}
		if got, want := matrix.Equal(a, b), equalMatrices(a, b); got != want {
			t.Errorf("Equal of %s and %s: %v", show(a), show(b), got)
		}
	})
}

// What may not be is the same as nothing, not even as itself, and not symmetric.
func TestNoneIsLikeNothing(t *testing.T) {
	for _, bad := range none() {
		for _, other := range append(none()[:8], bad, api.Matrix{}, of(1, 1, 1), of(2, 2, 1, 2, 3, 4)) {
			if matrix.Same(bad, other) || matrix.Equal(bad, other) || matrix.Same(other, bad) || matrix.Equal(other, bad) {
				t.Errorf("%d rows, %d columns, %d numbers are like %s", bad.Rows, bad.Cols, len(bad.Data), show(other))
			}
		}
		if matrix.Symmetric(bad) {
			t.Errorf("%d rows, %d columns, %d numbers are symmetric", bad.Rows, bad.Cols, len(bad.Data))
		}
	}
}

// Every entry counts: one that differs is seen, wherever it stands.
func TestEveryEntryCounts(t *testing.T) {
	for _, n := range []int{1, 2, 3, most} {
		numbers := near(n*n, 49, -1, 1)
		plain := put(n, n, func(i, j int) complex128 { return numbers[min(i, j)*n+max(i, j)] })
		if !matrix.Symmetric(plain) || !matrix.Same(plain, plain) || !matrix.Equal(plain, plain) {
			t.Errorf("%d rows", n)
		}
		for at := range plain.Data {
			for _, z := range []complex128{plain.Data[at] + 1, plain.Data[at] + 1i} {
				other := of(n, n, slices.Clone(plain.Data)...)
				other.Data[at] = z
				if matrix.Same(plain, other) || matrix.Equal(plain, other) {
					t.Errorf("%d rows: an entry at %d is not seen", n, at)
				}
				if onCorners := at/n == at%n; matrix.Symmetric(other) != onCorners {
					t.Errorf("%d rows: symmetric with another entry at %d: %v", n, at, !onCorners)
				}
			}
		}
	}
}

func TestSymmetric(t *testing.T) {
	for _, c := range []struct {
		m    api.Matrix
		want bool
	}{
		{api.Matrix{}, true}, {api.Matrix{Data: []complex128{}}, true}, {api.Matrix{Rows: 1}, false}, {api.Matrix{Cols: 1}, false}, {api.Matrix{Rows: most}, false},
		{of(1, 2, 1, 1), false}, {of(2, 1, 1, 1), false}, {of(2, 3, 1, 1, 1, 1, 1, 1), false}, {of(3, 2, 1, 1, 1, 1, 1, 1), false},
		{of(1, 1, complex(1, 2)), true}, {of(1, 1, complex(inf, -inf)), true}, {of(2, 2, 1, 2i, 2i, 3), true}, {of(2, 2, 1, 2, 3, 4), false},
		{of(2, 2, 1, 2i, -2i, 3), false}, // a conjugate is not what is asked for
		{of(2, 2, 1, complex(0, minus0), complex(minus0, 0), 2), true}, {of(2, 2, 1, complex(inf, 0), complex(inf, minus0), 2), true}, {of(2, 2, 1, complex(inf, 0), complex(-inf, 0), 2), false},
		{of(1, 1, complex(1, nan)), false}, {of(2, 2, 1, complex(nan, 0), complex(nan, 0), 2), false}, {of(2, 2, 1, complex(0, nan), complex(0, nan), 2), false},
		{of(2, 2, 1, 2, 2, complex(nan, 0)), false}, {of(2, 2, complex(0, nan), 2, 2, 1), false},
		{of(3, 3, 1, 2, 3, 2, 4, 5, 3, 5, 6), true}, {of(3, 3, 1, 2, 3, 2, 4, 5, 3, 7, 6), false}, {of(3, 3, 1, 2, 3, 2, 4, 5, 7, 5, 6), false},
	} {
		if got := matrix.Symmetric(c.m); got != c.want {
			t.Errorf("Symmetric of %s: %v", show(c.m), got)
		}
	}
	for _, m := range matrices() {
		want := equalMatrices(m, put(m.Cols, m.Rows, func(j, i int) complex128 { return entry(m, i, j) }))
		if got := matrix.Symmetric(m); got != want {
			t.Errorf("Symmetric of %s: %v", show(m), got)
		}
	}
}

// P7.7

func TestThereAndBack(t *testing.T) {
	for _, m := range matrices() {
		if got := asked(t, matrix.Transpose, asked(t, matrix.Transpose, m)); !matrix.Same(got, m) {
			t.Errorf("Transpose of Transpose of %s: %s", show(m), show(got))
		}
		if got := asked(t, matrix.Conj, asked(t, matrix.Conj, m)); !matrix.Same(got, m) {
			t.Errorf("Conj of Conj of %s: %s", show(m), show(got))
		}
		for i := range m.Rows {
			for j := range min(m.Rows, 8) {
				swap := func(m api.Matrix) (api.Matrix, api.Errno) { return matrix.Swap(m, i, j) }
				if got := asked(t, swap, asked(t, swap, m)); !matrix.Same(got, m) {
					t.Errorf("Swap of %s, %d and %d, twice: %s", show(m), i, j, show(got))
				}
			}
		}
	}
}

func TestRowsAreTheTransposesColumns(t *testing.T) {
	for _, m := range matrices() {
		across := asked(t, matrix.Transpose, m)
		for i := range m.Cols {
			row, e := matrix.Row(across, i)
			col, f := matrix.Col(m, i)
			if e != api.OK || f != api.OK || !alikeLists(row, col) {
				t.Errorf("Row %d of Transpose of %s: %v, %d, Col %v, %d", i, show(m), row, e, col, f)
			}
		}
	}
}

func TestAddBySymmetry(t *testing.T) {
	eachPair(sameShape, func(a, b api.Matrix) {
		one := askedBoth(t, matrix.Add, a, b)
		if other := askedBoth(t, matrix.Add, b, a); !matrix.Same(one, other) {
			t.Errorf("Add of %s and %s: %s, the other way round %s", show(a), show(b), show(one), show(other))
		}
		across := askedBoth(t, matrix.Add, asked(t, matrix.Transpose, a), asked(t, matrix.Transpose, b))
		if got := asked(t, matrix.Transpose, one); !matrix.Same(got, across) {
			t.Errorf("Transpose of Add of %s and %s: %s, Add of Transposes %s", show(a), show(b), show(got), show(across))
		}
	})
	for _, a := range matrices() {
		for i, z := range askedBoth(t, matrix.Sub, a, a).Data {
			if finite(a.Data[i]) && z != 0 {
				t.Errorf("Sub of %s and itself: %v at %d", show(a), z, i)
			}
		}
	}
}

func TestMulBySymmetry(t *testing.T) {
	looked := 0
	eachPair(inARow, func(a, b api.Matrix) {
		one := asked(t, matrix.Conj, askedBoth(t, matrix.Mul, a, b))
		other := askedBoth(t, matrix.Mul, asked(t, matrix.Conj, a), asked(t, matrix.Conj, b))
		for i, z := range one.Data {
			if real(z) != real(z) || imag(z) != imag(z) {
				continue
			}
			looked++
			if other.Data[i] != z {
				t.Errorf("Conj of Mul of %s and %s: %v at %d, Mul of Conjs %v", show(a), show(b), z, i, other.Data[i])
			}
		}
	})
	if looked < 1000 {
		t.Errorf("only %d were numbers", looked)
	}
	for _, m := range matrices() {
		if !finiteMatrix(m) {
			continue
		}
		if got := askedBoth(t, matrix.Mul, m, identity(t, m.Cols)); !matrix.Equal(got, m) {
			t.Errorf("Mul of %s and the Identity: %s", show(m), show(got))
		}
		if got := askedBoth(t, matrix.Mul, identity(t, m.Rows), m); !matrix.Equal(got, m) {
			t.Errorf("Mul of the Identity and %s: %s", show(m), show(got))
		}
	}
}

// Rule 3

// A use is a call with all that it is handed.
type use struct {
	name string
	call func() answer
}

// uses are all calls that two matrices, places and a vector may be handed to, among them such as are refused.
func uses(a, b api.Matrix, x []complex128) []use {
	var all []use
	for name, call := range pairCalls() {
		all = append(all, use{name, func() answer { return call(a, b) }}, use{name, func() answer { return call(b, a) }})
		all = append(all, use{name, func() answer { return call(a, of(5, 1, x...)) }})
	}
	for name, call := range oneCalls() {
		for _, at := range [][2]int{{0, 0}, {0, 1}, {1, 0}, {1, 1}, {0, 9}} {
			all = append(all, use{name, func() answer { return call(a, at[0], at[1], x) }})
		}
	}
	all = append(all, use{"Check", func() answer { return answer{e: matrix.Check(a)} }})
	asked := func(yes bool) answer {
		if yes {
			return answer{x: 1}
		}
		return answer{}
	}
	return append(all, use{"Same", func() answer { return asked(matrix.Same(a, b)) }}, use{"Equal", func() answer { return asked(matrix.Equal(a, b)) }}, use{"Symmetric", func() answer { return asked(matrix.Symmetric(a)) }})
}

// eachOverlap goes over two matrices and a vector that are pieces of one list: apart, one and the same, or with places in common, and with other places ahead of and behind them, within their room.
func eachOverlap(do func(whole []complex128, a, b api.Matrix, x []complex128)) {
	for _, at := range []int{1, 2, 4, 5, 7, 9} {
		for _, to := range []int{0, 3, 4, 6, 7, 12} {
			whole := near(16, 50, -1, 1)
			do(whole, of(2, 2, whole[4:8]...), of(2, 2, whole[at:at+4]...), whole[to:to+2])
		}
	}
}

func TestWhatIsHandedInIsNotChanged(t *testing.T) {
	eachOverlap(func(whole []complex128, a, b api.Matrix, x []complex128) {
		before := slices.Clone(whole)
		for _, u := range uses(a, b, x) {
			u.call()
			if !slices.Equal(whole, before) {
				t.Fatalf("%s changes what it is handed", u.name)
			}
		}
	})
}

func TestPiecesOfOneList(t *testing.T) {
	eachOverlap(func(_ []complex128, a, b api.Matrix, x []complex128) {
		apart := func(m api.Matrix) api.Matrix { return of(m.Rows, m.Cols, slices.Clone(m.Data)...) }
		for name, call := range pairCalls() {
			if got, want := call(a, b), call(apart(a), apart(b)); got.e != api.OK || !alikeAnswers(got, want) {
				t.Errorf("%s of pieces of one list: %s, want %s", name, show(got.m), show(want.m))
			}
		}
		for name, call := range oneCalls() {
			if got, want := call(a, 0, 1, x), call(apart(a), 0, 1, slices.Clone(x)); got.e != api.OK || !alikeAnswers(got, want) {
				t.Errorf("%s of pieces of one list: %v, want %v", name, got, want)
			}
		}
	})
}

// room gives a list with its spare places.
func room(l []complex128) []complex128 { return l[:cap(l)] }

func fill(l []complex128) {
	for i := range l {
		l[i] = complex(-77, 77)
	}
}

func TestWhatIsHandedBackIsNew(t *testing.T) {
	eachOverlap(func(whole []complex128, a, b api.Matrix, x []complex128) {
		before := slices.Clone(whole)
		for _, u := range uses(a, b, x) {
			got, again := u.call().data(), u.call().data()
			told := slices.Clone(again)
			fill(room(got))
			if !slices.Equal(whole, before) {
				t.Errorf("%s: what it tells shares memory with what it is handed", u.name)
			}
			if !slices.Equal(again, told) {
				t.Errorf("%s: what it tells twice shares memory", u.name)
			}
			fill(whole)
			if !slices.Equal(again, told) {
				t.Errorf("%s: what it tells changes with what it was handed", u.name)
			}
			copy(whole, before)
		}
	})
}

func TestIdentityIsNew(t *testing.T) {
	for _, n := range []int{0, 1, 2, most} {
		got, again := identity(t, n), identity(t, n)
		told := slices.Clone(again.Data)
		fill(room(got.Data))
		if !slices.Equal(again.Data, told) || !slices.Equal(identity(t, n).Data, told) {
			t.Errorf("Identity(%d): what it tells twice shares memory", n)
		}
	}
}

func TestNoNumbersButSpareRoom(t *testing.T) {
	whole := near(8, 51, -1, 1)
	before := slices.Clone(whole)
	for _, rows := range []int{0, 2} {
		for _, cols := range []int{0, 2} {
			if rows*cols != 0 {
				continue
			}
			a, b := of(rows, cols, whole[2:2]...), of(rows, cols, whole[3:3]...)
			for _, x := range [][]complex128{whole[1:1], whole[1:3]} {
				for _, u := range uses(a, b, x) {
					fill(room(u.call().data()))
					if !slices.Equal(whole, before) {
						t.Fatalf("%s of no numbers: what it tells shares its spare room", u.name)
					}
				}
			}
		}
	}
}

// P1: every call ends, none panics, and one asked twice answers the same.
func TestCalm(t *testing.T) {
	all := append(matrices(), none()...)
	for i, a := range all {
		b := all[(i*7+3)%len(all)] // mostly of another shape
		x := near(i%67, uint64(i+1), -1, 1)
		for _, u := range uses(a, b, x) {
			if one, other := u.call(), u.call(); !alikeAnswers(one, other) {
				t.Errorf("%s of %s and %s: %v, then %v", u.name, show(a), show(b), one, other)
			}
		}
	}
}
