package refine_test

import (
	"fmt"
	"math"
	"math/big"
	"slices"
	"testing"

	"gridwork/api"
	"gridwork/lower"
	"gridwork/refine"
	"gridwork/solve"
)

const (
	least    = 0x1p-1074
	greatest = math.MaxFloat64
	top      = 0x1p1023
	order    = 64 // rows a matrix may have
	ever     = 64 // rounds there may be
)

var (
	inf     = math.Inf(1)
	nan     = math.NaN()
	minus0  = math.Copysign(0, -1)
	loudNaN = math.Float64frombits(0xfff0000000000001)
)

// The operations, each in a function of its own that is laid into none: nothing can be joined there. What a call tells is held against them.

//go:noinline
func plus(a, b float64) float64 { return a + b }

//go:noinline
func less(a, b float64) float64 { return a - b }

//go:noinline
func times(a, b float64) float64 { return a * b }

func sum(a, b complex128) complex128 {
	return complex(plus(real(a), real(b)), plus(imag(a), imag(b)))
}

// flipped turns a real's sign bit.
func flipped(x float64) float64 {
	return math.Float64frombits(math.Float64bits(x) ^ 1<<63)
}

func conjugates(l []complex128) []complex128 {
	var all []complex128
	for _, z := range l {
		all = append(all, complex(real(z), flipped(imag(z))))
	}
	return all
}

func opposites(l []complex128) []complex128 {
	var all []complex128
	for _, z := range l {
		all = append(all, complex(flipped(real(z)), flipped(imag(z))))
	}
	return all
}

// scaled are numbers times a power of two.
func scaled(l []complex128, power int) []complex128 {
	var all []complex128
	for _, z := range l {
		all = append(all, complex(math.Ldexp(real(z), power), math.Ldexp(imag(z), power)))
	}
	return all
}

func finite(z complex128) bool {
	real1 := func(x float64) bool { return !math.IsNaN(x) && !math.IsInf(x, 0) }
	return real1(real(z)) && real1(imag(z))
}

func notFinite(z complex128) bool { return !finite(z) }

// alike holds numbers against each other by their bits, NaN's too: so a change is seen.
func alike(x, y complex128) bool {
	return math.Float64bits(real(x)) == math.Float64bits(real(y)) && math.Float64bits(imag(x)) == math.Float64bits(imag(y))
}

func alikeLists(a, b []complex128) bool {
	return slices.EqualFunc(a, b, alike)
}

func alikeMatrices(a, b api.Matrix) bool {
	return a.Rows == b.Rows && a.Cols == b.Cols && alikeLists(a.Data, b.Data)
}

// square is a matrix of n rows and columns of the numbers that are told, row by row.
func square(n int, l ...complex128) api.Matrix {
	return api.Matrix{Rows: n, Cols: n, Data: l}
}

// row is a matrix of one row.
func row(l ...complex128) api.Matrix {
	return api.Matrix{Rows: 1, Cols: len(l), Data: l}
}

// diagonal has these numbers from corner to corner.
func diagonal(l ...complex128) api.Matrix {
	n := len(l)
	m := square(n, make([]complex128, n*n)...)
	for i, z := range l {
		m.Data[i*n+i] = z
	}
	return m
}

// same is a list of one number, so many times.
func same(n int, z complex128) []complex128 {
	return slices.Repeat([]complex128{z}, n)
}

// identity has ones from corner to corner.
func identity(n int) api.Matrix {
	return diagonal(same(n, 1)...)
}

// list tells numbers, or of many how many there are.
func list(l []complex128) string {
	if len(l) > 25 {
		return fmt.Sprintf("%d numbers", len(l))
	}
	return fmt.Sprint(l)
}

func show(m api.Matrix) string {
	return fmt.Sprintf("%d by %d, %s", m.Rows, m.Cols, list(m.Data))
}

// made eliminates a matrix that is to have no fault.
func made(t *testing.T, m api.Matrix) *lower.Lower {
	t.Helper()
	l, f := lower.Of(m)
	if l == nil || f != (api.Fault{}) {
		t.Fatalf("Of %s: {%d, %d}", show(m), int(f.Err), f.At)
	}
	return l
}

// product is a product of reals, with its sign or with the other one.
type product struct {
	turned bool
	x, y   float64
}

// leftPart is what the chapter says of a part of what is left.
func leftPart(first float64, products []product) float64 {
	terms, lost := []float64{first}, []float64{}
	for _, c := range products {
		p := times(c.x, c.y)
		e := math.FMA(c.x, c.y, flipped(p))
		if c.turned {
			p, e = flipped(p), flipped(e)
		}
		terms, lost = append(terms, p), append(lost, e)
	}
	s, errs := 0.0, []float64{}
	for _, x := range terms {
		next := plus(s, x)
		u := less(next, s)
		errs = append(errs, plus(less(s, less(next, u)), less(x, u)))
		s = next
	}
	f := 0.0
	for _, e := range errs {
		f = plus(f, e)
	}
	for _, e := range lost {
		f = plus(f, e)
	}
	return plus(s, f)
}

// left is what the chapter says of Left, of what is not refused ahead of reckoning.
func left(m api.Matrix, x, b []complex128) ([]complex128, api.Errno) {
	var all []complex128
	for i := range m.Rows {
		var re, im []product
		for k := range m.Cols {
			p, q := real(m.Data[i*m.Cols+k]), imag(m.Data[i*m.Cols+k])
			u, v := real(x[k]), imag(x[k])
			re = append(re, product{true, p, u}, product{false, q, v})
			im = append(im, product{true, p, v}, product{true, q, u})
		}
		all = append(all, complex(leftPart(real(b[i]), re), leftPart(imag(b[i]), im)))
	}
	if slices.ContainsFunc(all, notFinite) {
		return nil, api.ErrOver
	}
	return all, api.OK
}

// once is what the chapter says of Once.
func once(m api.Matrix, l *lower.Lower, x, b []complex128) ([]complex128, api.Errno) {
	rest, e := left(m, x, b)
	if e != api.OK {
		return nil, e
	}
	d, e := solve.Solve(l, rest)
	if e != api.OK {
		return nil, e
	}
	var all []complex128
	for i := range x {
		all = append(all, sum(x[i], d[i]))
	}
	if slices.ContainsFunc(all, notFinite) {
		return nil, api.ErrOver
	}
	return all, api.OK
}

// norm is the sum of the parts' sizes.
func norm(l []complex128) float64 {
	s := 0.0
	for _, z := range l {
		s = plus(s, plus(math.Abs(real(z)), math.Abs(imag(z))))
	}
	return s
}

// until is what the chapter says of Until.
func until(m api.Matrix, l *lower.Lower, x, b []complex128, most int) ([]complex128, int, api.Errno) {
	before, e := left(m, x, b)
	if e != api.OK {
		return nil, 0, e
	}
	for k := 0; k < most; k++ {
		y, e := once(m, l, x, b)
		if e != api.OK {
			return x, k, api.OK
		}
		behind, e := left(m, y, b)
		if e != api.OK {
			return x, k, api.OK
		}
		if norm(behind) >= norm(before) {
			return x, k, api.OK
		}
		x, before = y, behind
	}
	return x, most, api.OK
}

// leftTells sees that so much is left, to the bit, or that it is refused so.
func leftTells(t *testing.T, m api.Matrix, x, b, want []complex128, e api.Errno) {
	t.Helper()
	l, got := refine.Left(m, x, b)
	if got != e || !alikeLists(l, want) {
		t.Errorf("Left of %s, x %s, b %s: %s, %d, want %s, %d", show(m), list(x), list(b), list(l), int(got), list(want), int(e))
	}
}

// onceTells sees that a solution is bettered so, to the bit.
func onceTells(t *testing.T, m api.Matrix, l *lower.Lower, x, b, want []complex128, e api.Errno) {
	t.Helper()
	y, got := refine.Once(m, l, x, b)
	if got != e || !alikeLists(y, want) {
		t.Errorf("Once of %s, x %s, b %s: %s, %d, want %s, %d", show(m), list(x), list(b), list(y), int(got), list(want), int(e))
	}
}

// untilTells sees that a solution is bettered so in so many rounds, to the bit.
func untilTells(t *testing.T, m api.Matrix, l *lower.Lower, x, b []complex128, most int, want []complex128, rounds int, e api.Errno) {
	t.Helper()
	y, n, got := refine.Until(m, l, x, b, most)
	if got != e || n != rounds || !alikeLists(y, want) {
		t.Errorf("Until of %s, x %s, b %s, most %d: %s, %d rounds, %d, want %s, %d rounds, %d", show(m), list(x), list(b), most, list(y), n, int(got), list(want), rounds, int(e))
	}
}

// allRefuse sees that all three refuse with one error, and tell nothing then.
func allRefuse(t *testing.T, m api.Matrix, l *lower.Lower, x, b []complex128, e api.Errno) {
	t.Helper()
	leftTells(t, m, x, b, nil, e)
	bothRefuse(t, m, l, x, b, e)
}

// bothRefuse sees that Once and Until refuse with one error, whatever the rounds that may be.
func bothRefuse(t *testing.T, m api.Matrix, l *lower.Lower, x, b []complex128, e api.Errno) {
	t.Helper()
	onceTells(t, m, l, x, b, nil, e)
	for _, most := range []int{0, 1, 7, ever} {
		untilTells(t, m, l, x, b, most, nil, 0, e)
	}
}

// scatter gives whole numbers of 64 bits, always the same ones.
func scatter(n int, seed uint64) []uint64 {
	var all []uint64
	for range n {
		seed ^= seed << 13
		seed ^= seed >> 7
		seed ^= seed << 17
		all = append(all, seed)
	}
	return all
}

// near gives finite numbers whose parts' powers of two lie from low to high, always the same ones.
func near(n int, seed uint64, low, high int) []complex128 {
	part := func(bits uint64) float64 {
		power := low + int(bits>>52&0x7ff)%(high-low+1)
		x := math.Ldexp(1+float64(bits&(1<<52-1))*0x1p-52, power)
		if bits>>63 != 0 {
			return -x
		}
		return x
	}
	var all []complex128
	bits := scatter(2*n, seed)
	for i := range n {
		all = append(all, complex(part(bits[2*i]), part(bits[2*i+1])))
	}
	return all
}

// few gives numbers whose parts are whole and small, some of them 0, of either sign.
func few(n int, seed uint64) []complex128 {
	var all []complex128
	for _, bits := range scatter(n, seed) {
		re, im := float64(bits>>20%4), float64(bits>>40%3)
		all = append(all, complex(math.Copysign(re, float64(bits>>50&1)-0.5), math.Copysign(im, float64(bits>>51&1)-0.5)))
	}
	return all
}

// whole gives numbers whose parts are whole, of sizes up to 2^power, some just that.
func whole(n int, seed uint64, power int) []complex128 {
	part := func(bits uint64) float64 {
		x := float64(bits >> 8 % (1<<power + 1))
		if bits>>60&7 == 0 {
			x = math.Ldexp(1, power)
		}
		return math.Copysign(x, float64(bits>>5&1)-0.5)
	}
	var all []complex128
	bits := scatter(2*n, seed)
	for i := range n {
		all = append(all, complex(part(bits[2*i]), part(bits[2*i+1])))
	}
	return all
}

// noughts are the numbers that are equal to 0.
func noughts() []complex128 {
	return []complex128{0, complex(minus0, 0), complex(0, minus0), complex(minus0, minus0)}
}

// unfinite are numbers that are not finite, by either part or both.
func unfinite() []complex128 {
	var all []complex128
	for _, x := range []float64{nan, loudNaN, inf, -inf} {
		all = append(all, complex(x, 0), complex(0, x), complex(x, 1), complex(-1, x), complex(x, x), complex(x, inf), complex(nan, x))
	}
	return all
}

// units are the numbers whose products and quotients are exact.
func units() []complex128 {
	return []complex128{1, -1, complex(0, 1), complex(0, -1)}
}

// someNoughts are n of them, in turn.
func someNoughts(n, turn int) []complex128 {
	var all []complex128
	for i := range n {
		all = append(all, noughts()[(i+turn)%4])
	}
	return all
}

// matrices are square ones, most of which can be eliminated: without rows, of one number, with numbers near each other, few ones, great and small ones, and of 64 rows.
func matrices() []api.Matrix {
	all := []api.Matrix{{}, {Data: []complex128{}}, square(2, units()...), square(2, 2, 1, 4, 3), identity(2), identity(order)}
	for _, z := range append(units(), least, complex(0, -least), complex(3*least, least), complex(greatest, 1), complex(greatest, greatest), 3, complex(1, -2)) {
		all = append(all, square(1, z))
	}
	for i := range 24 {
		seed, n := uint64(i+1), 1+i%8
		for _, l := range [][]complex128{
			few(n*n, seed), near(n*n, seed, 0, 0), near(n*n, seed, -2, 2), near(n*n, seed, -30, 30), near(n*n, seed, -500, 500),
			near(n*n, seed, -1074, -1070), near(n*n, seed, -1074, 1020), near(n*n, seed, 1019, 1021), near(n*n, seed, -540, -520), near(n*n, seed, 490, 505),
		} {
			all = append(all, square(n, l...))
		}
	}
	return append(all, square(order, few(order*order, 1)...), square(order, near(order*order, 2, -1, 1)...), square(order-1, near((order-1)*(order-1), 3, -20, 20)...))
}

// solutions are lists of n numbers to begin with: what is about right, that with something added, and others.
func solutions(l *lower.Lower, b []complex128, seed uint64) [][]complex128 {
	n := len(b)
	all := [][]complex128{make([]complex128, n), someNoughts(n, int(seed%4)), few(n, seed), near(n, seed+7, 0, 3), near(n, seed+8, -1074, 1023)}
	if x, e := solve.Solve(l, b); e == api.OK {
		off := slices.Clone(x)
		for i, d := range near(n, seed+9, -30, -20) {
			off[i] += d * off[i]
		}
		all = append(all, x, off)
	}
	return all
}

// task is something to be solved, with something to begin with.
type task struct {
	m    api.Matrix
	l    *lower.Lower
	x, b []complex128
}

// tasks are many, most of them with the elimination of their own matrix, some with that of another one.
func tasks() []task {
	var all []task
	for i, m := range matrices() {
		l, f := lower.Of(m)
		if f != (api.Fault{}) {
			continue
		}
		n, seed := m.Rows, uint64(i+1)
		sides := [][]complex128{make([]complex128, n), few(n, seed), near(n, seed, 0, 0), near(n, seed, -30, 30), near(n, seed, -1074, 1023)}
		if n > 8 {
			sides = sides[1:4]
		}
		for _, b := range sides {
			for _, x := range solutions(l, b, seed) {
				all = append(all, task{m, l, x, b})
			}
		}
		// What is nearly its own elimination betters slowly, or not at all.
		off := slices.Clone(m.Data)
		for k, d := range near(n*n, seed, -4, -1) {
			off[k] += d * off[k]
		}
		if slow, f := lower.Of(square(n, off...)); f == (api.Fault{}) {
			b := near(n, seed+3, -1, 1)
			for _, x := range solutions(slow, b, seed) {
				all = append(all, task{m, slow, x, b})
			}
		}
	}
	return all
}

// The chapter's examples.
func TestExamples(t *testing.T) {
	m := square(1, 3)
	l := made(t, m)
	leftTells(t, m, []complex128{complex(2, 1)}, []complex128{complex(7, 3)}, []complex128{1}, api.OK)
	leftTells(t, m, []complex128{complex(1.0/3, 0)}, []complex128{1}, []complex128{0x1p-54}, api.OK)
	onceTells(t, m, l, []complex128{2}, []complex128{9}, []complex128{3}, api.OK)
	untilTells(t, m, l, []complex128{2}, []complex128{9}, 5, []complex128{3}, 1, api.OK)
	untilTells(t, m, l, []complex128{2}, []complex128{9}, 65, nil, 0, api.ErrArg)
	untilTells(t, m, l, []complex128{2}, []complex128{9}, -1, nil, 0, api.ErrArg)
	allRefuse(t, m, l, []complex128{2, 2}, []complex128{9}, api.ErrShape)
	allRefuse(t, m, l, []complex128{2}, []complex128{complex(inf, 0)}, api.ErrNumber)
	m = square(1, 1e308)
	allRefuse(t, m, made(t, m), []complex128{1e308}, []complex128{0}, api.ErrOver)
}

func TestNumbersOfErrors(t *testing.T) {
	if api.OK != 0 || api.ErrNil != 1 || api.ErrArg != 2 || api.ErrShape != 4 || api.ErrNumber != 5 || api.ErrOver != 6 || api.MaxRounds != ever || api.MaxOrder != order {
		t.Error("the numbers of the errors, or a limit")
	}
}

// P11.2, P11.3, rule 4: a Lower that is nil, or that lower.Of did not make, ahead of all else.
func TestNoLower(t *testing.T) {
	for _, l := range []*lower.Lower{nil, {}, new(lower.Lower)} {
		for _, m := range []api.Matrix{{}, square(1, 3), square(2, 1), {Rows: -1, Cols: 5}, square(1, complex(nan, 0)), square(1, 1e308)} {
			for _, x := range [][]complex128{nil, {1}, {1, 2}, {complex(inf, 0)}, {1e308}} {
				for _, b := range [][]complex128{nil, {1}, {1, 2, 3}, {complex(0, nan)}} {
					onceTells(t, m, l, x, b, nil, api.ErrNil)
					for _, most := range []int{0, 1, ever, -1, ever + 1} {
						untilTells(t, m, l, x, b, most, nil, 0, api.ErrNil)
					}
				}
			}
		}
	}
}

// P11.1: what is no matrix, and lists that do not fit, ahead of numbers that are not finite.
func TestShapes(t *testing.T) {
	plain, bad := []complex128{1, 2}, []complex128{complex(nan, 0), 1}
	for _, m := range []api.Matrix{
		{Rows: 2, Cols: 2}, {Rows: 2, Cols: 2, Data: []complex128{1, 2, 3}}, {Rows: 2, Cols: 2, Data: []complex128{1, 2, 3, 4, 5}}, {Rows: 2, Cols: 2, Data: []complex128{complex(nan, 0)}},
		{Rows: -2, Cols: -2, Data: []complex128{1, 2, 3, 4}}, {Rows: 2, Cols: -2}, {Rows: -2, Cols: 2}, {Rows: 0, Cols: 2, Data: plain}, {Rows: 2, Cols: 0, Data: plain}, {Rows: 1, Cols: 4, Data: near(4, 1, 0, 0)},
	} {
		for _, x := range [][]complex128{plain, bad} {
			for _, b := range [][]complex128{plain, bad} {
				leftTells(t, m, x, b, nil, api.ErrShape)
			}
		}
	}
	leftTells(t, api.Matrix{Rows: 1, Cols: 65, Data: make([]complex128, 65)}, make([]complex128, 65), make([]complex128, 1), nil, api.ErrShape)
	leftTells(t, api.Matrix{Rows: 65, Cols: 1, Data: make([]complex128, 65)}, make([]complex128, 1), make([]complex128, 65), nil, api.ErrShape)
	leftTells(t, api.Matrix{Rows: 65, Cols: 65, Data: make([]complex128, 65*65)}, make([]complex128, 65), make([]complex128, 65), nil, api.ErrShape)
	leftTells(t, api.Matrix{Rows: math.MinInt, Cols: 2}, make([]complex128, 2), nil, nil, api.ErrShape)
	for rows := range 4 {
		for cols := range 4 {
			m := api.Matrix{Rows: rows, Cols: cols, Data: near(rows*cols, 1, 0, 1)}
			for nx := range 6 {
				for nb := range 6 {
					x, b := near(nx, 2, 0, 1), near(nb, 3, 0, 1)
					want := api.OK
					if nx != cols || nb != rows {
						want = api.ErrShape
						if nx > 0 {
							x[nx-1] = complex(inf, 0)
						}
						if nb > 0 {
							b[0] = complex(0, nan)
						}
					}
					if l, e := refine.Left(m, x, b); e != want || want != api.OK && len(l) != 0 || want == api.OK && len(l) != rows {
						t.Errorf("Left of %s, %d numbers in x, %d in b: %s, %d, want %d", show(m), nx, nb, list(l), int(e), int(want))
					}
				}
			}
		}
	}
	leftTells(t, square(1, 3), make([]complex128, api.MaxVector+1), []complex128{1}, nil, api.ErrShape)
}

// P11.2, P11.3: a matrix of another size than the Lower's, ahead of ErrArg and of all that Left tells.
func TestAnotherSize(t *testing.T) {
	for n := range 5 {
		l := made(t, identity(n))
		for rows := range 6 {
			for cols := range 6 {
				if rows == n && cols == n {
					continue
				}
				for _, data := range [][]complex128{near(rows*cols, 1, 0, 1), nil, {complex(nan, 1)}} {
					m := api.Matrix{Rows: rows, Cols: cols, Data: data}
					for _, x := range [][]complex128{near(cols, 1, 0, 1), near(n, 1, 0, 1), {complex(nan, 0)}} {
						b := near(rows, 2, 0, 1)
						bothRefuse(t, m, l, x, b, api.ErrShape)
						untilTells(t, m, l, x, b, -1, nil, 0, api.ErrShape)
						untilTells(t, m, l, x, b, ever+1, nil, 0, api.ErrShape)
					}
				}
			}
		}
		bothRefuse(t, api.Matrix{Rows: -n - 1, Cols: -n - 1}, l, nil, nil, api.ErrShape)
	}
}

// P11.2, P11.3: of the Lower's size, but no matrix, or with lists that do not fit it.
func TestLeftsShapes(t *testing.T) {
	l := made(t, identity(2))
	two := []complex128{1, 2}
	for _, m := range []api.Matrix{square(2), square(2, 1, 2, 3), square(2, 1, 2, 3, 4, complex(nan, 0))} {
		allRefuse(t, m, l, two, two, api.ErrShape)
		allRefuse(t, m, l, []complex128{complex(nan, 0), 1}, two, api.ErrShape)
	}
	for _, other := range [][]complex128{nil, {1}, {1, complex(nan, 0), 3}, make([]complex128, order)} {
		allRefuse(t, identity(2), l, other, two, api.ErrShape)
		allRefuse(t, identity(2), l, two, other, api.ErrShape)
		allRefuse(t, identity(2), l, other, other, api.ErrShape)
	}
}

// P11.3: how many rounds there may be, ahead of what Left tells.
func TestMost(t *testing.T) {
	m := square(2, 3, 1, 1, 2)
	l := made(t, m)
	plain := []complex128{1, 2}
	for _, most := range []int{-1, -2, -64, -65, ever + 1, ever + 2, 128, 1 << 16, 1<<32 + 1, -1 << 32, math.MaxInt, math.MinInt} {
		for _, x := range [][]complex128{plain, nil, {1}, {complex(nan, 0), 1}, {greatest, greatest}} {
			untilTells(t, m, l, x, plain, most, nil, 0, api.ErrArg)
			untilTells(t, m, l, plain, x, most, nil, 0, api.ErrArg)
		}
		untilTells(t, square(2, 1), l, plain, plain, most, nil, 0, api.ErrArg)
		untilTells(t, square(2, 1, 2, complex(inf, 0), 4), l, plain, plain, most, nil, 0, api.ErrArg)
	}
	for most := 0; most <= ever; most++ {
		if y, rounds, e := refine.Until(m, l, plain, plain, most); e != api.OK || len(y) != 2 || rounds < 0 || rounds > most {
			t.Errorf("most %d: %s, %d rounds, %d", most, list(y), rounds, int(e))
		}
	}
}

// P11.1: a number that is not finite, wherever it stands, ahead of what is over.
func TestNotFinite(t *testing.T) {
	for n := 1; n <= 4; n++ {
		l := made(t, identity(n))
		for _, z := range unfinite() {
			for _, great := range []bool{false, true} {
				m, x, b := square(n, near(n*n, 1, 0, 1)...), near(n, 2, 0, 1), near(n, 3, 0, 1)
				if great {
					m, x = square(n, same(n*n, 1e308)...), same(n, 1e308)
				}
				for _, part := range [][]complex128{m.Data, x, b} {
					for p, was := range part {
						part[p] = z
						allRefuse(t, m, l, x, b, api.ErrNumber)
						part[p] = was
					}
				}
				if _, e := refine.Left(m, x, b); great != (e == api.ErrOver) {
					t.Errorf("without it: %d", int(e))
				}
			}
		}
	}
	// Without columns, and at the last of many places.
	leftTells(t, api.Matrix{Rows: 2}, nil, []complex128{1, complex(0, inf)}, nil, api.ErrNumber)
	leftTells(t, api.Matrix{Cols: 2}, []complex128{1, complex(0, inf)}, nil, nil, api.ErrNumber)
	m := identity(order)
	m.Data[order*order-1] = complex(1, nan)
	leftTells(t, m, make([]complex128, order), make([]complex128, order), nil, api.ErrNumber)
}

// P11.1: what is left is not finite: by a product, by a sum, in whichever row and part.
func TestOver(t *testing.T) {
	for n := 1; n <= 4; n++ {
		for i := range n {
			for k := range n {
				for _, p := range units() {
					for _, u := range units() {
						m, x, b := identity(n), make([]complex128, n), make([]complex128, n)
						l := made(t, m)
						m.Data[i*n+k], x[k] = p*0x1p512, u*0x1p511
						want, e := left(m, x, b)
						leftTells(t, m, x, b, want, e)
						if e != api.OK {
							t.Fatal(int(e))
						}
						x[k] = u * 0x1p512
						allRefuse(t, m, l, x, b, api.ErrOver)
						// Two that are finite are too much together.
						x[k] = u * 0x1p511
						if n > 1 {
							j := (k + 1) % n
							m.Data[i*n+j], x[j] = p*0x1p512, u*0x1p511
							allRefuse(t, m, l, x, b, api.ErrOver)
							x[j] = 0
						}
						b[i] = -p * u * 0x1p1023
						allRefuse(t, m, l, x, b, api.ErrOver)
					}
				}
			}
		}
	}
}

// P11.1: the terms are summed as they stand; what becomes endless on the way stays so, though it would end well in another order.
func TestTheOrderOfTerms(t *testing.T) {
	i := complex(0, 1)
	for _, c := range []struct {
		m    api.Matrix
		x    []complex128
		b    complex128
		want complex128
		e    api.Errno
	}{
		// re: b, -p u, q v, column by column.
		{row(complex(top, top)), []complex128{complex(1, 0.5)}, top, complex(top/2, -1.5*top), api.OK},
		{row(complex(top, top)), []complex128{complex(-1, -1)}, top, 0, api.ErrOver},
		{row(complex(top, top)), []complex128{complex(0.5, 0.75)}, complex(top, top), complex(1.25*top, -top/4), api.OK},
		{row(complex(top, -top)), []complex128{complex(-1, 1)}, top, 0, api.ErrOver},
		{row(complex(top, -top)), []complex128{complex(1, -0.5)}, top / 2, complex(0, 1.5*top), api.OK},
		{row(top, -top), []complex128{1, 1}, top, complex(top, 0), api.OK},
		{row(-top, top), []complex128{1, 1}, top, 0, api.ErrOver},
		{row(-top, top), []complex128{1, 1}, -top, -top, api.OK},
		{row(i*top, -i*top), []complex128{i, i}, top, 0, api.ErrOver},
		{row(-i*top, i*top), []complex128{i, i}, top, top, api.OK},
		{row(-i*top, top), []complex128{i, -1}, top, top, api.OK},
		{row(top, i*top), []complex128{1, i}, top, top, api.OK},
		{row(i*top, top), []complex128{i, 1}, top, 0, api.ErrOver},
		// im: b, -p v, -q u.
		{row(complex(top, -top)), []complex128{complex(1, 1)}, complex(0, top), complex(0, 0), api.ErrOver},
		{row(complex(top, -top)), []complex128{complex(0.5, 0.5)}, complex(top, top), complex(0, top), api.OK},
		{row(complex(-top, top)), []complex128{complex(0.5, 0.5)}, complex(-top/2, 1.5*top), 0, api.ErrOver},
		{row(complex(-top, top)), []complex128{complex(0.5, 0.5)}, complex(-top/2, top/4), complex(top/2, top/4), api.OK},
		{row(complex(0, top), top), []complex128{1, -i}, complex(0, top), complex(0, top), api.OK},
		{row(top, complex(0, top)), []complex128{-i, 1}, complex(0, top), 0, api.ErrOver},
		{row(top, complex(0, top)), []complex128{i, -1}, complex(0, top), complex(0, top), api.OK},
	} {
		want, e := left(c.m, c.x, []complex128{c.b})
		if e != c.e || e == api.OK && want[0] != c.want {
			t.Errorf("%s, x %s, b %v: %s, %d by the chapter's steps, want %v, %d", show(c.m), list(c.x), c.b, list(want), int(e), c.want, int(c.e))
		}
		leftTells(t, c.m, c.x, []complex128{c.b}, want, e)
	}
}

// What is told is not finite where an addition's error is not, or where the sum is not with its errors, though the sum alone is.
func TestOverByAnError(t *testing.T) {
	a, b := 3*0x1p970, -greatest
	s := plus(a, b)
	if math.IsInf(s, 0) || !math.IsInf(less(s, a), -1) {
		t.Fatalf("the sum is %v, less its first %v", s, less(s, a))
	}
	for _, u := range units() {
		// Both of one term, of either part.
		for _, turn := range units() {
			m, x := square(1, u*greatest), []complex128{turn}
			allRefuse(t, m, made(t, m), x, []complex128{u * turn * complex(a, 0)}, api.ErrOver)
			leftTells(t, m, x, []complex128{0}, []complex128{0 - u*turn*greatest}, api.OK)
		}
		// Each of both errors is less than a half of the last place, but not both.
		m, x := row(0x1.8p969*u, 0x1.8p969*u), []complex128{-1, -1}
		leftTells(t, m, x, []complex128{u * greatest}, nil, api.ErrOver)
		x[1] = 0
		if l, e := refine.Left(m, x, []complex128{u * greatest}); e != api.OK || l[0] != u*greatest {
			t.Errorf("%s, %d", list(l), int(e))
		}
	}
}

// P11.1 to the bit, of square matrices and others.
func TestLeftAsTheChapterSays(t *testing.T) {
	kinds := map[api.Errno]int{}
	for _, c := range tasks() {
		want, e := left(c.m, c.x, c.b)
		kinds[e]++
		leftTells(t, c.m, c.x, c.b, want, e)
	}
	if kinds[api.OK] < 3000 || kinds[api.ErrOver] < 300 {
		t.Errorf("%v", kinds)
	}
	for i := range 400 {
		rows, cols, seed := i%5, i/5%9, uint64(i+1)
		if i%50 == 0 {
			cols = order
		}
		for _, to := range [][2]int{{0, 0}, {-3, 3}, {-60, 60}, {-1074, -1000}, {-560, -530}, {480, 511}} {
			m := api.Matrix{Rows: rows, Cols: cols, Data: near(rows*cols, seed, to[0], to[1])}
			x, b := near(cols, seed+1, to[0], to[1]), near(rows, seed+2, to[0], to[1])
			want, e := left(m, x, b)
			leftTells(t, m, x, b, want, e)
			// Of what a first reckoning leaves nothing but rounding is left.
			for k, z := range want {
				b[k] -= z
			}
			want, e = left(m, x, b)
			leftTells(t, m, x, b, want, e)
		}
	}
}

// exactly is what is left, as real numbers: re, then im.
func exactly(m api.Matrix, x, b []complex128, i int) (*big.Float, *big.Float) {
	exact := func(v float64) *big.Float { return new(big.Float).SetPrec(3000).SetFloat64(v) }
	re, im := exact(real(b[i])), exact(imag(b[i]))
	for k := range m.Cols {
		z := m.Data[i*m.Cols+k]
		p, q, u, v := exact(real(z)), exact(imag(z)), exact(real(x[k])), exact(imag(x[k]))
		re.Sub(re, new(big.Float).Mul(p, u))
		re.Add(re, new(big.Float).Mul(q, v))
		im.Sub(im, new(big.Float).Mul(p, v))
		im.Sub(im, new(big.Float).Mul(q, u))
	}
	return re, im
}

// P11.1: what is told is nearly what is left: sums of rounded products would be off by a thousand times what may be here.
func TestLeftIsAbout(t *testing.T) {
	off := 0
	for i := range 300 {
		n, seed := 1+i%9, uint64(i+1)
		m, b := square(n, near(n*n, seed, -2, 2)...), near(n, seed+1, -2, 2)
		l, f := lower.Of(m)
		if f != (api.Fault{}) {
			continue
		}
		x, _ := solve.Solve(l, b)
		got, e := refine.Left(m, x, b)
		if e != api.OK {
			t.Fatalf("%d", int(e))
		}
		great := norm(x)*norm(m.Data) + norm(b)
		for k, z := range got {
			re, im := exactly(m, x, b, k)
			wantRe, _ := re.Float64()
			wantIm, _ := im.Float64()
			if math.Abs(real(z)-wantRe) > 0x1p-52*math.Abs(wantRe)+0x1p-90*great || math.Abs(imag(z)-wantIm) > 0x1p-52*math.Abs(wantIm)+0x1p-90*great {
				t.Errorf("row %d of %s, x %s, b %s: %v, about (%v, %v)", k, show(m), list(x), list(b), z, wantRe, wantIm)
			}
			if z != 0 {
				off++
			}
		}
	}
	if off < 1000 {
		t.Errorf("%d numbers left", off)
	}
}

// P11.5: of whole numbers just b less m x.
func TestLeftOfWholeNumbers(t *testing.T) {
	for i := range 240 {
		rows, cols, seed := i%7, i%33, uint64(i+1)
		m := api.Matrix{Rows: rows, Cols: cols, Data: whole(rows*cols, seed, 20)}
		x, b := whole(cols, seed+1, 20), whole(rows, seed+2, 52)
		switch i % 4 {
		case 1: // each as great as it may be, all terms of one sign
			m.Data, x, b = same(rows*cols, complex(-0x1p20, 0x1p20)), same(cols, complex(0x1p20, 0x1p20)), same(rows, complex(0x1p52, 0x1p52))
		case 2:
			m.Data, x, b = same(rows*cols, complex(0x1p20, 0x1p20)), same(cols, complex(0x1p20, -0x1p20)), same(rows, complex(-0x1p52, 0x1p52-1))
		}
		got, e := refine.Left(m, x, b)
		if e != api.OK || len(got) != rows {
			t.Fatalf("%s, %d", list(got), int(e))
		}
		for k, z := range got {
			re, im := exactly(m, x, b, k)
			if re.Cmp(big.NewFloat(real(z))) != 0 || im.Cmp(big.NewFloat(imag(z))) != 0 {
				t.Errorf("row %d of %s, x %s, b %s: %v, want (%v, %v)", k, show(m), list(x), list(b), z, re, im)
			}
		}
	}
}

// What is nothing is told as (+0, +0), whatever the noughts' signs.
func TestSignsOfNoughts(t *testing.T) {
	for _, p := range append(noughts(), units()...) {
		for _, u := range append(noughts(), units()...) {
			for _, b := range noughts() {
				want, e := left(square(1, p), []complex128{u}, []complex128{b})
				leftTells(t, square(1, p), []complex128{u}, []complex128{b}, want, e)
				leftTells(t, square(1, p), []complex128{u}, []complex128{p * u}, []complex128{0}, api.OK)
				leftTells(t, api.Matrix{Rows: 1}, nil, []complex128{b}, []complex128{0}, api.OK)
			}
		}
	}
}

// Without columns b is left, without rows nothing.
func TestNoColumnsOrRows(t *testing.T) {
	for n := range 5 {
		b := near(n, 4, -3, 3)
		for _, data := range [][]complex128{nil, {}, near(3, 1, 0, 0)[:0]} {
			leftTells(t, api.Matrix{Rows: n, Data: data}, data, b, b, api.OK)
			leftTells(t, api.Matrix{Cols: n, Data: data}, b, data, nil, api.OK)
		}
	}
	none := made(t, api.Matrix{})
	for _, empty := range [][]complex128{nil, {}} {
		onceTells(t, api.Matrix{}, none, empty, empty, nil, api.OK)
		for _, most := range []int{0, 1, ever} {
			untilTells(t, api.Matrix{}, none, empty, empty, most, nil, 0, api.OK)
		}
	}
	untilTells(t, api.Matrix{}, none, nil, nil, ever+1, nil, 0, api.ErrArg)
}

// P11.2, to the bit.
func TestOnceAsTheChapterSays(t *testing.T) {
	kinds := map[api.Errno]int{}
	for _, c := range tasks() {
		want, e := once(c.m, c.l, c.x, c.b)
		kinds[e]++
		onceTells(t, c.m, c.l, c.x, c.b, want, e)
	}
	if kinds[api.OK] < 2500 || kinds[api.ErrOver] < 500 {
		t.Errorf("%v", kinds)
	}
}

// P11.2: what Solve refuses, and a sum that is not finite.
func TestOnceOver(t *testing.T) {
	one, small := square(1, 1), made(t, square(1, 0x1p-1000))
	onceTells(t, one, small, []complex128{0}, []complex128{0x1p1000}, nil, api.ErrOver)
	onceTells(t, one, small, []complex128{0}, []complex128{complex(0, 0x1p24)}, nil, api.ErrOver)
	onceTells(t, one, small, []complex128{0}, []complex128{0x1p23}, []complex128{top}, api.OK)
	// x 2^1023 and d 2^1023.
	tiny := square(1, 0x1p-1000)
	for _, u := range units() {
		x, b := []complex128{u * top}, []complex128{u * 0x1p24}
		onceTells(t, tiny, small, x, b, nil, api.ErrOver)
		untilTells(t, tiny, small, x, b, ever, x, 0, api.OK)
		x[0] = u * top / 2
		if y, e := refine.Once(tiny, small, x, []complex128{u * 0x1p23}); e != api.OK || y[0] != u*top {
			t.Errorf("%s, %d", list(y), int(e))
		}
	}
	// At one place of some.
	for n := 1; n <= 4; n++ {
		for p := range n {
			m, x, b := diagonal(same(n, 0x1p-1000)...), make([]complex128, n), make([]complex128, n)
			x[p], b[p] = complex(0, -top), complex(0, -0x1p24)
			onceTells(t, m, made(t, m), x, b, nil, api.ErrOver)
			m.Data = identity(n).Data
			x[p], b[p] = 0, 1
			l := diagonal(same(n, 1)...)
			l.Data[p*n+p] = least
			onceTells(t, m, made(t, l), x, b, nil, api.ErrOver)
		}
	}
}

// P11.2: a sum is x plus d, part by part, rounded once; noughts add as they do.
func TestOnceAdds(t *testing.T) {
	one := square(1, 1)
	l := made(t, one)
	onceTells(t, one, l, []complex128{complex(minus0, minus0)}, []complex128{0}, []complex128{0}, api.OK)
	for _, z := range near(50, 3, -3, 3) {
		for _, x := range near(20, 4, -60, 60) {
			want, e := once(one, l, []complex128{x}, []complex128{z})
			onceTells(t, one, l, []complex128{x}, []complex128{z}, want, e)
		}
	}
	// d has -0: what is left goes through a quotient.
	turned := made(t, square(1, -1))
	onceTells(t, square(1, -1), turned, []complex128{complex(minus0, minus0)}, []complex128{0}, []complex128{complex(minus0, minus0)}, api.OK)
}

// P11.3, to the bit, with rounds of all kinds.
func TestUntilAsTheChapterSays(t *testing.T) {
	rounds, refused := map[int]int{}, 0
	for i, c := range tasks() {
		for _, most := range []int{0, 1, 2, 3 + i%11, ever} {
			if c.m.Rows > 8 && most > 3 || most == ever && i%3 > 0 {
				continue
			}
			want, n, e := until(c.m, c.l, c.x, c.b, most)
			if e == api.OK {
				rounds[n]++
			} else {
				refused++
			}
			untilTells(t, c.m, c.l, c.x, c.b, most, want, n, e)
		}
	}
	if len(rounds) < 15 || rounds[0] < 3000 || rounds[1] < 1000 || rounds[2] < 500 || refused < 300 {
		t.Errorf("rounds: %v, refused: %d", rounds, refused)
	}
}

// P11.3: how many rounds there are.
func TestRounds(t *testing.T) {
	one, i := square(1, 1), complex(0, 1)
	halving := made(t, square(1, 2))
	for most := 0; most <= ever; most++ {
		// 1, 1/2, 1/4 and so on are left: as many rounds as there may be.
		for _, z := range []complex128{1, -1, i, complex(-3, 5)} {
			untilTells(t, one, halving, []complex128{z}, []complex128{0}, most, scaled([]complex128{z}, -most), most, api.OK)
		}
		// At 54 rounds nothing is left: 1 - 2^-54 is 1.
		rounds := min(most, 54)
		want := 1 - math.Ldexp(1, -rounds)
		untilTells(t, one, halving, []complex128{0}, []complex128{1}, most, []complex128{complex(want, 0)}, rounds, api.OK)
	}
	// At 2^-1074 a half is 0: then all stays as it is.
	untilTells(t, one, halving, []complex128{0x1p-1070}, []complex128{0}, ever, []complex128{least}, 4, api.OK)
	// As much is left, with the other sign; more is left; a little less is.
	x, b := []complex128{5}, []complex128{0}
	untilTells(t, one, made(t, square(1, 0.5)), x, b, ever, x, 0, api.OK)
	untilTells(t, one, made(t, square(1, 0.5)), []complex128{complex(3, -4)}, b, 1, []complex128{complex(3, -4)}, 0, api.OK)
	untilTells(t, one, made(t, square(1, 0.25)), x, b, ever, x, 0, api.OK)
	untilTells(t, one, made(t, square(1, -1)), x, b, ever, x, 0, api.OK)
	if _, rounds, e := refine.Until(one, made(t, square(1, 0.50390625)), []complex128{256}, b, ever); e != api.OK || rounds != ever {
		t.Errorf("a little less is left: %d rounds, %d", rounds, int(e))
	}
	// Held against each other are sums of all sizes, not the greatest: here one number grows, and the sum lessens.
	m := diagonal(1, 1)
	l := made(t, diagonal(1, 1/1.5)) // the second becomes -0.5 of itself
	untilTells(t, m, l, []complex128{4, 2}, []complex128{0, 0}, 1, []complex128{0, -1}, 1, api.OK)
	grows := made(t, diagonal(1, 0.25)) // the second becomes -3 times itself
	untilTells(t, m, grows, []complex128{5, 2}, []complex128{0, 0}, 1, []complex128{0, -6}, 1, api.OK)
	untilTells(t, m, grows, []complex128{4, 2}, []complex128{0, 0}, 1, []complex128{4, 2}, 0, api.OK)
	untilTells(t, m, grows, []complex128{4.5, 2}, []complex128{0, 0}, ever, []complex128{0, -6}, 1, api.OK)
	// By both parts: |re| + |im|.
	untilTells(t, one, made(t, square(1, complex(0.5, 0.5))), []complex128{1}, b, 9, []complex128{1}, 0, api.OK)
}

// P11.3: what Once refuses, and what Left refuses of the better one, ends the rounds without an error.
func TestRoundsEndCalmly(t *testing.T) {
	one := square(1, 1)
	for _, most := range []int{0, 1, 2, ever} {
		// Solve is over.
		untilTells(t, one, made(t, square(1, least)), []complex128{3}, []complex128{1}, most, []complex128{3}, 0, api.OK)
		// The better one is finite, but not what it leaves: 2^1000 times it.
		great := square(1, 0x1p1000)
		untilTells(t, great, made(t, one), []complex128{3}, []complex128{1}, most, []complex128{3}, 0, api.OK)
		if _, e := refine.Once(great, made(t, one), []complex128{3}, []complex128{1}); e != api.OK {
			t.Errorf("Once: %d", int(e))
		}
		// Left of x itself is over.
		untilTells(t, great, made(t, one), []complex128{0x1p1000}, []complex128{1}, most, nil, 0, api.ErrOver)
	}
	// A round is there, the next is refused: from 2^990 to 1 is left, then Solve is over.
	m := diagonal(1, 1)
	l := made(t, square(2, 1, 0, 0, 0x1p-1000))
	untilTells(t, m, l, []complex128{0x1p990, 0x1p-40}, []complex128{0, 0}, ever, []complex128{0, -0x1p960}, 1, api.OK)
}

// P5: a Norm1 of what is left may be endless, though all that is left is finite: less than that is every real, but not an endless one.
func TestEndlessNorms(t *testing.T) {
	b := []complex128{complex(greatest, greatest)}
	one := square(1, 1)
	untilTells(t, one, made(t, one), []complex128{0}, b, ever, b, 1, api.OK)
	untilTells(t, one, made(t, square(1, 2)), []complex128{0}, []complex128{complex(1.5*top, 1.5*top)}, 1, []complex128{complex(0.75*top, 0.75*top)}, 1, api.OK)
	// From an endless one to an endless one: not less, though it is.
	x := []complex128{0}
	untilTells(t, one, made(t, square(1, 8)), x, []complex128{complex(1.5*top, 1.5*top)}, ever, x, 0, api.OK)
	// The sum over some numbers is endless.
	three := diagonal(1, 1, 1)
	untilTells(t, three, made(t, three), make([]complex128, 3), same(3, 0.75*top), ever, same(3, 0.75*top), 1, api.OK)
	four := identity(4)
	untilTells(t, four, made(t, diagonal(same(4, 8)...)), make([]complex128, 4), same(4, 0.75*top), ever, make([]complex128, 4), 0, api.OK)
	// From a real to an endless one: not less either.
	untilTells(t, one, made(t, square(1, 0.4)), []complex128{0}, []complex128{complex(0.75*top, 0.75*top)}, 1, []complex128{0}, 0, api.OK)
	if y, e := refine.Once(one, made(t, square(1, 0.4)), []complex128{0}, []complex128{complex(0.75*top, 0.75*top)}); e != api.OK || !(real(y[0]) > 1.8*top) {
		t.Errorf("%s, %d", list(y), int(e))
	}
}

// P11.3, P11.4: with no rounds x is told, bit by bit.
func TestNoRounds(t *testing.T) {
	for n := range 5 {
		m := square(n, same(n*n, 1)...)
		for k := range n {
			m.Data[k*n+k] = complex(8, 1)
		}
		l := made(t, m)
		for turn := range 4 {
			x := someNoughts(n, turn)
			untilTells(t, m, l, x, near(n, 1, 0, 1), 0, x, 0, api.OK)
			untilTells(t, m, l, x, make([]complex128, n), ever, x, 0, api.OK)
		}
		x := near(n, 3, -1074, 900)
		untilTells(t, m, l, x, near(n, 1, 0, 1), 0, x, 0, api.OK)
	}
}

// P5, P11.4: what Until answers leaves no more over; and it is what one would have by Once and Left.
func TestNoHarm(t *testing.T) {
	better := 0
	for _, c := range tasks() {
		if c.m.Rows > 8 {
			continue
		}
		before, e := refine.Left(c.m, c.x, c.b)
		if e != api.OK {
			continue
		}
		was, x := norm(before), c.x
		for most := range 6 {
			y, rounds, e := refine.Until(c.m, c.l, c.x, c.b, most)
			rest, f := refine.Left(c.m, y, c.b)
			now := norm(rest)
			if e != api.OK || f != api.OK || rounds > most || now > was || rounds > 0 && !(now < norm(before)) {
				t.Fatalf("%s, x %s, b %s, most %d: %d rounds, %d, %d, %v is left, was %v", show(c.m), list(c.x), list(c.b), most, rounds, int(e), int(f), now, was)
			}
			if rounds == most && most > 0 {
				next, e := refine.Once(c.m, c.l, x, c.b)
				if e != api.OK || !alikeLists(next, y) {
					t.Fatalf("%s, x %s, b %s: round %d is not what Once tells", show(c.m), list(c.x), list(c.b), most)
				}
				x = next
				better++
			}
			was = now
		}
	}
	if better < 1500 {
		t.Errorf("%d rounds", better)
	}
}

// A first round takes nearly all away, of a matrix that carries errors not far.
func TestFirstRound(t *testing.T) {
	for i := range 60 {
		n, seed := 1+i%8, uint64(i+1)
		m := square(n, near(n*n, seed, -3, 0)...)
		for k := range n {
			m.Data[k*n+k] += 20
		}
		b := near(n, seed+1, 0, 1)
		y, rounds, e := refine.Until(m, made(t, m), make([]complex128, n), b, 1)
		rest, f := refine.Left(m, y, b)
		if e != api.OK || f != api.OK || rounds != 1 || norm(rest) > 1e-13*norm(b) {
			t.Errorf("%d rounds, %d, %d, %v is left of %v", rounds, int(e), int(f), norm(rest), norm(b))
		}
	}
}

// P11.4: where nothing is left, Once changes no number, and there is no round.
func TestNothingLeft(t *testing.T) {
	seen := 0
	check := func(m api.Matrix, l *lower.Lower, x, b []complex128) {
		t.Helper()
		rest, e := refine.Left(m, x, b)
		if e != api.OK || !slices.Equal(rest, make([]complex128, m.Rows)) {
			return
		}
		seen++
		if y, e := refine.Once(m, l, x, b); e != api.OK || !slices.Equal(y, x) {
			t.Errorf("Once of %s, x %s, b %s: %s, %d", show(m), list(x), list(b), list(y), int(e))
		}
		untilTells(t, m, l, x, b, ever, x, 0, api.OK)
	}
	for i := range 200 {
		n, seed := 1+i%6, uint64(i+1)
		m, x := square(n, whole(n*n, seed, 18)...), whole(n, seed+1, 18)
		l, f := lower.Of(m)
		if f != (api.Fault{}) {
			continue
		}
		b, e := refine.Left(m, opposites(x), make([]complex128, n))
		if e != api.OK {
			t.Fatal(int(e))
		}
		check(m, l, x, b)
	}
	for _, c := range tasks() {
		check(c.m, c.l, make([]complex128, len(c.x)), make([]complex128, len(c.b)))
		check(c.m, c.l, c.x, c.b)
	}
	if seen < 2000 {
		t.Errorf("%d of them", seen)
	}
}

// P11.4: with all signs of m and of x turned about the same is left.
func TestSignsTurnedAbout(t *testing.T) {
	for _, c := range tasks() {
		want, e := refine.Left(c.m, c.x, c.b)
		leftTells(t, square(c.m.Rows, opposites(c.m.Data)...), opposites(c.x), c.b, want, e)
	}
}

// P3: of the conjugates the conjugates are left, and all rounds are the same.
func TestConjugates(t *testing.T) {
	seen := 0
	for _, c := range tasks() {
		if c.m.Rows > 8 {
			continue
		}
		m, x, b := square(c.m.Rows, conjugates(c.m.Data)...), conjugates(c.x), conjugates(c.b)
		rest, e := refine.Left(c.m, c.x, c.b)
		other, f := refine.Left(m, x, b)
		if e != f || !slices.Equal(conjugates(rest), other) {
			t.Errorf("Left of the conjugates: %s, %d, want those of %s, %d", list(other), int(f), list(rest), int(e))
		}
		l, fault := lower.Of(m)
		own, g := lower.Of(c.m)
		if fault != (api.Fault{}) || g != fault {
			continue
		}
		y, n, e := refine.Until(c.m, own, c.x, c.b, 4)
		z, k, f := refine.Until(m, l, x, b, 4)
		if e != f || n != k || !slices.Equal(conjugates(y), z) {
			t.Errorf("Until of the conjugates: %s, %d rounds, %d, want those of %s, %d rounds, %d", list(z), k, int(f), list(y), n, int(e))
		}
		if n > 0 {
			seen++
		}
	}
	if seen < 1000 {
		t.Errorf("%d with rounds", seen)
	}
}

// P3: with x and b times a power of two so many times as much is left, far from the reals' ends.
func TestPowersOfTwo(t *testing.T) {
	for i := range 60 {
		n, seed := 1+i%8, uint64(i+1)
		m, b := square(n, near(n*n, seed, -4, 4)...), near(n, seed+1, -4, 4)
		l := made(t, m)
		for _, x := range solutions(l, b, seed)[3:] {
			if norm(x) > 0x1p60 {
				continue
			}
			for _, power := range []int{-300, -53, -1, 1, 60, 300} {
				rest, e := refine.Left(m, x, b)
				leftTells(t, m, scaled(x, power), scaled(b, power), scaled(rest, power), e)
				y, rounds, e := refine.Until(m, l, x, b, 3)
				untilTells(t, m, l, scaled(x, power), scaled(b, power), 3, scaled(y, power), rounds, e)
			}
		}
	}
}

// What stands behind a list, in its spare room, is none of its numbers; a piece of a longer list is as good as a list.
func TestSpareRoomIsNotLookedAt(t *testing.T) {
	long := []complex128{complex(inf, 0), 9, complex(nan, nan), 2, complex(inf, 0), 3, complex(nan, 0)}
	m, x, b := square(1, long[5:6]...), long[3:4], long[1:2]
	l := made(t, m)
	leftTells(t, m, x, b, []complex128{3}, api.OK)
	onceTells(t, m, l, x, b, []complex128{3}, api.OK)
	untilTells(t, m, l, x, b, 5, []complex128{3}, 1, api.OK)
	allRefuse(t, square(2, long[5:6]...), made(t, identity(2)), long[3:4], long[1:2], api.ErrShape)
}

// kept is what a Lower tells.
type kept struct {
	order []int
	sign  int
	l, u  api.Matrix
}

func keptBy(l *lower.Lower) kept {
	return kept{l.Order(), l.Sign(), l.L(), l.U()}
}

func alikeKept(a, b kept) bool {
	return slices.Equal(a.order, b.order) && a.sign == b.sign && alikeMatrices(a.l, b.l) && alikeMatrices(a.u, b.u)
}

// within lays a list between other numbers, so that a change around it is seen.
func within(l []complex128) ([]complex128, []complex128) {
	all := slices.Concat([]complex128{7, complex(8, nan)}, l, []complex128{9, complex(inf, minus0), 10})
	return all, all[2 : 2+len(l)]
}

// Rule 3: what is handed in stays as it was, what stands ahead of it and in its spare room too; the Lower too.
func TestWhatIsHandedInIsNotChanged(t *testing.T) {
	for _, c := range tasks() {
		if c.m.Rows > 8 {
			continue
		}
		before := keptBy(c.l)
		allM, data := within(c.m.Data)
		allX, x := within(c.x)
		allB, b := within(c.b)
		was := [][]complex128{slices.Clone(allM), slices.Clone(allX), slices.Clone(allB)}
		m := square(c.m.Rows, data...)
		refine.Left(m, x, b)
		refine.Once(m, c.l, x, b)
		refine.Until(m, c.l, x, b, 0)
		refine.Until(m, c.l, x, b, 5)
		for k, l := range [][]complex128{allM, allX, allB} {
			if !alikeLists(l, was[k]) {
				t.Errorf("what was handed in is %s, was %s", list(l), list(was[k]))
			}
		}
		if !alikeKept(keptBy(c.l), before) {
			t.Errorf("the Lower of %s was changed", show(c.m))
		}
	}
}

// fill puts other numbers into a list and its spare room.
func fill(l []complex128) {
	l = l[:cap(l)]
	for i := range l {
		l[i] = complex(nan, 77)
	}
}

// Rule 3: each answer is new memory, its spare room too: not what was handed in, not the Lower's, not another answer's.
func TestWhatIsHandedBackIsNew(t *testing.T) {
	for _, c := range tasks() {
		if c.m.Rows > 8 {
			continue
		}
		before := keptBy(c.l)
		m, x, b := square(c.m.Rows, slices.Clone(c.m.Data)...), slices.Clone(c.x), slices.Clone(c.b)
		for _, ask := range []func() []complex128{
			func() []complex128 { y, _ := refine.Left(m, x, b); return y },
			func() []complex128 { y, _ := refine.Once(m, c.l, x, b); return y },
			func() []complex128 { y, _, _ := refine.Until(m, c.l, x, b, 0); return y },
			func() []complex128 { y, _, _ := refine.Until(m, c.l, x, b, 1); return y },
			func() []complex128 { y, _, _ := refine.Until(m, c.l, x, b, 9); return y },
		} {
			first, second := ask(), ask()
			want := slices.Clone(first)
			fill(first)
			if !alikeLists(second, want) || !alikeLists(ask(), want) || !alikeLists(m.Data, c.m.Data) || !alikeLists(x, c.x) || !alikeLists(b, c.b) {
				t.Errorf("an answer to %s, %s, %s shares memory", show(c.m), list(c.x), list(c.b))
			}
			// Nor is what was handed in looked at later.
			fill(m.Data)
			fill(x)
			fill(b)
			if !alikeLists(second, want) {
				t.Errorf("an answer to %s, %s, %s is their memory", show(c.m), list(c.x), list(c.b))
			}
			copy(m.Data, c.m.Data)
			copy(x, c.x)
			copy(b, c.b)
		}
		if !alikeKept(keptBy(c.l), before) {
			t.Errorf("an answer is the memory of the Lower of %s", show(c.m))
		}
	}
}

// One list may be handed in as all three.
func TestOneListForAll(t *testing.T) {
	for _, z := range near(30, 6, -1, 1) {
		l := []complex128{z}
		m := square(1, l...)
		lo := made(t, m)
		want, e := left(m, []complex128{z}, []complex128{z})
		leftTells(t, m, l, l, want, e)
		want, e = once(m, lo, []complex128{z}, []complex128{z})
		onceTells(t, m, lo, l, l, want, e)
		want, rounds, e := until(m, lo, []complex128{z}, []complex128{z}, 7)
		untilTells(t, m, lo, l, l, 7, want, rounds, e)
	}
}

// P1: what is told depends on what is handed in alone, and nothing panics.
func TestCalm(t *testing.T) {
	strange := slices.Concat(unfinite(), noughts(), units(), []complex128{least, greatest, complex(-greatest, greatest), complex(0, top)})
	pick := func(n int, seed uint64) []complex128 {
		var all []complex128
		for _, bits := range scatter(n, seed) {
			all = append(all, strange[int(bits>>33)%len(strange)])
		}
		return all
	}
	lowers := []*lower.Lower{nil, {}}
	for n := range 4 {
		lowers = append(lowers, made(t, identity(n)), made(t, diagonal(same(n, least)...)))
	}
	for i := range 3000 {
		n, seed := i%4, uint64(i+1)
		m := api.Matrix{Rows: n, Cols: n, Data: pick(n*n, seed)}
		if i%5 == 0 {
			m.Rows = i%9 - 4
		}
		x, b, l, most := pick(n, seed+1), pick(n, seed+2), lowers[i%len(lowers)], i%70-2
		rest, e := refine.Left(m, x, b)
		leftTells(t, m, x, b, rest, e)
		y, e := refine.Once(m, l, x, b)
		onceTells(t, m, l, x, b, y, e)
		y, rounds, e := refine.Until(m, l, x, b, most)
		untilTells(t, m, l, x, b, most, y, rounds, e)
	}
}
