package lower_test

import (
	"fmt"
	"math"
	"slices"
	"testing"

	"gridwork/api"
	"gridwork/lower"
)

const (
	least    = 0x1p-1074
	greatest = math.MaxFloat64
	most     = 64 // rows of a matrix
)

var (
	inf     = math.Inf(1)
	nan     = math.NaN()
	minus0  = math.Copysign(0, -1)
	loudNaN = math.Float64frombits(0xfff0000000000001)
)

// The operations, each in a function of its own that is laid into none: nothing can be joined there. What a call tells is held against them.

//go:noinline
func plus(a, b float64) float64 { return a + b }

//go:noinline
func less(a, b float64) float64 { return a - b }

//go:noinline
func times(a, b float64) float64 { return a * b }

//go:noinline
func over(a, b float64) float64 { return a / b }

func difference(a, b complex128) complex128 {
	return complex(less(real(a), real(b)), less(imag(a), imag(b)))
}

func product(a, b complex128) complex128 {
	p, q, c, d := real(a), imag(a), real(b), imag(b)
	return complex(less(times(p, c), times(q, d)), plus(times(p, d), times(q, c)))
}

func quotient(a, b complex128) complex128 {
	p, q, c, d := real(a), imag(a), real(b), imag(b)
	if math.Abs(c) >= math.Abs(d) {
		r := over(d, c)
		t := plus(c, times(d, r))
		return complex(over(plus(p, times(q, r)), t), over(less(q, times(p, r)), t))
	}
	r := over(c, d)
	t := plus(times(c, r), d)
	return complex(over(plus(times(p, r), q), t), over(less(times(q, r), p), t))
}

func size1(z complex128) float64 {
	return plus(math.Abs(real(z)), math.Abs(imag(z)))
}

func conjugate(z complex128) complex128 {
	return complex(real(z), math.Float64frombits(math.Float64bits(imag(z))^1<<63))
}

func finite(z complex128) bool {
	real1 := func(x float64) bool { return !math.IsNaN(x) && !math.IsInf(x, 0) }
	return real1(real(z)) && real1(imag(z))
}

// alikeLists holds lists against each other by their bits, NaN's too: so a change is seen.
func alikeLists(a, b []complex128) bool {
	return slices.EqualFunc(a, b, func(x, y complex128) bool {
		return math.Float64bits(real(x)) == math.Float64bits(real(y)) && math.Float64bits(imag(x)) == math.Float64bits(imag(y))
	})
}

func alikeMatrices(a, b api.Matrix) bool {
	return a.Rows == b.Rows && a.Cols == b.Cols && alikeLists(a.Data, b.Data)
}

// square is a matrix of n rows and columns of the numbers that are told, row by row.
func square(n int, l ...complex128) api.Matrix {
	return api.Matrix{Rows: n, Cols: n, Data: l}
}

// identity has ones from corner to corner.
func identity(n int) api.Matrix {
	m := square(n, make([]complex128, n*n)...)
	for i := range n {
		m.Data[i*n+i] = 1
	}
	return m
}

// show tells a matrix, or of a great one the shape alone.
func show(m api.Matrix) string {
	if len(m.Data) > 25 {
		return fmt.Sprintf("%d by %d, %d numbers", m.Rows, m.Cols, len(m.Data))
	}
	return fmt.Sprintf("%d by %d, %v", m.Rows, m.Cols, m.Data)
}

// told is all that is told of a matrix that is eliminated.
type told struct {
	fault  api.Fault
	size   int
	order  []int
	sign   int
	l, u   api.Matrix
	pivots []complex128
}

func alikeTold(a, b told) bool {
	return a.fault == b.fault && a.size == b.size && slices.Equal(a.order, b.order) && a.sign == b.sign &&
		alikeMatrices(a.l, b.l) && alikeMatrices(a.u, b.u) && alikeLists(a.pivots, b.pivots)
}

func (a told) String() string {
	return fmt.Sprintf("{%d, %d}, size %d, order %v, sign %d, L %s, U %s", int(a.fault.Err), a.fault.At, a.size, a.order, a.sign, show(a.l), show(a.u))
}

// asked asks a Lower for all that it tells.
func asked(l *lower.Lower) told {
	return told{size: l.Size(), order: l.Order(), sign: l.Sign(), l: l.L(), u: l.U(), pivots: l.Pivots()}
}

// answered is all that Of and a Lower's methods tell.
func answered(m api.Matrix) told {
	l, fault := lower.Of(m)
	all := asked(l)
	all.fault = fault
	return all
}

// made eliminates a matrix that is to have no fault.
func made(t *testing.T, m api.Matrix) *lower.Lower {
	t.Helper()
	l, f := lower.Of(m)
	if l == nil || f != (api.Fault{}) {
		t.Fatalf("Of %s: {%d, %d}", show(m), int(f.Err), f.At)
	}
	return l
}

// refused sees that a matrix is refused so, and that there is no Lower then.
func refused(t *testing.T, m api.Matrix, e api.Errno, at int) {
	t.Helper()
	if l, f := lower.Of(m); l != nil || f.Err != e || f.At != at {
		t.Errorf("Of %s: a Lower %t, {%d, %d}, want {%d, %d}", show(m), l != nil, int(f.Err), f.At, int(e), at)
	}
}

// tells sees that a matrix is eliminated so, to the bit.
func tells(t *testing.T, m api.Matrix, order []int, sign int, l, u []complex128) {
	t.Helper()
	n := m.Rows
	want := told{size: n, order: order, sign: sign, l: square(n, l...), u: square(n, u...)}
	for i := range n {
		want.pivots = append(want.pivots, u[i*n+i])
	}
	if got := answered(m); !alikeTold(got, want) {
		t.Errorf("Of %s:\n%v, want\n%v", show(m), got, want)
	}
}

// rising is the order 0, 1, 2 and so on.
func rising(n int) []int {
	l := make([]int, n)
	for i := range l {
		l[i] = i
	}
	return l
}

// worked is what the chapter says of a square matrix of at most 64 rows, in one list and number by number; and whether two numbers that were held against each other had one Size1.
func worked(m api.Matrix) (told, bool) {
	if p := slices.IndexFunc(m.Data, func(z complex128) bool { return !finite(z) }); p >= 0 {
		return told{fault: api.Fault{Err: api.ErrNumber, At: p}}, false
	}
	n, a, tie := m.Rows, slices.Clone(m.Data), false
	all := told{size: n, order: rising(n), sign: 1}
	for k := range n {
		best, weight, seen := k, 0.0, map[float64]int{}
		for i := k; i < n; i++ {
			w := size1(a[i*n+k])
			if w > weight {
				best, weight = i, w
			}
			tie = tie || seen[w] > 0
			seen[w]++
		}
		if weight == 0 {
			return told{fault: api.Fault{Err: api.ErrSingular, At: k}}, tie
		}
		if best != k {
			for j := range n {
				a[k*n+j], a[best*n+j] = a[best*n+j], a[k*n+j]
			}
			all.order[k], all.order[best] = all.order[best], all.order[k]
			all.sign = -all.sign
		}
		for i := k + 1; i < n; i++ {
			f := quotient(a[i*n+k], a[k*n+k])
			for j := k + 1; j < n; j++ {
				a[i*n+j] = difference(a[i*n+j], product(f, a[k*n+j]))
			}
			a[i*n+k] = f
		}
		if !slices.EqualFunc(a, a, func(z, _ complex128) bool { return finite(z) }) {
			return told{fault: api.Fault{Err: api.ErrOver, At: k}}, tie
		}
	}
	return parted(all, a), tie
}

// parted takes L, U and the pivots out of the list in which they stand together.
func parted(all told, a []complex128) told {
	n := all.size
	all.l, all.u = identity(n), square(n, make([]complex128, n*n)...)
	for i := range n {
		copy(all.l.Data[i*n:], a[i*n:i*n+i])
		copy(all.u.Data[i*n+i:], a[i*n+i:i*n+n])
		all.pivots = append(all.pivots, a[i*n+i])
	}
	return all
}

// scatter gives whole numbers of 64 bits, always the same ones.
func scatter(n int, seed uint64) []uint64 {
	var all []uint64
	for range n {
		seed ^= seed << 13
		seed ^= seed >> 7
		seed ^= seed << 17
		all = append(all, seed)
	}
	return all
}

// near gives finite numbers whose parts' powers of two lie from low to high, always the same ones.
func near(n int, seed uint64, low, high int) []complex128 {
	part := func(bits uint64) float64 {
		power := low + int(bits>>52&0x7ff)%(high-low+1)
		x := math.Ldexp(1+float64(bits&(1<<52-1))*0x1p-52, power)
		if bits>>63 != 0 {
			return -x
		}
		return x
	}
	var all []complex128
	bits := scatter(2*n, seed)
	for i := range n {
		all = append(all, complex(part(bits[2*i]), part(bits[2*i+1])))
	}
	return all
}

// few gives numbers whose parts are whole and small, so that many sizes are equal and some numbers are 0, of either sign.
func few(n int, seed uint64) []complex128 {
	var all []complex128
	for _, bits := range scatter(n, seed) {
		re, im := float64(bits>>20%4), float64(bits>>40%3)
		all = append(all, complex(math.Copysign(re, float64(bits>>50&1)-0.5), math.Copysign(im, float64(bits>>51&1)-0.5)))
	}
	return all
}

// noughts are the numbers that are equal to 0.
func noughts() []complex128 {
	return []complex128{0, complex(minus0, 0), complex(0, minus0), complex(minus0, minus0)}
}

// unfinite are numbers that are not finite, by either part or both.
func unfinite() []complex128 {
	var all []complex128
	for _, x := range []float64{nan, loudNaN, inf, -inf} {
		all = append(all, complex(x, 0), complex(0, x), complex(x, 1), complex(-1, x), complex(x, x), complex(x, inf), complex(nan, x))
	}
	return all
}

// units are the numbers whose products and quotients are exact.
func units() []complex128 {
	return []complex128{1, -1, complex(0, 1), complex(0, -1)}
}

// matrices are square ones that may be: without rows, of one number, with numbers near each other, few ones, great and small ones, and of 64 rows.
func matrices() []api.Matrix {
	all := []api.Matrix{{}, {Data: []complex128{}}, square(2, noughts()...), square(2, units()...), square(most, make([]complex128, most*most)...), identity(most)}
	for _, z := range slices.Concat(noughts(), units(), unfinite(), []complex128{least, complex(0, -least), complex(greatest, greatest)}) {
		all = append(all, square(1, z))
	}
	for i := range 60 {
		seed, n := uint64(i+1), 2+i%8
		for _, l := range [][]complex128{
			few(n*n, seed), near(n*n, seed, 0, 0), near(n*n, seed, -2, 2), near(n*n, seed, -30, 30), near(n*n, seed, -500, 500),
			near(n*n, seed, -1074, -1070), near(n*n, seed, -1074, 1020), near(n*n, seed, 1019, 1021), near(n*n, seed, 1020, 1022), near(n*n, seed, 1022, 1023),
		} {
			all = append(all, square(n, l...))
		}
	}
	for i := range 20 {
		// Nothing stands left of the diagonal, and in one place on it: rows in another order are brought back, till that place.
		n := 2 + i%6
		upper, m := square(n, near(n*n, uint64(i+1), -1, 1)...), square(n)
		for p := range n * n {
			if p%n < p/n || p/n == p%n && p/n == i%n {
				upper.Data[p] = noughts()[p%4]
			}
		}
		for _, row := range mixed(n, uint64(i+1)) {
			m.Data = append(m.Data, upper.Data[row*n:row*n+n]...)
		}
		all = append(all, upper, m)
	}
	for i := range 6 {
		seed, n := uint64(i+1), most-i/2
		all = append(all, square(n, few(n*n, seed)...), square(n, near(n*n, seed, -1, 1)...), square(n, near(n*n, seed, -40, 40)...))
	}
	return all
}

// The chapter's examples.
func TestExamples(t *testing.T) {
	i, third := complex(0, 1), complex(1.0/3, 0)
	rest := complex(less(2, times(1.0/3, 4)), 0)
	tells(t, square(2, 1, 2, 3, 4), []int{1, 0}, -1, []complex128{1, 0, third, 1}, []complex128{3, 4, 0, rest})
	l := made(t, square(2, i, 1, 1, 0))
	if !slices.Equal(l.Order(), []int{0, 1}) || l.Sign() != 1 || !slices.Equal(l.U().Data, []complex128{i, 1, 0, i}) {
		t.Errorf("Of (0, 1) 1 / 1 0: %v", asked(l))
	}
	refused(t, square(2, 0, 1, 0, 2), api.ErrSingular, 0)
	refused(t, square(2, 1, 2, 2, 4), api.ErrSingular, 1)
	refused(t, api.Matrix{Rows: 1, Cols: 3, Data: []complex128{1, 2, 3}}, api.ErrShape, -1)
	refused(t, square(1, complex(nan, 0)), api.ErrNumber, 0)
	l = made(t, square(2, 0x1p-600, 0x1p1000, 0x1p-600, -0x1p1000))
	if !slices.Equal(l.L().Data, []complex128{1, 0, 1, 1}) || !slices.Equal(l.U().Data, []complex128{0x1p-600, 0x1p1000, 0, -0x1p1001}) {
		t.Errorf("Of 2^-600 2^1000 / 2^-600 -2^1000: %v", asked(l))
	}
	refused(t, square(2, 1, 0x1p1023, -1, 0x1p1023), api.ErrOver, 0)
	l = made(t, api.Matrix{})
	if l.Size() != 0 || len(l.Order()) != 0 || l.Sign() != 1 {
		t.Errorf("Of no rows: %v", asked(l))
	}
}

func TestNumbersOfErrors(t *testing.T) {
	for i, c := range []struct {
		m  api.Matrix
		at int
	}{4: {square(1), -1}, 5: {square(1, complex(inf, 0)), 0}, 6: {square(2, 1, 0x1p1023, -1, 0x1p1023), 0}, 7: {square(1, 0), 0}} {
		if i >= 4 {
			refused(t, c.m, api.Errno(i), c.at)
		}
	}
}

// P9.1: a matrix that may not be, or is not square, whatever its numbers are.
func TestShapesThatMayNotBe(t *testing.T) {
	numbers := near(70*70, 47, -1, 1)
	numbers[0] = complex(nan, inf) // the shape is told ahead of it
	all := []api.Matrix{
		{Rows: 2, Cols: 2}, {Rows: 2, Cols: 2, Data: []complex128{}}, {Rows: 2, Cols: 2, Data: numbers[:3:4]}, {Rows: 2, Cols: 2, Data: numbers[1:6]}, {Rows: 2, Cols: 2, Data: make([]complex128, 3)}, {Rows: 2, Cols: 2, Data: make([]complex128, 5)},
		{Rows: 1, Cols: 1}, {Rows: 1, Cols: 1, Data: numbers[:2]}, {Data: numbers[:1]}, {Data: numbers[1:2]},
		{Rows: most, Cols: most}, {Rows: most, Cols: most, Data: numbers[:most*most-1]}, {Rows: most, Cols: most, Data: numbers[1 : most*most+2]},
		{Rows: most + 1, Cols: most + 1}, {Rows: most + 1, Cols: most + 1, Data: numbers[1 : (most+1)*(most+1)+1]}, identity(most + 1), identity(70),
		{Rows: -1, Cols: -1}, {Rows: -1, Cols: -1, Data: numbers[1:2]}, {Rows: -2, Cols: -2, Data: numbers[1:5]}, {Rows: -1}, {Cols: -1}, {Rows: 1, Cols: -1}, {Rows: -1, Cols: 1},
		{Rows: math.MinInt, Cols: math.MinInt}, {Rows: math.MaxInt, Cols: math.MaxInt}, {Rows: math.MaxInt, Cols: math.MaxInt, Data: numbers[1:2]}, {Rows: math.MinInt}, {Cols: math.MaxInt},
		{Rows: 1 << 31, Cols: 1 << 31}, {Rows: math.MaxInt/2 + 1, Cols: math.MaxInt/2 + 1},
	}
	for _, m := range all {
		refused(t, m, api.ErrShape, -1)
	}
}

func TestEveryShape(t *testing.T) {
	numbers := near(66*66, 48, -1, 1)
	for rows := -1; rows <= 66; rows++ {
		for cols := -1; cols <= 66; cols++ {
			n := max(rows*cols, 0)
			m := api.Matrix{Rows: rows, Cols: cols, Data: slices.Clone(numbers[:n])}
			if rows == cols && rows >= 0 && rows <= most {
				if l := made(t, m); l.Size() != rows {
					t.Errorf("%d rows: size %d", rows, l.Size())
				}
				continue
			}
			refused(t, m, api.ErrShape, -1)
			if n > 0 {
				m.Data[n-1] = complex(nan, 0)
				refused(t, m, api.ErrShape, -1)
			}
		}
	}
}

// P9.1: the first place in Data that has a number that is not finite, ahead of all that is told of columns.
func TestNotFinite(t *testing.T) {
	for _, n := range []int{1, 2, 3, 5} {
		grounds := [][]complex128{near(n*n, 3, -1, 1), make([]complex128, n*n), near(n*n, 4, 1022, 1023)} // the second is singular, the third one mostly over
		for _, ground := range grounds {
			for p := range n * n {
				for i, z := range unfinite() {
					l := slices.Clone(ground)
					l[p] = z
					refused(t, square(n, l...), api.ErrNumber, p)
					later := p + i%(n*n-p)
					l[later], l[n*n-1] = z, z
					refused(t, square(n, l...), api.ErrNumber, p)
				}
			}
		}
	}
	l := make([]complex128, most*most)
	l[most*most-1] = complex(0, -inf)
	refused(t, square(most, l...), api.ErrNumber, most*most-1)
}

// What stands behind Data, in its spare room, is no number of the matrix.
func TestSpareRoomIsNotLookedAt(t *testing.T) {
	l := []complex128{1, 2, 3, 4, complex(nan, nan), complex(inf, 0)}
	want := answered(square(2, 1, 2, 3, 4))
	if got := answered(square(2, l[:4]...)); want.fault != (api.Fault{}) || !alikeTold(got, want) {
		t.Errorf("%v, want %v", got, want)
	}
}

// P9.1: a column whose numbers from the row k on are noughts, whatever their signs and whatever stands above.
func TestSingular(t *testing.T) {
	for n := 1; n <= 6; n++ {
		for k := range n {
			for turn, z := range noughts() {
				m := identity(n)
				for i := range k {
					m.Data[i*n+k] = complex(float64(i+2), 1)
				}
				for i := k; i < n; i++ {
					m.Data[i*n+k] = noughts()[(i+turn)%4]
				}
				refused(t, m, api.ErrSingular, k)
				for i := k; i < n; i++ {
					m.Data[i*n+k] = z
				}
				refused(t, m, api.ErrSingular, k)
			}
		}
		refused(t, square(n, make([]complex128, n*n)...), api.ErrSingular, 0)
	}
	last := identity(most)
	last.Data[most*most-1] = complex(minus0, minus0)
	refused(t, last, api.ErrSingular, most-1)
	refused(t, square(most, make([]complex128, most*most)...), api.ErrSingular, 0)
	refused(t, square(3, 1, 2, 3, 2, 4, 7, 3, 6, 8), api.ErrSingular, 1)
	refused(t, square(3, 4, 0, 8, 2, 2, 2, 0, -2, 2), api.ErrSingular, 2)
}

// The least number, in whichever part and row, is no nought.
func TestOneNumberIsEnough(t *testing.T) {
	for _, z := range []complex128{least, -least, complex(0, least), complex(minus0, -least), complex(greatest, greatest)} {
		for n := 1; n <= 4; n++ {
			for p := range n {
				// Row p has z in the first column and nothing else; each other row has 1 in a column of its own.
				m, next := square(n, make([]complex128, n*n)...), 1
				for i := range n {
					if i == p {
						m.Data[i*n] = z
						continue
					}
					m.Data[i*n+next] = 1
					next++
				}
				if l := made(t, m); l.Order()[0] != p || l.Pivots()[0] != z {
					t.Errorf("Of %s: %v", show(m), asked(l))
				}
			}
		}
	}
}

// P9.1: a number behind its difference that is not finite, wherever it stands: told with the column that was worked.
func TestOverAtEveryPlace(t *testing.T) {
	for n := 2; n <= 6; n++ {
		for k := range n {
			for i := k + 1; i < n; i++ {
				for j := k + 1; j < n; j++ {
					for _, turn := range units() {
						m := identity(n)
						m.Data[i*n+k], m.Data[k*n+j], m.Data[i*n+j] = -1, 0x1p1023*turn, 0x1p1023*turn
						refused(t, m, api.ErrOver, k)
						m.Data[i*n+k] = 1 // then just nothing is left there
						if i == j {
							refused(t, m, api.ErrSingular, i)
							continue
						}
						if l := made(t, m); l.U().Data[i*n+j] != 0 {
							t.Errorf("Of %s: %v", show(m), asked(l))
						}
					}
				}
			}
		}
	}
	m := identity(most)
	m.Data[most*most-1], m.Data[most*most-2], m.Data[most*(most-1)-1] = 0x1p1023, -1, 0x1p1023
	refused(t, m, api.ErrOver, most-2)
}

// What a quotient reckons inside may be too great: then the factor is no number, though both it was made of are.
func TestFactorThatIsNotFinite(t *testing.T) {
	z := complex(1e308, 1e308)
	if f := quotient(z, z); finite(f) {
		t.Fatalf("the factor is %v", f)
	}
	refused(t, square(2, z, 0, z, 0), api.ErrOver, 0)
	refused(t, square(2, z, 0, z, 1), api.ErrOver, 0)
	refused(t, square(3, 1, 0, 0, 0, z, 0, 0, z, 1), api.ErrOver, 1)
	refused(t, square(3, z, 0, 0, 0, 1, 0, z, 0, 1), api.ErrOver, 0)
	// A product may be so inside, too.
	refused(t, square(2, complex(1, 1), complex(0x1p1023, 0x1p1023), 2, 0), api.ErrOver, 0)
	made(t, square(2, complex(1, 1), complex(0x1p1022, 0x1p1022), 2, 0))
}

// Where sizes leave the reals' range they are one, +Inf: the first is taken, though another one has greater parts.
func TestSizesBeyondTheReals(t *testing.T) {
	a, b := complex(1.7e308, 1e308), complex(1e308, 1e308)
	tells(t, square(2, a, 1, b, 1), []int{0, 1}, 1, []complex128{1, 0, 0, 1}, []complex128{a, 1, 0, 1}) // the quotient's divisor is +Inf
	refused(t, square(2, b, 1, a, 1), api.ErrOver, 0)
	tells(t, square(2, complex(0, greatest), 1, b, 1), []int{1, 0}, -1,
		[]complex128{1, 0, quotient(complex(0, greatest), b), 1}, []complex128{b, 1, 0, difference(1, quotient(complex(0, greatest), b))})
}

// P9.1: columns are worked one by one, and of one column the nought is told ahead of what is over.
func TestFirstFault(t *testing.T) {
	const top = 0x1p1023
	refused(t, square(3, 1, top, 0, -1, top, 0, 0, 0, 0), api.ErrOver, 0)     // the column 2 has noughts alone
	refused(t, square(3, 0, 1, top, 0, -1, top, 0, 0, 1), api.ErrSingular, 0) // the column 1 would be over
	refused(t, square(4, 1, 0, 0, 0, 0, 0, 1, top, 0, 0, -1, top, 0, 0, 0, 1), api.ErrSingular, 1)
	refused(t, square(4, 1, 0, 0, 0, 0, 1, 0, top, 0, -1, 0, top, 0, 0, 0, 1), api.ErrOver, 1)
	// Both columns 0 and 1 are over.
	refused(t, square(3, 1, 0, top, 0, 1, top, -1, -1, top), api.ErrOver, 0)
	// In the last column there is no row that could be over.
	refused(t, square(2, 1, top, 1, top), api.ErrSingular, 1)
	made(t, square(2, 1, top, 1, -0x1.fp1022))
}

// P9.1 to P9.3, to the bit.
func TestAsTheChapterSays(t *testing.T) {
	kinds := map[api.Errno]int{}
	for _, m := range matrices() {
		want, _ := worked(m)
		kinds[want.fault.Err]++
		if got := answered(m); !alikeTold(got, want) {
			t.Errorf("Of %s:\n%v, want\n%v", show(m), got, want)
		}
	}
	for _, e := range []api.Errno{api.OK, api.ErrNumber, api.ErrOver, api.ErrSingular} {
		if kinds[e] < 10 {
			t.Errorf("%d matrices with the error %d", kinds[e], int(e))
		}
	}
}

// All matrices of two rows whose numbers are some at which something begins or ends.
func TestAllOfTwoRows(t *testing.T) {
	some := append(noughts(), 1, -1, complex(0, 1), complex(1, -2), 3, least, complex(-least, 0x1p-1022), 0x1p1023, complex(-greatest, 0x1p1000), complex(greatest, greatest), complex(1, 0x1p-30))
	for _, a := range some {
		for _, b := range some {
			for _, c := range some {
				for _, d := range some {
					m := square(2, a, b, c, d)
					want, _ := worked(m)
					if got := answered(m); !alikeTold(got, want) {
						t.Fatalf("Of %s:\n%v, want\n%v", show(m), got, want)
					}
				}
			}
		}
	}
}

// The pivot is the greatest by the sum of its parts' sizes, and not by its absolute value or by one part.
func TestPivotBySize1(t *testing.T) {
	for _, c := range []struct {
		col  []complex128
		want int
	}{
		{[]complex128{5, complex(3, 3)}, 1}, {[]complex128{complex(3, 3), 5}, 0}, {[]complex128{4, complex(-1, 4)}, 1}, {[]complex128{1, complex(0, -2)}, 1},
		{[]complex128{-7, 6, 5}, 0}, {[]complex128{6, 5, -7}, 2}, {[]complex128{6, complex(-4, -4), -7}, 1}, {[]complex128{1, 1 + 0x1p-52}, 1},
		{[]complex128{complex(1, -1), 2, complex(0, -2), -2}, 0}, {[]complex128{1, complex(2, 1), 3, complex(1, -2)}, 1}, {[]complex128{0, complex(minus0, 0), least}, 2},
	} {
		n := len(c.col)
		m := square(n, near(n*n, 9, -1, 1)...)
		for i, z := range c.col {
			m.Data[i*n] = z
		}
		l := made(t, m)
		if l.Order()[0] != c.want || l.Pivots()[0] != c.col[c.want] {
			t.Errorf("Of the column %v: %v", c.col, asked(l))
		}
	}
}

// In every column of equal sizes the first is taken: no row changes its place.
func TestEqualSizesTakeTheFirst(t *testing.T) {
	for _, n := range []int{2, 3, 4, 8, most} {
		m := identity(n)
		for i := range n {
			for j := range i {
				m.Data[i*n+j] = units()[(i+j)%4] * units()[(i*j+j)%4]
			}
		}
		l := made(t, m)
		if !slices.Equal(l.Order(), rising(n)) || l.Sign() != 1 || !slices.Equal(l.L().Data, m.Data) || !slices.Equal(l.U().Data, identity(n).Data) {
			t.Errorf("%d rows: order %v, sign %d", n, l.Order(), l.Sign())
		}
	}
}

// A row changes its place whole: with the factors that stand in earlier columns.
func TestRowsChangePlacesWhole(t *testing.T) {
	// The column 0 leaves 1/2 and 1/4 behind, and 1 and 3 in the column 1: there the rows change.
	tells(t, square(3, 4, 4, 4, 2, 3, 7, 1, 4, 2), []int{0, 2, 1}, -1,
		[]complex128{1, 0, 0, 0.25, 1, 0, 0.5, 1.0 / 3, 1},
		[]complex128{4, 4, 4, 0, 3, 1, 0, 0, difference(5, product(1.0/3, 1))})
	// Twice: the rows come from the end to the front, and the factors go with them.
	tells(t, square(3, 1, 4, 2, 2, 3, 7, 4, 4, 4), []int{2, 0, 1}, 1,
		[]complex128{1, 0, 0, 0.25, 1, 0, 0.5, 1.0 / 3, 1},
		[]complex128{4, 4, 4, 0, 3, 1, 0, 0, difference(5, product(1.0/3, 1))})
	// Of three rows the last and the first change about, the one between stays.
	tells(t, square(3, 1, 0, 8, 2, 16, 0, 4, 0, 0), []int{2, 1, 0}, -1,
		[]complex128{1, 0, 0, 0.5, 1, 0, 0.25, 0, 1},
		[]complex128{4, 0, 0, 0, 16, 0, 0, 0, 8})
}

// A factor that is nought is reckoned with: it may turn a nought's sign, and stands with its own.
func TestFactorThatIsNought(t *testing.T) {
	// 0 over 1 is 0; 0 times -1 is -0; -0 less -0 is 0.
	tells(t, square(2, 1, -1, 0, complex(minus0, 5)), []int{0, 1}, 1, []complex128{1, 0, 0, 1}, []complex128{1, -1, 0, complex(0, 5)})
	for _, c := range []struct{ above, below, factor complex128 }{
		{1, complex(minus0, 0), 0}, {1, complex(minus0, minus0), complex(minus0, 0)}, {-1, 0, complex(minus0, minus0)},
		{complex(0, 1), 0, 0}, {complex(0, -2), complex(0, minus0), complex(0, minus0)},
		// These are nought by rounding.
		{0x1p1000, least, 0}, {-0x1p1000, least, complex(minus0, minus0)},
	} {
		tells(t, square(2, c.above, 1, c.below, 7), []int{0, 1}, 1, []complex128{1, 0, c.factor, 1}, []complex128{c.above, 1, 0, 7})
	}
}

// What is told are the operations of the chapter, each rounded by itself: no product is joined to a difference, and a factor is a quotient, not a product with 1 over the pivot.
func TestRoundedOneByOne(t *testing.T) {
	third := over(1, 3)
	tells(t, square(2, 3, 3, 1, 1+0x1p-52), []int{0, 1}, 1, []complex128{1, 0, complex(third, 0), 1}, []complex128{3, 3, 0, 0x1p-52})
	rest := math.FMA(-third, 5, 2)
	if rest == less(2, times(third, 5)) {
		t.Fatal("joined or not, the difference is one")
	}
	tells(t, square(2, 3, 5, 1, 2), []int{0, 1}, 1, []complex128{1, 0, complex(third, 0), 1}, []complex128{3, 5, 0, complex(less(2, times(third, 5)), 0)})
	fifth := over(5, 49)
	if times(5, over(1, 49)) == fifth {
		t.Fatal("by a quotient or a product, the factor is one")
	}
	tells(t, square(2, 49, 1, 5, 0), []int{0, 1}, 1, []complex128{1, 0, complex(fifth, 0), 1}, []complex128{49, 1, 0, complex(-fifth, 0)})
}

// orders of n: all of them.
func orders(n int) [][]int {
	if n == 0 {
		return [][]int{{}}
	}
	var all [][]int
	for _, l := range orders(n - 1) {
		for at := range n {
			all = append(all, slices.Insert(slices.Clone(l), at, n-1))
		}
	}
	return all
}

// mixed gives an order of n, always the same one for a seed.
func mixed(n int, seed uint64) []int {
	l := rising(n)
	for i, bits := range scatter(n, seed) {
		k := int(bits >> 33 % uint64(n))
		l[i], l[k] = l[k], l[i]
	}
	return l
}

// someOrders are all short ones and some longer ones.
func someOrders() [][]int {
	var all [][]int
	for n := range 6 {
		all = append(all, orders(n)...)
	}
	down := rising(most)
	slices.Reverse(down)
	return append(all, mixed(7, 1), mixed(20, 2), down, rising(most), mixed(most, 3), mixed(most, 4), mixed(most-1, 5))
}

// sign counts the pairs that stand the wrong way round.
func sign(order []int) int {
	s := 1
	for i := range order {
		for k := range i {
			if order[k] > order[i] {
				s = -s
			}
		}
	}
	return s
}

// P9.2: rows that stand in any order are brought into theirs, by as many changes as it takes.
func TestOrderAndSign(t *testing.T) {
	signs := map[int]int{}
	for _, order := range someOrders() {
		n := len(order)
		m, u := square(n, make([]complex128, n*n)...), square(n, make([]complex128, n*n)...)
		for k, row := range order {
			m.Data[row*n+k] = complex(float64(k+1), -1)
			u.Data[k*n+k] = complex(float64(k+1), -1)
		}
		l := made(t, m)
		signs[l.Sign()]++
		if !slices.Equal(l.Order(), order) || l.Sign() != sign(order) || l.Size() != n {
			t.Errorf("order %v, sign %d, want %v, %d", l.Order(), l.Sign(), order, sign(order))
		}
		if !slices.Equal(l.L().Data, identity(n).Data) || !slices.Equal(l.U().Data, u.Data) {
			t.Errorf("order %v: %v", order, asked(l))
		}
	}
	if signs[1] < 50 || signs[-1] < 50 || len(signs) != 2 {
		t.Errorf("signs: %v", signs)
	}
}

// P9.3: where L and U have nothing they have (0, 0), and L has (1, 0) from corner to corner, by their bits.
func TestFormOfLAndU(t *testing.T) {
	for _, m := range matrices() {
		l, f := lower.Of(m)
		if f != (api.Fault{}) {
			continue
		}
		n, factors, rest := m.Rows, l.L(), l.U()
		if factors.Rows != n || factors.Cols != n || len(factors.Data) != n*n || rest.Rows != n || rest.Cols != n || len(rest.Data) != n*n || len(l.Pivots()) != n {
			t.Fatalf("of %d rows: L %s, U %s", n, show(factors), show(rest))
		}
		for i := range n {
			ones, above := []complex128{factors.Data[i*n+i]}, factors.Data[i*n+i+1:i*n+n]
			if !alikeLists(ones, []complex128{1}) || !alikeLists(above, make([]complex128, len(above))) {
				t.Errorf("Of %s: L %s", show(m), show(factors))
			}
			if below := rest.Data[i*n : i*n+i]; !alikeLists(below, make([]complex128, i)) {
				t.Errorf("Of %s: U %s", show(m), show(rest))
			}
			if !alikeLists(l.Pivots()[i:i+1], rest.Data[i*n+i:i*n+i+1]) || l.Pivots()[i] == 0 {
				t.Errorf("Of %s: pivots %v", show(m), l.Pivots())
			}
		}
	}
}

// P9.2, P9.3, rule 4: of a Lower that Of did not make.
func TestLowerThatIsNone(t *testing.T) {
	var nothing *lower.Lower
	var zero lower.Lower
	left, _ := lower.Of(square(1, 0))
	for i, l := range []*lower.Lower{nothing, &zero, new(lower.Lower), {}, left} {
		got := asked(l)
		if got.size != 0 || len(got.order) != 0 || got.sign != 0 || len(got.pivots) != 0 {
			t.Errorf("%d: %v", i, got)
		}
		for _, m := range []api.Matrix{got.l, got.u} {
			if m.Rows != 0 || m.Cols != 0 || len(m.Data) != 0 {
				t.Errorf("%d: %s", i, show(m))
			}
		}
	}
}

// P9.3: a matrix without rows may be eliminated.
func TestNoRows(t *testing.T) {
	for _, m := range []api.Matrix{{}, {Data: []complex128{}}, {Data: make([]complex128, 0, 5)}, {Data: near(5, 1, 0, 0)[:0]}} {
		got := asked(made(t, m))
		if got.size != 0 || len(got.order) != 0 || got.sign != 1 || len(got.pivots) != 0 || got.l.Rows != 0 || got.l.Cols != 0 || len(got.l.Data) != 0 || got.u.Rows != 0 || got.u.Cols != 0 || len(got.u.Data) != 0 {
			t.Errorf("%v", got)
		}
	}
}

// P9.4: Order has each row once; no number of the first column is greater than the first pivot.
func TestOrderAndFirstPivot(t *testing.T) {
	for _, m := range matrices() {
		l, f := lower.Of(m)
		if f != (api.Fault{}) {
			continue
		}
		order, n := l.Order(), m.Rows
		if s := l.Sign(); s != sign(order) {
			t.Errorf("order %v: sign %d", order, s)
		}
		slices.Sort(order)
		if !slices.Equal(order, rising(n)) {
			t.Errorf("Of %s: order %v", show(m), l.Order())
		}
		for i := range n {
			if size1(m.Data[i*n]) > size1(l.Pivots()[0]) {
				t.Errorf("Of %s: the first pivot is %v", show(m), l.Pivots()[0])
			}
		}
	}
}

// P9.4: rows in another order, where no two sizes that are held against each other are one.
func TestRowsInAnotherOrder(t *testing.T) {
	seen := 0
	for i, m := range matrices() {
		want, tie := worked(m)
		if tie || want.fault != (api.Fault{}) {
			continue
		}
		n := m.Rows
		down := rising(n)
		slices.Reverse(down)
		for _, order := range [][]int{down, mixed(n, uint64(i+1)), mixed(n, uint64(i+100))} {
			other := square(n)
			for _, row := range order {
				other.Data = append(other.Data, m.Data[row*n:row*n+n]...)
			}
			seen++
			l := made(t, other)
			if !alikeMatrices(l.L(), want.l) || !alikeMatrices(l.U(), want.u) || l.Sign() != want.sign*sign(order) {
				t.Errorf("Of %s in the order %v:\n%v, want\n%v", show(m), order, asked(l), want)
			}
			for k, row := range l.Order() {
				if order[row] != want.order[k] {
					t.Errorf("Of %s in the order %v: order %v, without it %v", show(m), order, l.Order(), want.order)
				}
			}
		}
	}
	if seen < 500 {
		t.Errorf("%d matrices", seen)
	}
}

// P9.4, P3: the conjugates.
func TestConjugates(t *testing.T) {
	for _, m := range matrices() {
		turned := func(m api.Matrix) api.Matrix {
			m.Data = slices.Clone(m.Data)
			for i, z := range m.Data {
				m.Data[i] = conjugate(z)
			}
			return m
		}
		got, want := answered(turned(m)), answered(m)
		l, u := turned(want.l), turned(want.u)
		if got.fault != want.fault || got.size != want.size || got.sign != want.sign || !slices.Equal(got.order, want.order) || !slices.Equal(got.l.Data, l.Data) || !slices.Equal(got.u.Data, u.Data) {
			t.Errorf("Of the conjugate of %s:\n%v, want\n%v", show(m), got, want)
		}
	}
}

// whole takes a number apart, if its parts are whole and their sizes below 2^20.
func whole(z complex128) (re, im int64, ok bool) {
	fits := func(x float64) bool { return x == math.Trunc(x) && math.Abs(x) < 1<<20 }
	return int64(real(z)), int64(imag(z)), fits(real(z)) && fits(imag(z))
}

// allWhole tells whether all numbers of matrices are whole and below 2^20.
func allWhole(all ...api.Matrix) bool {
	for _, m := range all {
		for _, z := range m.Data {
			if _, _, ok := whole(z); !ok {
				return false
			}
		}
	}
	return true
}

// exactly tells the number at (i, j) of L times U, in whole numbers.
func exactly(l, u api.Matrix, i, j int) complex128 {
	var re, im int64
	for k := range l.Cols {
		p, q, _ := whole(l.Data[i*l.Cols+k])
		c, d, _ := whole(u.Data[k*u.Cols+j])
		re, im = re+p*c-q*d, im+p*d+q*c
	}
	return complex(float64(re), float64(im))
}

// wholeMatrices have whole numbers, many of them such that all their pivots are units; their rows stand as they are taken, or in another order.
func wholeMatrices() []api.Matrix {
	all := []api.Matrix{{}, identity(most), square(2, complex(0, 1), 1<<20-1, complex(0, -1), -(1<<20-1)+1)}
	for i := range 400 {
		n, seed := 1+i%9, uint64(i+1)
		if i%100 == 99 {
			n = most
		}
		bits := scatter(2*n*n, seed)
		l, u := identity(n), square(n, make([]complex128, n*n)...)
		span := int64(1) << (1 + i%15)
		for p := range n * n {
			b := bits[p]
			switch row, col := p/n, p%n; {
			case col < row && b>>60&1 == 0:
				l.Data[p] = units()[b>>30&3]
			case col == row:
				u.Data[p] = units()[b>>40&3]
			case col > row:
				u.Data[p] = complex(float64(int64(b>>20&0xffff)%span-span/2), float64(int64(b>>44&0xffff)%span-span/2))
			}
		}
		order := rising(n)
		if i%3 == 2 {
			order = mixed(n, seed)
		}
		m := square(n)
		for _, row := range order {
			for j := range n {
				m.Data = append(m.Data, exactly(l, u, row, j))
			}
		}
		all = append(all, m)
	}
	return all
}

// P9.4: whole numbers and pivots that are units: the rows of L times U are the matrix's, in the order.
func TestWholeNumbers(t *testing.T) {
	seen, changed := 0, 0
	for _, m := range wholeMatrices() {
		l, f := lower.Of(m)
		if f != (api.Fault{}) || !allWhole(m, l.L(), l.U()) || slices.ContainsFunc(l.Pivots(), func(z complex128) bool { return !slices.Contains(units(), z) }) {
			continue
		}
		seen++
		if !slices.Equal(l.Order(), rising(m.Rows)) {
			changed++
		}
		factors, rest, n := l.L(), l.U(), m.Rows
		for i, row := range l.Order() {
			for j := range n {
				if got := exactly(factors, rest, i, j); got != m.Data[row*n+j] {
					t.Fatalf("Of %s: L times U at (%d, %d): %v", show(m), i, j, got)
				}
			}
		}
	}
	if seen < 200 || changed < 20 {
		t.Errorf("%d matrices, %d with rows that changed places", seen, changed)
	}
}

// Rule 3: what is handed in stays as it was, what stands ahead of it and in its spare room too.
func TestWhatIsHandedInIsNotChanged(t *testing.T) {
	for _, m := range matrices() {
		n := len(m.Data)
		whole := slices.Concat([]complex128{7, complex(8, nan)}, m.Data, []complex128{9, complex(inf, minus0), 10})
		before := slices.Clone(whole)
		piece := m
		piece.Data = whole[2 : n+2]
		l, _ := lower.Of(piece)
		asked(l)
		if !alikeLists(whole, before) {
			t.Errorf("Of %s changed what was handed in", show(m))
		}
	}
}

// Rule 3: what is handed in is neither kept nor looked at later.
func TestWhatIsHandedInIsNotKept(t *testing.T) {
	for _, m := range matrices() {
		l, f := lower.Of(m)
		if f != (api.Fault{}) {
			continue
		}
		data := append(slices.Clone(m.Data), 1, 2, 3)
		m.Data = data[:len(m.Data)]
		want := asked(l)
		l = made(t, m)
		fill(data)
		if got := asked(l); !alikeTold(got, want) {
			t.Errorf("Of %s: %v, want %v", show(m), got, want)
		}
	}
}

// fill puts other numbers into a list and its spare room.
func fill(l []complex128) {
	l = l[:cap(l)]
	for i := range l {
		l[i] = complex(nan, 77)
	}
}

// Rule 3: each answer is new memory, its spare room too: that of one Lower, asked once more, and that of two Lowers of one matrix.
func TestWhatIsHandedBackIsNew(t *testing.T) {
	for _, m := range matrices() {
		l, f := lower.Of(m)
		if f != (api.Fault{}) {
			continue
		}
		other, want := made(t, m), asked(l)
		kept := asked(l)
		spoil := []func(told){
			func(a told) {
				order := a.order[:cap(a.order)]
				for i := range order {
					order[i] = -5
				}
			},
			func(a told) { fill(a.l.Data) },
			func(a told) { fill(a.u.Data) },
			func(a told) { fill(a.pivots) },
		}
		for i, at := range spoil {
			got := asked(l)
			at(got)
			fresh := told{size: got.size, sign: got.sign, order: got.order, l: got.l, u: got.u, pivots: got.pivots}
			// What was filled is put back: all else must be as it was.
			switch i {
			case 0:
				fresh.order = want.order
			case 1:
				fresh.l = want.l
			case 2:
				fresh.u = want.u
			case 3:
				fresh.pivots = want.pivots
			}
			if !alikeTold(fresh, kept) || !alikeTold(want, kept) {
				t.Errorf("Of %s, %d: answers share memory", show(m), i)
			}
			if !alikeTold(asked(l), kept) || !alikeTold(asked(other), kept) || !alikeTold(answered(m), kept) {
				t.Errorf("Of %s, %d: an answer is the Lower's own memory", show(m), i)
			}
		}
	}
}

// Rule 2: a fault leaves nothing behind, and a Lower is the same however often others are made.
func TestLowersAreApart(t *testing.T) {
	first := made(t, square(2, 1, 2, 3, 4))
	want := asked(first)
	for _, m := range matrices() {
		lower.Of(m)
	}
	if got := asked(first); !alikeTold(got, want) {
		t.Errorf("%v, want %v", got, want)
	}
}

// P1: what is told depends on what is handed in alone, and nothing panics.
func TestCalm(t *testing.T) {
	strange := slices.Concat(unfinite(), noughts(), units(), []complex128{least, greatest, complex(-greatest, greatest), complex(0, 0x1p1023)})
	for i := range 400 {
		n := i % 7
		m := square(n)
		for _, bits := range scatter(n*n, uint64(i+1)) {
			from := len(unfinite()) // half of all have finite numbers alone
			if i%2 == 0 {
				from = 0
			}
			m.Data = append(m.Data, strange[from+int(bits>>33)%(len(strange)-from)])
		}
		want, _ := worked(m)
		for range 2 {
			if got := answered(m); !alikeTold(got, want) {
				t.Fatalf("Of %s:\n%v, want\n%v", show(m), got, want)
			}
		}
	}
}
