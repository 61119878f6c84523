package inverse_test

import (
	"fmt"
	"math"
	"math/big"
	"slices"
	"testing"

	"gridwork/api"
	"gridwork/inverse"
	"gridwork/lower"
	"gridwork/matrix"
	"gridwork/solve"
)

const (
	least    = 0x1p-1074
	greatest = math.MaxFloat64
	top      = 0x1p1023
	most     = 64 // rows a matrix may have
)

var (
	inf     = math.Inf(1)
	nan     = math.NaN()
	minus0  = math.Copysign(0, -1)
	loudNaN = math.Float64frombits(0xfff0000000000001)
)

// The operations, each in a function of its own that is laid into none: nothing can be joined there. What a call tells is held against them.

//go:noinline
func plus(a, b float64) float64 { return a + b }

//go:noinline
func less(a, b float64) float64 { return a - b }

//go:noinline
func times(a, b float64) float64 { return a * b }

//go:noinline
func over(a, b float64) float64 { return a / b }

func sum(a, b complex128) complex128 {
	return complex(plus(real(a), real(b)), plus(imag(a), imag(b)))
}

func difference(a, b complex128) complex128 {
	return complex(less(real(a), real(b)), less(imag(a), imag(b)))
}

func product(a, b complex128) complex128 {
	p, q, c, d := real(a), imag(a), real(b), imag(b)
	return complex(less(times(p, c), times(q, d)), plus(times(p, d), times(q, c)))
}

func quotient(a, b complex128) complex128 {
	p, q, c, d := real(a), imag(a), real(b), imag(b)
	if math.Abs(c) >= math.Abs(d) {
		r := over(d, c)
		t := plus(c, times(d, r))
		return complex(over(plus(p, times(q, r)), t), over(less(q, times(p, r)), t))
	}
	r := over(c, d)
	t := plus(times(c, r), d)
	return complex(over(plus(times(p, r), q), t), over(less(times(q, r), p), t))
}

func size1(z complex128) float64 {
	return plus(math.Abs(real(z)), math.Abs(imag(z)))
}

// flipped turns a real's sign bit.
func flipped(x float64) float64 {
	return math.Float64frombits(math.Float64bits(x) ^ 1<<63)
}

func finite1(x float64) bool { return !math.IsNaN(x) && !math.IsInf(x, 0) }

func notFinite(z complex128) bool { return !finite1(real(z)) || !finite1(imag(z)) }

// alike holds numbers against each other by their bits, NaN's too: so a change is seen.
func alike(x, y complex128) bool {
	return alike1(real(x), real(y)) && alike1(imag(x), imag(y))
}

func alike1(x, y float64) bool {
	return math.Float64bits(x) == math.Float64bits(y)
}

func alikeMatrices(a, b api.Matrix) bool {
	return a.Rows == b.Rows && a.Cols == b.Cols && slices.EqualFunc(a.Data, b.Data, alike)
}

// equalMatrices takes noughts as equal, whatever their signs.
func equalMatrices(a, b api.Matrix) bool {
	return a.Rows == b.Rows && a.Cols == b.Cols && slices.Equal(a.Data, b.Data)
}

// square is a matrix of n rows and columns of the numbers that are told, row by row.
func square(n int, l ...complex128) api.Matrix {
	return api.Matrix{Rows: n, Cols: n, Data: l}
}

// diagonal has these numbers from corner to corner.
func diagonal(l ...complex128) api.Matrix {
	return placed(rising(len(l)), l)
}

// placed has one number in each row and column, and noughts else: that of the row i stands in the column that the order names.
func placed(order []int, l []complex128) api.Matrix {
	n := len(l)
	m := square(n, make([]complex128, n*n)...)
	for i, j := range order {
		m.Data[i*n+j] = l[i]
	}
	return m
}

// same is a list of one number, so many times.
func same(n int, z complex128) []complex128 {
	return slices.Repeat([]complex128{z}, n)
}

// identity has ones from corner to corner.
func identity(n int) api.Matrix {
	return diagonal(same(n, 1)...)
}

// rising is the order 0, 1, 2 and so on.
func rising(n int) []int {
	l := make([]int, n)
	for i := range l {
		l[i] = i
	}
	return l
}

// column takes a column out of a matrix.
func column(m api.Matrix, j int) []complex128 {
	var all []complex128
	for i := range m.Rows {
		all = append(all, m.Data[i*m.Cols+j])
	}
	return all
}

// transpose changes rows and columns about.
func transpose(m api.Matrix) api.Matrix {
	t := api.Matrix{Rows: m.Cols, Cols: m.Rows}
	for j := range m.Cols {
		t.Data = append(t.Data, column(m, j)...)
	}
	return t
}

func conjugate(m api.Matrix) api.Matrix {
	all := api.Matrix{Rows: m.Rows, Cols: m.Cols}
	for _, z := range m.Data {
		all.Data = append(all.Data, complex(real(z), flipped(imag(z))))
	}
	return all
}

// scaled is a matrix times a power of two.
func scaled(m api.Matrix, power int) api.Matrix {
	all := api.Matrix{Rows: m.Rows, Cols: m.Cols}
	for _, z := range m.Data {
		all.Data = append(all.Data, complex(math.Ldexp(real(z), power), math.Ldexp(imag(z), power)))
	}
	return all
}

// list tells numbers, or of many how many there are.
func list(l []complex128) string {
	if len(l) > 25 {
		return fmt.Sprintf("%d numbers", len(l))
	}
	return fmt.Sprint(l)
}

func show(m api.Matrix) string {
	return fmt.Sprintf("%d by %d, %s", m.Rows, m.Cols, list(m.Data))
}

func fault(e api.Errno, at int) api.Fault {
	return api.Fault{Err: e, At: at}
}

// eliminated is what chapter 9 says of a square matrix of at most 64 rows, number by number: factors and what is left in one list, and the order.
func eliminated(m api.Matrix) ([]complex128, []int, api.Fault) {
	if p := slices.IndexFunc(m.Data, notFinite); p >= 0 {
		return nil, nil, fault(api.ErrNumber, p)
	}
	n, a, order := m.Rows, slices.Clone(m.Data), rising(m.Rows)
	for k := range n {
		best, weight := k, 0.0
		for i := k; i < n; i++ {
			if w := size1(a[i*n+k]); w > weight {
				best, weight = i, w
			}
		}
		if weight == 0 {
			return nil, nil, fault(api.ErrSingular, k)
		}
		for j := range n {
			a[k*n+j], a[best*n+j] = a[best*n+j], a[k*n+j]
		}
		order[k], order[best] = order[best], order[k]
		for i := k + 1; i < n; i++ {
			f := quotient(a[i*n+k], a[k*n+k])
			for j := k + 1; j < n; j++ {
				a[i*n+j] = difference(a[i*n+j], product(f, a[k*n+j]))
			}
			a[i*n+k] = f
		}
		if slices.ContainsFunc(a, notFinite) {
			return nil, nil, fault(api.ErrOver, k)
		}
	}
	return a, order, api.Fault{}
}

// solved is what chapter 10 says of a right side, number by number, and whether all that is looked at is finite.
func solved(a []complex128, order []int, b []complex128) ([]complex128, bool) {
	n := len(order)
	x, ok := make([]complex128, n), true
	look := func(z complex128) complex128 {
		ok = ok && !notFinite(z)
		return z
	}
	for i := range n {
		x[i] = b[order[i]]
		for k := range i {
			x[i] = look(difference(x[i], product(a[i*n+k], x[k])))
		}
	}
	for i := n - 1; i >= 0; i-- {
		for k := i + 1; k < n; k++ {
			x[i] = look(difference(x[i], product(a[i*n+k], x[k])))
		}
		x[i] = look(quotient(x[i], a[i*n+i]))
	}
	return x, ok
}

// inverted is what the chapter says of Of, of a square matrix of at most 64 rows.
func inverted(m api.Matrix) (api.Matrix, api.Fault) {
	a, order, f := eliminated(m)
	if f != (api.Fault{}) {
		return api.Matrix{}, f
	}
	columns := api.Matrix{Rows: m.Rows, Cols: m.Rows}
	for j := range m.Rows {
		x, ok := solved(a, order, column(identity(m.Rows), j))
		if !ok {
			return api.Matrix{}, fault(api.ErrOver, j)
		}
		columns.Data = append(columns.Data, x...)
	}
	return transpose(columns), api.Fault{}
}

// norm is the greatest sum of a column's sizes; NaN counts for nothing.
func norm(m api.Matrix) float64 {
	best := 0.0
	for j := range m.Cols {
		t := 0.0
		for _, z := range column(m, j) {
			t = plus(t, size1(z))
		}
		if t > best {
			best = t
		}
	}
	return best
}

// carriedBy is what the chapter says of Carried.
func carriedBy(m api.Matrix) (float64, api.Fault) {
	w, f := inverted(m)
	if f != (api.Fault{}) {
		return 0, f
	}
	x := times(norm(m), norm(w))
	if !finite1(x) {
		return 0, fault(api.ErrOver, -1)
	}
	return x, api.Fault{}
}

// offBy is what the chapter says of Off, of two matrices of n rows and columns.
func offBy(m, w api.Matrix) float64 {
	n := m.Rows
	rest := square(n, make([]complex128, n*n)...)
	for i := range n {
		for j := range n {
			s := complex(0, 0)
			for k := range n {
				s = sum(s, product(m.Data[i*n+k], w.Data[k*n+j]))
			}
			one := complex(0, 0)
			if i == j {
				one = 1
			}
			rest.Data[i*n+j] = difference(s, one)
		}
	}
	return norm(rest)
}

// ofTells sees that the inverse is this one, to the bit, or that it is refused so.
func ofTells(t *testing.T, m, want api.Matrix, f api.Fault) {
	t.Helper()
	w, got := inverse.Of(m)
	if got != f || !alikeMatrices(w, want) {
		t.Errorf("Of %s: %s, {%d, %d}, want %s, {%d, %d}", show(m), show(w), int(got.Err), got.At, show(want), int(f.Err), f.At)
	}
}

// carriedTells sees that errors are carried so far, to the bit, or that it is refused so.
func carriedTells(t *testing.T, m api.Matrix, want float64, f api.Fault) {
	t.Helper()
	x, got := inverse.Carried(m)
	if got != f || !alike1(x, want) {
		t.Errorf("Carried of %s: %v, {%d, %d}, want %v, {%d, %d}", show(m), x, int(got.Err), got.At, want, int(f.Err), f.At)
	}
}

// offTells sees that w is so far off, to the bit, or that it is refused so.
func offTells(t *testing.T, m, w api.Matrix, want float64, e api.Errno) {
	t.Helper()
	x, got := inverse.Off(m, w)
	if got != e || !alike1(x, want) {
		t.Errorf("Off of %s and %s: %v, %d, want %v, %d", show(m), show(w), x, int(got), want, int(e))
	}
}

// bothRefuse sees that Of and Carried refuse with one fault, and tell nothing then.
func bothRefuse(t *testing.T, m api.Matrix, e api.Errno, at int) {
	t.Helper()
	ofTells(t, m, api.Matrix{}, fault(e, at))
	carriedTells(t, m, 0, fault(e, at))
}

// scatter gives whole numbers of 64 bits, always the same ones.
func scatter(n int, seed uint64) []uint64 {
	var all []uint64
	for range n {
		seed ^= seed << 13
		seed ^= seed >> 7
		seed ^= seed << 17
		all = append(all, seed)
	}
	return all
}

// near gives finite numbers whose parts' powers of two lie from low to high, always the same ones.
func near(n int, seed uint64, low, high int) []complex128 {
	part := func(bits uint64) float64 {
		power := low + int(bits>>52&0x7ff)%(high-low+1)
		x := math.Ldexp(1+float64(bits&(1<<52-1))*0x1p-52, power)
		if bits>>63 != 0 {
			return -x
		}
		return x
	}
	var all []complex128
	bits := scatter(2*n, seed)
	for i := range n {
		all = append(all, complex(part(bits[2*i]), part(bits[2*i+1])))
	}
	return all
}

// few gives numbers whose parts are whole and small, some of them 0, of either sign.
func few(n int, seed uint64) []complex128 {
	var all []complex128
	for _, bits := range scatter(n, seed) {
		re, im := float64(bits>>20%4), float64(bits>>40%3)
		all = append(all, complex(math.Copysign(re, float64(bits>>50&1)-0.5), math.Copysign(im, float64(bits>>51&1)-0.5)))
	}
	return all
}

// mixed is an order of n, always the same one for a seed.
func mixed(n int, seed uint64) []int {
	l := rising(n)
	for i, bits := range scatter(n, seed) {
		j := i + int(bits>>20)%(n-i)
		l[i], l[j] = l[j], l[i]
	}
	return l
}

// orders are all orders of n.
func orders(n int) [][]int {
	if n == 0 {
		return [][]int{{}}
	}
	var all [][]int
	for _, order := range orders(n - 1) {
		for p := range n {
			all = append(all, slices.Insert(slices.Clone(order), p, n-1))
		}
	}
	return all
}

// noughts are the numbers that are equal to 0.
func noughts() []complex128 {
	return []complex128{0, complex(minus0, 0), complex(0, minus0), complex(minus0, minus0)}
}

// unfinite are numbers that are not finite, by either part or both.
func unfinite() []complex128 {
	var all []complex128
	for _, x := range []float64{nan, loudNaN, inf, -inf} {
		all = append(all, complex(x, 0), complex(0, x), complex(x, 1), complex(-1, x), complex(x, x), complex(x, inf), complex(nan, x))
	}
	return all
}

// units are the numbers whose products and quotients are exact.
func units() []complex128 {
	return []complex128{1, -1, complex(0, 1), complex(0, -1)}
}

// strange gives numbers that few calls expect, not finite ones among them.
func strange(n int, seed uint64) []complex128 {
	some := slices.Concat(unfinite(), noughts(), units(), []complex128{least, greatest, complex(-greatest, greatest), complex(0, top), complex(0, -0x1p-1024)})
	var all []complex128
	for _, bits := range scatter(n, seed) {
		all = append(all, some[int(bits>>33)%len(some)])
	}
	return all
}

// uneven is a matrix with many noughts, and with some rows so small that those columns of the inverse are over, or nearly so; its rows in any order.
func uneven(n int, seed uint64) api.Matrix {
	m := square(n, near(n*n, seed, -1, 1)...)
	small := scatter(n, seed+2)
	for p, bits := range scatter(n*n, seed+1) {
		if p%n != p/n && bits>>30%3 > 0 {
			m.Data[p] = noughts()[bits>>40%4]
		}
		if small[p/n]>>30%4 == 0 {
			m.Data[p] = complex(math.Ldexp(real(m.Data[p]), -1024), math.Ldexp(imag(m.Data[p]), -1024))
		}
	}
	all := square(n)
	for _, i := range mixed(n, seed+3) {
		all.Data = append(all.Data, m.Data[i*n:i*n+n]...)
	}
	return all
}

// matrices are square ones that may be: without rows, of one number, with numbers near each other, few ones, great and small ones, and of 64 rows.
func matrices() []api.Matrix {
	all := []api.Matrix{{}, {Data: []complex128{}}, square(2, noughts()...), square(2, units()...), square(2, 2, 1, 4, 3), identity(2), identity(most), square(most, make([]complex128, most*most)...)}
	for _, z := range slices.Concat(noughts(), units(), unfinite(), []complex128{least, complex(0, -least), complex(3*least, least), complex(greatest, 1), complex(greatest, greatest), 3, complex(1, -2), complex(0x1p-1024, 0x1p-1024)}) {
		all = append(all, square(1, z))
	}
	for i := range 48 {
		seed, n := uint64(i+1), 1+i%8
		for _, l := range [][]complex128{
			few(n*n, seed), near(n*n, seed, 0, 0), near(n*n, seed, -2, 2), near(n*n, seed, -30, 30), near(n*n, seed, -500, 500), near(n*n, seed, -1074, -1070), near(n*n, seed, -1025, -1021),
			near(n*n, seed, -1074, 1020), near(n*n, seed, 1019, 1021), near(n*n, seed, 1022, 1023), near(n*n, seed, -540, -520), near(n*n, seed, 490, 505), strange(n*n, seed),
		} {
			all = append(all, square(n, l...))
		}
		all = append(all, uneven(n, seed), uneven(n, seed+100))
	}
	return append(all, square(most, few(most*most, 1)...), square(most, near(most*most, 2, -1, 1)...), square(most-1, near((most-1)*(most-1), 3, -20, 20)...), uneven(most, 4))
}

// The chapter's examples.
func TestExamples(t *testing.T) {
	for _, c := range []struct {
		m, want api.Matrix
	}{
		{square(2, complex(0, 1), 0, 0, 2), square(2, complex(0, -1), 0, 0, 0.5)},
		{square(2, 0, 1, 1, 0), square(2, 0, 1, 1, 0)},
		{api.Matrix{}, api.Matrix{}},
	} {
		if w, f := inverse.Of(c.m); f != (api.Fault{}) || !equalMatrices(w, c.want) {
			t.Errorf("Of %s: %s, %v", show(c.m), show(w), f)
		}
	}
	carriedTells(t, square(2, 0, 1, 1, 0), 1, api.Fault{})
	carriedTells(t, api.Matrix{}, 0, api.Fault{})
	bothRefuse(t, square(2, 1, 2, 2, 4), api.ErrSingular, 1)
	bothRefuse(t, api.Matrix{Rows: 1, Cols: 3, Data: []complex128{1, 2, 3}}, api.ErrShape, -1)
	bothRefuse(t, square(1, least), api.ErrOver, 0)
	offTells(t, square(1, 2), square(1, 0.5), 0, api.OK)
	offTells(t, square(1, 2), square(1, 1), 1, api.OK)
	offTells(t, square(1, 2), identity(2), 0, api.ErrShape)
}

func TestNumbersOfErrors(t *testing.T) {
	bothRefuse(t, square(1), 4, -1)
	bothRefuse(t, square(1, complex(0, inf)), 5, 0)
	bothRefuse(t, square(1, least), 6, 0)
	bothRefuse(t, square(1, 0), 7, 0)
	carriedTells(t, diagonal(0x1p1000, 0x1p-1000), 0, fault(6, -1))
	offTells(t, square(1), square(1, 1), 0, 4)
}

// sizes are counts of rows and columns at the edges of what may be, and beyond.
func sizes() []int {
	return []int{math.MinInt, -1, 0, 1, 2, 3, 63, 64, 65, 66, math.MaxInt}
}

// shaped is a matrix of so many rows and columns, its Data so many more or less than it should have.
func shaped(rows, cols, more int) api.Matrix {
	count := more
	if rows > 0 && cols > 0 && rows <= 66 && cols <= 66 {
		count += rows * cols
	}
	return api.Matrix{Rows: rows, Cols: cols, Data: near(max(count, 0), 7, -1, 1)}
}

// P12.1, P12.2: what has not as many rows as columns, or too many, or other numbers than it should have; ahead of what is not finite.
func TestShapes(t *testing.T) {
	for _, rows := range sizes() {
		for _, cols := range sizes() {
			for more := -1; more <= 1; more++ {
				m := shaped(rows, cols, more)
				if rows == cols && rows >= 0 && rows <= most && len(m.Data) == rows*cols {
					want, f := inverted(m)
					ofTells(t, m, want, f)
					continue
				}
				bothRefuse(t, m, api.ErrShape, -1)
				if len(m.Data) > 0 {
					m.Data[0] = complex(nan, 0)
					bothRefuse(t, m, api.ErrShape, -1)
				}
			}
		}
	}
}

// P12.3: both have n rows and columns, for one n; a product that would fit is not enough.
func TestOffShapes(t *testing.T) {
	var all []api.Matrix
	for _, rows := range sizes() {
		for _, cols := range sizes() {
			all = append(all, shaped(rows, cols, 0))
			if rows == cols {
				all = append(all, shaped(rows, cols, -1), shaped(rows, cols, 1))
			}
		}
	}
	fits := func(m api.Matrix) bool {
		return m.Rows == m.Cols && m.Rows >= 0 && m.Rows <= most && len(m.Data) == m.Rows*m.Cols
	}
	seen := 0
	for _, m := range all {
		for _, w := range all {
			if fits(m) && fits(w) && m.Rows == w.Rows {
				offTells(t, m, w, offBy(m, w), api.OK)
				seen++
				continue
			}
			offTells(t, m, w, 0, api.ErrShape)
		}
	}
	if seen < 6 {
		t.Errorf("%d pairs that fit", seen)
	}
	// What is not finite is not asked ahead of the shape, nor behind it.
	odd := square(1, complex(nan, inf))
	offTells(t, odd, identity(2), 0, api.ErrShape)
	offTells(t, identity(2), odd, 0, api.ErrShape)
	offTells(t, odd, odd, 0, api.OK)
}

// P12.1, P12.2: the first place whose number is not finite, ahead of a column that is singular or over.
func TestNotFinite(t *testing.T) {
	for _, n := range []int{1, 2, 3, 5} {
		for _, begin := range []api.Matrix{square(n, near(n*n, 3, -1, 1)...), square(n, make([]complex128, n*n)...), diagonal(same(n, least)...), square(n, same(n*n, complex(greatest, -greatest))...)} {
			for p := range n * n {
				for _, z := range unfinite() {
					m := square(n, slices.Clone(begin.Data)...)
					m.Data[p] = z
					bothRefuse(t, m, api.ErrNumber, p)
					m.Data[n*n-1] = complex(inf, nan)
					bothRefuse(t, m, api.ErrNumber, p)
				}
			}
		}
	}
	m := identity(most)
	m.Data[most*most-1] = complex(0, inf)
	bothRefuse(t, m, api.ErrNumber, most*most-1)
}

// P12.1, P12.2: what cannot be eliminated is told by the column at which that shows.
func TestElimination(t *testing.T) {
	for _, n := range []int{1, 2, 3, 7, most} {
		for k := range n {
			l := same(n, 2)
			l[k] = noughts()[k%4]
			bothRefuse(t, diagonal(l...), api.ErrSingular, k)
			bothRefuse(t, placed(mixed(n, uint64(k+1)), same(n, 0)), api.ErrSingular, 0)
		}
		for k := range n - 1 {
			m := identity(n)
			m.Data[k*n+k+1], m.Data[(k+1)*n+k], m.Data[(k+1)*n+k+1] = top, -1, top
			bothRefuse(t, m, api.ErrOver, k)
		}
	}
}

// P12.1: a column that is over is told by its own number, whatever row of the inverse it is over in; the first one of several.
func TestColumnsThatAreOver(t *testing.T) {
	for n := 1; n <= 4; n++ {
		for _, order := range orders(n) {
			for places := 1; places < 1<<n; places++ {
				l, first := same(n, complex(0, 3)), -1
				for i := range n {
					if places>>i&1 != 0 {
						l[i] = complex(0, -least)
						if first < 0 {
							first = i
						}
					}
				}
				bothRefuse(t, placed(order, l), api.ErrOver, first)
			}
		}
	}
	for j := range most {
		l := same(most, 5)
		l[j] = least
		bothRefuse(t, diagonal(l...), api.ErrOver, j)
		bothRefuse(t, placed(mixed(most, uint64(j+1)), l), api.ErrOver, j)
	}
	// Over in a difference, not in the quotient.
	bothRefuse(t, square(2, 1, 0x1p1000, 0, 0x1p-100), api.ErrOver, 1)
	bothRefuse(t, square(3, 1, 0, 0x1p1000, 0, 1, 0, 0, 0, 0x1p-100), api.ErrOver, 2)
	bothRefuse(t, square(3, 1, 0x1p1000, 0, 0, 0x1p-100, 0, 0, 0, 1), api.ErrOver, 1)
}

// P12.1: what elimination refuses is told ahead of a column that is over.
func TestFirstFault(t *testing.T) {
	bothRefuse(t, diagonal(least, 0), api.ErrSingular, 1)
	bothRefuse(t, diagonal(least, 1, 2, 0), api.ErrSingular, 3)
	bothRefuse(t, square(3, least, 0, 0, 0, 1, top, 0, -1, top), api.ErrOver, 1)
	bothRefuse(t, square(4, least, 0, 0, 0, 0, least, 0, 0, 0, 0, 1, top, 0, 0, -1, top), api.ErrOver, 2)
	bothRefuse(t, square(2, least, 0, 0, complex(0, nan)), api.ErrNumber, 3)
	// A column that is over is told ahead of a norm that is.
	bothRefuse(t, square(2, complex(greatest, greatest), 0, 0, least), api.ErrOver, 1)
}

// P12.1, P12.2 to the bit.
func TestAsTheChapterSays(t *testing.T) {
	faults, behind := map[api.Errno]int{}, 0
	for _, m := range matrices() {
		want, f := inverted(m)
		ofTells(t, m, want, f)
		x, g := carriedBy(m)
		carriedTells(t, m, x, g)
		faults[f.Err]++
		if _, _, e := eliminated(m); e == (api.Fault{}) && f.At > 0 {
			behind++
		}
		if f.Err == api.OK && g.Err == api.ErrOver {
			faults[-1]++
		}
	}
	if faults[api.OK] < 300 || faults[api.ErrNumber] < 50 || faults[api.ErrOver] < 100 || faults[api.ErrSingular] < 10 || faults[-1] < 10 || behind < 20 {
		t.Errorf("faults: %v, columns behind the first: %d", faults, behind)
	}
}

// P12.1: column by column it is what lower.Of and solve.Solve tell.
func TestIsSolve(t *testing.T) {
	seen := 0
	for _, m := range matrices() {
		w, f := inverse.Of(m)
		l, g := lower.Of(m)
		if g != (api.Fault{}) {
			if f != g {
				t.Errorf("Of %s: %v, want %v", show(m), f, g)
			}
			continue
		}
		for j := range m.Rows {
			x, e := solve.Solve(l, column(identity(m.Rows), j))
			if e != api.OK {
				if f != fault(e, j) {
					t.Errorf("Of %s: %v, want %v", show(m), f, fault(e, j))
				}
				break
			}
			if f == (api.Fault{}) && !slices.EqualFunc(column(w, j), x, alike) {
				t.Errorf("Of %s: column %d: %s, want %s", show(m), j, list(column(w, j)), list(x))
			}
			seen++
		}
	}
	if seen < 1000 {
		t.Errorf("%d columns", seen)
	}
}

// All matrices of two rows of some numbers, noughts of either sign among them, to the bit.
func TestAllOfTwoRows(t *testing.T) {
	some := []complex128{0, complex(minus0, minus0), 1, complex(-1, minus0), complex(0, 1), complex(minus0, -3), complex(0.1, 0.3), least, top, 0x1p-600}
	for _, a := range some {
		for _, b := range some {
			for _, c := range some {
				for _, d := range some {
					m := square(2, a, b, c, d)
					want, f := inverted(m)
					ofTells(t, m, want, f)
					x, f := carriedBy(m)
					carriedTells(t, m, x, f)
				}
			}
		}
	}
}

// P12.1: a matrix without rows has an inverse without rows, and nothing is carried.
func TestNoRows(t *testing.T) {
	for _, data := range [][]complex128{nil, {}, near(5, 1, 0, 0)[:0]} {
		m := api.Matrix{Data: data}
		ofTells(t, m, api.Matrix{}, api.Fault{})
		carriedTells(t, m, 0, api.Fault{})
		offTells(t, m, api.Matrix{}, 0, api.OK)
		offTells(t, api.Matrix{}, m, 0, api.OK)
	}
}

// P12.2: the greatest sums of the columns, of both, times each other.
func TestCarried(t *testing.T) {
	for _, c := range []struct {
		m    api.Matrix
		want float64
	}{
		{square(1, 3), times(3, over(1, 3))}, {square(1, complex(0, -4)), 1}, {diagonal(1, 2), 2}, {diagonal(4, 1, 2), 4}, {square(2, 1, 1, 0, 1), 4}, {square(2, 1, 3, 0, 1), 16},
		// Sums of the rows, the greatest numbers and squares would be others.
		{square(3, 1, 0, 0, 1, 1, 0, 1, 0, 1), 9}, {square(3, 1, 1, 1, 0, 1, 0, 0, 0, 1), 4}, {square(1, complex(1, 1)), 2}, {square(2, complex(1, 1), 0, 0, 1), 2}, {square(2, complex(2, 2), 0, 0, complex(0, 1)), 4},
		// Great and small ones.
		{diagonal(top, 1), top}, {diagonal(0x1p500, 0x1p-500), 0x1p1000}, {diagonal(0x1p511, 0x1p-512), 0x1p1023}, {diagonal(top, complex(0, top)), 1}, {diagonal(0x1p-1022, 0x1p-1023), 2}, {square(1, greatest), times(greatest, over(1, greatest))},
	} {
		carriedTells(t, c.m, c.want, api.Fault{})
	}
	seen := map[float64]int{}
	for power := range 1200 {
		m := diagonal(complex(math.Ldexp(1, power-600), 0), 1)
		x, f := inverse.Carried(m)
		if f != (api.Fault{}) || x != math.Ldexp(1, max(power-600, 600-power)) {
			t.Errorf("Carried of %s: %v, %v", show(m), x, f)
		}
		seen[x]++
	}
	if len(seen) != 601 {
		t.Errorf("%d answers", len(seen))
	}
}

// P12.2: what is carried is over by the product, by the norm of either matrix, or as a NaN; the inverse is told all the same.
func TestCarriedTooFar(t *testing.T) {
	for _, c := range []struct {
		m      api.Matrix
		of, by float64 // the norms
	}{
		{diagonal(0x1p1000, 0x1p-1000), 0x1p1000, 0x1p1000},
		{diagonal(0x1p512, complex(0, 0x1p-512)), 0x1p512, 0x1p512},
		{diagonal(top, 0.5), top, 2},
		{square(2, greatest, 0, 0x1p1000, 1), inf, 1},
		{square(1, complex(0x1p-1024, 0x1p-1024)), 0x1p-1023, inf},
		{square(1, complex(0, 1)*complex(0x1p-1024, 0x1p-1024)), 0x1p-1023, inf},
		{square(1, complex(greatest, greatest)), inf, 0},
		{square(1, complex(top, -top)), inf, 0},
		{diagonal(complex(top, top), complex(-top, top), complex(greatest, top)), inf, 0},
	} {
		want, f := inverted(c.m)
		if f != (api.Fault{}) || norm(c.m) != c.of || norm(want) != c.by {
			t.Errorf("%s: the norms %v and %v, %v", show(c.m), norm(c.m), norm(want), f)
		}
		ofTells(t, c.m, want, api.Fault{})
		carriedTells(t, c.m, 0, fault(api.ErrOver, -1))
	}
	// Just not too far.
	carriedTells(t, diagonal(0x1p512, complex(0, 0x1p-511)), 0x1p1023, api.Fault{})
	carriedTells(t, diagonal(greatest, 1), greatest, api.Fault{})
}

// P12.3 to the bit, of finite numbers and of others.
func TestOffAsTheChapterSays(t *testing.T) {
	bySize, endless, nothing := map[int][]api.Matrix{}, 0, 0
	for _, m := range matrices() {
		bySize[m.Rows] = append(bySize[m.Rows], m)
	}
	for _, all := range bySize {
		for i, m := range all {
			others := []api.Matrix{m, all[(i+1)%len(all)], all[(i+7)%len(all)], all[(i+13)%len(all)], identity(m.Rows), transpose(m)}
			if w, f := inverted(m); f == (api.Fault{}) {
				others = append(others, w)
			}
			for _, w := range others {
				want := offBy(m, w)
				offTells(t, m, w, want, api.OK)
				if math.IsInf(want, 1) {
					endless++
				}
				if want == 0 && m.Rows > 0 {
					nothing++
				}
			}
		}
	}
	if endless < 100 || nothing < 50 {
		t.Errorf("endless: %d, nothing: %d", endless, nothing)
	}
}

// P12.3: not finite numbers are reckoned with; a column's sum that is NaN counts for nothing, an endless one is the greatest.
func TestOffOfNotFinite(t *testing.T) {
	for _, c := range []struct {
		m, w api.Matrix
		want float64
	}{
		{square(1, complex(nan, 0)), square(1, 1), 0},
		{square(1, 1), square(1, complex(0, nan)), 0},
		{square(1, complex(inf, 0)), square(1, 1), 0}, // inf times 0 is NaN
		{square(1, complex(inf, inf)), square(1, complex(1, 1)), 0},
		{square(1, complex(inf, 0)), square(1, complex(1, 1)), inf},
		{square(1, greatest), square(1, 2), inf},
		{square(1, greatest), square(1, complex(0, -2)), inf},
		{square(2, 1, 0, 0, 1), square(2, complex(nan, nan), 0, 0, 4), 3}, // of w only the NaN's column
		{square(2, complex(nan, nan), 0, 0, 1), square(2, 1, 0, 0, 4), 0}, // of m the NaN's row, and so all columns
		{square(2, 3, 0, 0, complex(inf, 0)), square(2, 1, 0, 0, 1), 0},
		{square(2, greatest, 0, 0, 1), square(2, 2, 0, 0, 3), inf},
		{square(2, 1, 0, 0, greatest), square(2, 3, 0, 0, 2), inf},
	} {
		offTells(t, c.m, c.w, c.want, api.OK)
	}
}

// P12.3: m stands ahead of w in the product, and the columns are summed, not the rows.
func TestOffOrder(t *testing.T) {
	m, w := square(2, 0, 1, 0, 0), square(2, 0, 0, 0, 5)
	offTells(t, m, w, 6, api.OK) // 0 5 / 0 0, less the ones: -1 5 / 0 -1
	offTells(t, w, m, 1, api.OK) // noughts, less the ones
	offTells(t, square(2, 1, 2, 3, 4), square(2, 1, 0, 0, 1), 5, api.OK)
	offTells(t, square(2, 1, 3, 2, 4), square(2, 1, 0, 0, 1), 6, api.OK)
	offTells(t, square(1, complex(3, -4)), square(1, 1), 6, api.OK)
	offTells(t, identity(most), identity(most), 0, api.OK)
	offTells(t, identity(most), square(most, make([]complex128, most*most)...), 1, api.OK)
}

// P12.3: it is what layer 7 tells.
func TestOffIsByMatrix(t *testing.T) {
	for i := range 200 {
		n, seed := i%7, uint64(i+1)
		m, w := square(n, near(n*n, seed, -3, 3)...), square(n, near(n*n, seed+9, -3, 3)...)
		p, _ := matrix.Mul(m, w)
		ones, _ := matrix.Identity(n)
		rest, _ := matrix.Sub(p, ones)
		want, e := matrix.Norm1(rest)
		offTells(t, m, w, want, e)
	}
}

// unitMatrix has one unit in each row and column, and noughts else, of any signs; of the units too.
func unitMatrix(order []int, of, signs uint64) api.Matrix {
	n := len(order)
	m := square(n)
	for p, bits := range scatter(n*n, signs) {
		z := noughts()[bits>>33%4]
		if i := p / n; order[i] == p%n {
			u := units()[scatter(n, of)[i]>>20%4]
			if real(u) != 0 {
				z = complex(real(u), imag(z))
			} else {
				z = complex(real(z), imag(u))
			}
		}
		m.Data = append(m.Data, z)
	}
	return m
}

// isConjugatedTranspose sees what P12.4 says of a matrix with one unit in each row and column.
func isConjugatedTranspose(t *testing.T, m api.Matrix) {
	t.Helper()
	w, f := inverse.Of(m)
	if f != (api.Fault{}) || !equalMatrices(w, conjugate(transpose(m))) {
		t.Errorf("Of %s: %s, %v", show(m), show(w), f)
	}
	carriedTells(t, m, 1, api.Fault{})
	offTells(t, m, w, 0, api.OK)
	offTells(t, w, m, 0, api.OK)
}

// P12.4: matrices with one unit in each row and column.
func TestUnits(t *testing.T) {
	for n := 1; n <= 4; n++ {
		for _, order := range orders(n) {
			for which := range 1 << (2 * n) {
				var l []complex128
				for i := range n {
					l = append(l, units()[which>>(2*i)&3])
				}
				isConjugatedTranspose(t, placed(order, l))
			}
		}
	}
	for i := range 300 {
		n, seed := 1+i%12, uint64(i+1)
		if i%50 == 49 {
			n = most - i%4
		}
		isConjugatedTranspose(t, unitMatrix(mixed(n, seed), seed+5, seed+6))
	}
}

// P12.4, P3: the inverse of the conjugate, what is refused and how far is carried too.
func TestConjugates(t *testing.T) {
	seen := 0
	for _, m := range matrices() {
		w, f := inverse.Of(m)
		turned, g := inverse.Of(conjugate(m))
		if f != g || !equalMatrices(turned, conjugate(w)) {
			t.Errorf("Of the conjugate of %s: %s, %v, want that of %s, %v", show(m), show(turned), g, show(w), f)
		}
		x, f := inverse.Carried(m)
		carriedTells(t, conjugate(m), x, f)
		if f == (api.Fault{}) {
			seen++
		}
	}
	if seen < 200 {
		t.Errorf("%d matrices", seen)
	}
}

// wholeReal is a matrix of whole reals of sizes up to 2^20, some just that, some small, some 0.
func wholeReal(n int, seed uint64) api.Matrix {
	m := square(n)
	for _, bits := range scatter(n*n, seed) {
		x := float64(bits >> 20 % (1<<20 + 1))
		switch bits >> 60 {
		case 0, 1:
			x = 0x1p20
		case 2, 3, 4, 5:
			x = float64(bits >> 20 % 4)
		}
		m.Data = append(m.Data, complex(math.Copysign(x, float64(bits>>5&1)-0.5), 0))
	}
	return m
}

// isSoMuchLess sees what P12.4 says of a matrix times powers of two.
func isSoMuchLess(t *testing.T, m api.Matrix) bool {
	t.Helper()
	w, f := inverse.Of(m)
	x, g := inverse.Carried(m)
	for power := -64; power <= 64; power++ {
		much := scaled(m, power)
		if got, h := inverse.Of(much); h != f || !equalMatrices(got, scaled(w, -power)) {
			t.Errorf("Of %s times 2^%d: %s, %v", show(m), power, show(got), h)
		}
		carriedTells(t, much, x, g)
	}
	return f == (api.Fault{})
}

// P12.4: whole reals of at most three rows, times a power of two.
func TestPowersOfTwo(t *testing.T) {
	seen, singular := 0, 0
	for i := range 900 {
		n, seed := i%4, uint64(i+1)
		m := wholeReal(n, seed)
		if i%7 == 0 { // a row that is about, or just, so many times another one
			for j := range n {
				m.Data[(n-1)*n+j] = 3 * complex(math.Trunc(real(m.Data[j])/8), 0)
				m.Data[j] = complex(math.Trunc(real(m.Data[j])/8)*7, 0)
			}
		}
		if isSoMuchLess(t, m) {
			seen++
		} else {
			singular++
		}
	}
	if seen < 700 || singular < 20 {
		t.Errorf("%d matrices, %d singular ones", seen, singular)
	}
}

// exactly tells two whole matrices' product, in whole numbers.
func exactly(a, b api.Matrix) api.Matrix {
	n := a.Rows
	m := square(n)
	for p := range n * n {
		var re, im int64
		for k := range n {
			y, z := a.Data[p/n*n+k], b.Data[k*n+p%n]
			c, d, e, f := int64(real(y)), int64(imag(y)), int64(real(z)), int64(imag(z))
			re, im = re+c*e-d*f, im+c*f+d*e
		}
		m.Data = append(m.Data, complex(float64(re), float64(im)))
	}
	return m
}

func allWhole(l []complex128) bool {
	return !slices.ContainsFunc(l, func(z complex128) bool {
		fits := func(x float64) bool { return x == math.Trunc(x) && math.Abs(x) < 1<<20 }
		return !fits(real(z)) || !fits(imag(z))
	})
}

// wholeMatrix is a product of a lower and an upper one, with units from corner to corner, its rows in any order.
func wholeMatrix(n int, seed uint64) api.Matrix {
	l, u := identity(n), identity(n)
	for p, b := range scatter(n*n, seed) {
		switch i, j := p/n, p%n; {
		case j < i && b>>60&1 == 0:
			l.Data[p] = units()[b>>30&3]
		case j == i:
			u.Data[p] = units()[b>>40&3]
		case j > i:
			u.Data[p] = complex(float64(int(b>>20%3)-1), float64(int(b>>44%3)-1))
		}
	}
	return exactly(placed(mixed(n, seed+1), same(n, 1)), exactly(l, u))
}

// Whole matrices whose inverses are whole, where nothing is rounded: the inverse is just that, on either side.
func TestWholeInverses(t *testing.T) {
	seen := 0
	for i := range 600 {
		n := 1 + i%6
		m := wholeMatrix(n, uint64(i+1))
		l, f := lower.Of(m)
		if f != (api.Fault{}) || !allWhole(l.L().Data) || !allWhole(l.U().Data) || slices.ContainsFunc(l.Pivots(), func(z complex128) bool { return !slices.Contains(units(), z) }) {
			continue
		}
		w, f := inverse.Of(m)
		if f != (api.Fault{}) || !allWhole(w.Data) || !equalMatrices(exactly(m, w), identity(n)) || !equalMatrices(exactly(w, m), identity(n)) {
			t.Errorf("Of %s: %s, %v", show(m), show(w), f)
		}
		offTells(t, m, w, 0, api.OK)
		seen++
	}
	if seen < 200 {
		t.Errorf("%d matrices", seen)
	}
}

// farthest is how far a product is from the ones, exactly, at the place that is the farthest off.
func farthest(m, w api.Matrix) float64 {
	n, most := m.Rows, 0.0
	rat := func(x float64) *big.Rat { return new(big.Rat).SetFloat64(x) }
	for p := range n * n {
		re, im := new(big.Rat), new(big.Rat)
		if p/n == p%n {
			re.SetInt64(-1)
		}
		for k := range n {
			y, z := m.Data[p/n*n+k], w.Data[k*n+p%n]
			re.Add(re, new(big.Rat).Mul(rat(real(y)), rat(real(z))))
			re.Sub(re, new(big.Rat).Mul(rat(imag(y)), rat(imag(z))))
			im.Add(im, new(big.Rat).Mul(rat(real(y)), rat(imag(z))))
			im.Add(im, new(big.Rat).Mul(rat(imag(y)), rat(real(z))))
		}
		x, _ := re.Float64()
		y, _ := im.Float64()
		most = max(most, math.Abs(x), math.Abs(y))
	}
	return most
}

// It is about the inverse, reckoned exactly: as far off as rounding and what is carried let expect. Off tells about that, too.
func TestIsAboutTheInverse(t *testing.T) {
	seen := 0
	for i := range 300 {
		n, seed := 1+i%7, uint64(i+1)
		for _, m := range []api.Matrix{square(n, few(n*n, seed)...), square(n, near(n*n, seed, -2, 2)...), square(n, near(n*n, seed, -40, 40)...)} {
			w, f := inverse.Of(m)
			carried, g := inverse.Carried(m)
			if f != (api.Fault{}) || g != (api.Fault{}) || carried > 1e9 {
				continue
			}
			seen++
			bound := carried * float64(n*n) * 0x1p-50
			if far := farthest(m, w); far > bound {
				t.Errorf("Of %s: %s: %v off, %v carried", show(m), show(w), far, carried)
			}
			if off, e := inverse.Off(m, w); e != api.OK || off > bound*float64(2*n) {
				t.Errorf("Off of %s and %s: %v, %v carried", show(m), show(w), off, carried)
			}
			if carried < 1-bound {
				t.Errorf("Carried of %s: %v", show(m), carried)
			}
		}
	}
	if seen < 500 {
		t.Errorf("%d matrices", seen)
	}
}

// roomy gives a list's numbers as a piece of a longer one, with other numbers around it, and the longer one.
func roomy(l []complex128) ([]complex128, []complex128) {
	around := []complex128{complex(nan, 7), complex(inf, -8), complex(9, loudNaN)}
	whole := slices.Concat(around, l, around)
	return whole[3 : 3+len(l)], whole
}

// Rule 3: what is handed in stays as it was, what stands ahead of it and in its spare room too, which is not looked at.
func TestWhatIsHandedInIsNotChanged(t *testing.T) {
	for _, c := range matrices() {
		if c.Rows > 8 {
			continue
		}
		m, w := square(c.Rows), square(c.Rows)
		var wholeM, wholeW []complex128
		m.Data, wholeM = roomy(c.Data)
		w.Data, wholeW = roomy(transpose(c).Data)
		beforeM, beforeW := slices.Clone(wholeM), slices.Clone(wholeW)
		want, f := inverted(c)
		ofTells(t, m, want, f)
		x, f := carriedBy(c)
		carriedTells(t, m, x, f)
		offTells(t, m, w, offBy(c, transpose(c)), api.OK)
		offTells(t, w, m, offBy(transpose(c), c), api.OK)
		if !slices.EqualFunc(wholeM, beforeM, alike) || !slices.EqualFunc(wholeW, beforeW, alike) {
			t.Errorf("%s was changed", show(c))
		}
	}
	// Numbers in the spare room are none of the matrix.
	short := near(9, 3, 0, 0)[:8]
	bothRefuse(t, square(3, short...), api.ErrShape, -1)
	offTells(t, square(3, short...), identity(3), 0, api.ErrShape)
	offTells(t, identity(3), square(3, short...), 0, api.ErrShape)
}

// fill puts other numbers into a list and its spare room.
func fill(l []complex128) {
	l = l[:cap(l)]
	for i := range l {
		l[i] = complex(-77, nan)
	}
}

// Rule 3: each inverse is new memory, its spare room too: not the matrix's, not another answer's.
func TestWhatIsHandedBackIsNew(t *testing.T) {
	for _, c := range matrices() {
		if c.Rows > 8 {
			continue
		}
		m := square(c.Rows)
		var whole []complex128
		m.Data, whole = roomy(c.Data)
		before := slices.Clone(whole)
		first, _ := inverse.Of(m)
		second, f := inverse.Of(m)
		want := square(first.Rows, slices.Clone(first.Data)...)
		fill(first.Data)
		if !alikeMatrices(second, want) || !slices.EqualFunc(whole, before, alike) {
			t.Errorf("an answer to %s shares memory", show(c))
		}
		ofTells(t, m, want, f)
		fill(whole)
		if !alikeMatrices(second, want) {
			t.Errorf("an answer to %s is its memory", show(c))
		}
	}
}

// One matrix may be handed in as both.
func TestOneMatrixForBoth(t *testing.T) {
	for i := range 40 {
		n := i % 5
		m := square(n, near(n*n, uint64(i+1), -1, 1)...)
		offTells(t, m, m, offBy(m, square(n, slices.Clone(m.Data)...)), api.OK)
	}
}

// P1: what is told depends on what is handed in alone, and nothing panics.
func TestCalm(t *testing.T) {
	for i := range 4000 {
		n, seed := i%4, uint64(i+1)
		m, w := square(n, strange(n*n, seed)...), square(n, strange(n*n, seed+1)...)
		switch i % 9 {
		case 0:
			m.Rows = i%13 - 6
		case 1:
			w.Cols = i%13 - 6
		}
		got, f := inverse.Of(m)
		x, g := inverse.Carried(m)
		d, e := inverse.Off(m, w)
		ofTells(t, m, got, f)
		carriedTells(t, m, x, g)
		offTells(t, m, w, d, e)
		if f.Err != api.OK && (f != g || got.Rows != 0 || got.Cols != 0 || len(got.Data) != 0 || x != 0) {
			t.Errorf("Of %s: %s, %v; Carried %v, %v", show(m), show(got), f, x, g)
		}
	}
}
