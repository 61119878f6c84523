package solve_test

import (
	"fmt"
	"math"
	"math/big"
	"slices"
	"testing"

	"gridwork/api"
	"gridwork/lower"
	"gridwork/solve"
)

const (
	least    = 0x1p-1074
	greatest = math.MaxFloat64
	top      = 0x1p1023
	below2   = 0x1.fffffffffffffp0 // the greatest real below 2
	most     = 64                  // rows of a matrix
)

var (
	inf     = math.Inf(1)
	nan     = math.NaN()
	minus0  = math.Copysign(0, -1)
	loudNaN = math.Float64frombits(0xfff0000000000001)
)

// The operations, each in a function of its own that is laid into none: nothing can be joined there. What a call tells is held against them.

//go:noinline
func plus(a, b float64) float64 { return a + b }

//go:noinline
func less(a, b float64) float64 { return a - b }

//go:noinline
func times(a, b float64) float64 { return a * b }

//go:noinline
func over(a, b float64) float64 { return a / b }

func difference(a, b complex128) complex128 {
	return complex(less(real(a), real(b)), less(imag(a), imag(b)))
}

func product(a, b complex128) complex128 {
	p, q, c, d := real(a), imag(a), real(b), imag(b)
	return complex(less(times(p, c), times(q, d)), plus(times(p, d), times(q, c)))
}

func quotient(a, b complex128) complex128 {
	p, q, c, d := real(a), imag(a), real(b), imag(b)
	if math.Abs(c) >= math.Abs(d) {
		r := over(d, c)
		t := plus(c, times(d, r))
		return complex(over(plus(p, times(q, r)), t), over(less(q, times(p, r)), t))
	}
	r := over(c, d)
	t := plus(times(c, r), d)
	return complex(over(plus(times(p, r), q), t), over(less(times(q, r), p), t))
}

// flipped turns a real's sign bit.
func flipped(x float64) float64 {
	return math.Float64frombits(math.Float64bits(x) ^ 1<<63)
}

func conjugate(z complex128) complex128 {
	return complex(real(z), flipped(imag(z)))
}

func opposite(z complex128) complex128 {
	return complex(flipped(real(z)), flipped(imag(z)))
}

func conjugates(l []complex128) []complex128 {
	var all []complex128
	for _, z := range l {
		all = append(all, conjugate(z))
	}
	return all
}

func finite(z complex128) bool {
	real1 := func(x float64) bool { return !math.IsNaN(x) && !math.IsInf(x, 0) }
	return real1(real(z)) && real1(imag(z))
}

func notFinite(z complex128) bool { return !finite(z) }

// alike holds numbers against each other by their bits, NaN's too: so a change is seen.
func alike(x, y complex128) bool {
	return math.Float64bits(real(x)) == math.Float64bits(real(y)) && math.Float64bits(imag(x)) == math.Float64bits(imag(y))
}

func alikeLists(a, b []complex128) bool {
	return slices.EqualFunc(a, b, alike)
}

func alikeMatrices(a, b api.Matrix) bool {
	return a.Rows == b.Rows && a.Cols == b.Cols && alikeLists(a.Data, b.Data)
}

// square is a matrix of n rows and columns of the numbers that are told, row by row.
func square(n int, l ...complex128) api.Matrix {
	return api.Matrix{Rows: n, Cols: n, Data: l}
}

// diagonal has these numbers from corner to corner.
func diagonal(l ...complex128) api.Matrix {
	n := len(l)
	m := square(n, make([]complex128, n*n)...)
	for i, z := range l {
		m.Data[i*n+i] = z
	}
	return m
}

// identity has ones from corner to corner.
func identity(n int) api.Matrix {
	return diagonal(slices.Repeat([]complex128{1}, n)...)
}

// column takes a column out of a matrix.
func column(m api.Matrix, j int) []complex128 {
	var all []complex128
	for i := range m.Rows {
		all = append(all, m.Data[i*m.Cols+j])
	}
	return all
}

// transpose changes rows and columns about.
func transpose(m api.Matrix) api.Matrix {
	t := api.Matrix{Rows: m.Cols, Cols: m.Rows}
	for j := range m.Cols {
		t.Data = append(t.Data, column(m, j)...)
	}
	return t
}

// list tells numbers, or of many how many there are.
func list(l []complex128) string {
	if len(l) > 25 {
		return fmt.Sprintf("%d numbers", len(l))
	}
	return fmt.Sprint(l)
}

func show(m api.Matrix) string {
	return fmt.Sprintf("%d by %d, %s", m.Rows, m.Cols, list(m.Data))
}

// made eliminates a matrix that is to have no fault.
func made(t *testing.T, m api.Matrix) *lower.Lower {
	t.Helper()
	l, f := lower.Of(m)
	if l == nil || f != (api.Fault{}) {
		t.Fatalf("Of %s: {%d, %d}", show(m), int(f.Err), f.At)
	}
	return l
}

// call is Solve or Transposed.
type call struct {
	name string
	ask  func(l *lower.Lower, b []complex128) ([]complex128, api.Errno)
	says func(l *lower.Lower, b []complex128) ([]complex128, api.Errno) // what the chapter says
}

func calls() []call {
	return []call{{"Solve", solve.Solve, solved}, {"Transposed", solve.Transposed, solvedTransposed}}
}

// solved is what the chapter says of Solve, of a right side that is not refused, number by number.
func solved(l *lower.Lower, b []complex128) ([]complex128, api.Errno) {
	n, factors, rest, order := l.Size(), l.L().Data, l.U().Data, l.Order()
	y, x := make([]complex128, n), make([]complex128, n)
	for i := 0; i <= n-1; i++ {
		y[i] = b[order[i]]
		for k := 0; k <= i-1; k++ {
			y[i] = difference(y[i], product(factors[i*n+k], y[k]))
			if notFinite(y[i]) {
				return nil, api.ErrOver
			}
		}
	}
	for i := n - 1; i >= 0; i-- {
		x[i] = y[i]
		for k := i + 1; k <= n-1; k++ {
			x[i] = difference(x[i], product(rest[i*n+k], x[k]))
			if notFinite(x[i]) {
				return nil, api.ErrOver
			}
		}
		x[i] = quotient(x[i], rest[i*n+i])
		if notFinite(x[i]) {
			return nil, api.ErrOver
		}
	}
	return x, api.OK
}

// solvedTransposed is what the chapter says of Transposed.
func solvedTransposed(l *lower.Lower, b []complex128) ([]complex128, api.Errno) {
	n, factors, rest, order := l.Size(), l.L().Data, l.U().Data, l.Order()
	y, z, x := make([]complex128, n), make([]complex128, n), make([]complex128, n)
	for i := 0; i <= n-1; i++ {
		y[i] = b[i]
		for k := 0; k <= i-1; k++ {
			y[i] = difference(y[i], product(rest[k*n+i], y[k]))
			if notFinite(y[i]) {
				return nil, api.ErrOver
			}
		}
		y[i] = quotient(y[i], rest[i*n+i])
		if notFinite(y[i]) {
			return nil, api.ErrOver
		}
	}
	for i := n - 1; i >= 0; i-- {
		z[i] = y[i]
		for k := i + 1; k <= n-1; k++ {
			z[i] = difference(z[i], product(factors[k*n+i], z[k]))
			if notFinite(z[i]) {
				return nil, api.ErrOver
			}
		}
	}
	for i := range n {
		x[order[i]] = z[i]
	}
	return x, api.OK
}

// brought brings a number home by exact arithmetic, each part rounded once at the end.
func brought(z complex128) (complex128, int) {
	g := max(math.Abs(real(z)), math.Abs(imag(z)))
	p := new(big.Float).SetFloat64(g).MantExp(nil) - 1
	part := func(x float64) float64 {
		y, _ := new(big.Float).SetMantExp(new(big.Float).SetFloat64(x), -p).Float64()
		return y
	}
	return complex(part(real(z)), part(imag(z))), p
}

// determinant is what the chapter says of Det.
func determinant(l *lower.Lower) (complex128, int) {
	d, e, n, rest := complex(1, 0), 0, l.Size(), l.U().Data
	for i := range n {
		u, p := brought(rest[i*n+i])
		d = product(d, u)
		e += p
		d, p = brought(d)
		e += p
	}
	if l.Sign() == -1 {
		d = opposite(d)
	}
	return d, e
}

// tells sees that a right side is solved so, to the bit, or refused so.
func (c call) tells(t *testing.T, l *lower.Lower, b, want []complex128, e api.Errno) {
	t.Helper()
	x, got := c.ask(l, b)
	if got != e || !alikeLists(x, want) {
		t.Errorf("%s of %s: %s, %d, want %s, %d", c.name, list(b), list(x), int(got), list(want), int(e))
	}
}

// refuses sees that a right side is refused so, and that nothing is told then.
func (c call) refuses(t *testing.T, l *lower.Lower, b []complex128, e api.Errno) {
	t.Helper()
	c.tells(t, l, b, nil, e)
}

// manyTells sees that right sides are solved so, to the bit.
func manyTells(t *testing.T, l *lower.Lower, m, want api.Matrix, e api.Errno) {
	t.Helper()
	x, got := solve.Many(l, m)
	if got != e || !alikeMatrices(x, want) {
		t.Errorf("Many of %s: %s, %d, want %s, %d", show(m), show(x), int(got), show(want), int(e))
	}
}

// manyRefuses sees that right sides are refused so.
func manyRefuses(t *testing.T, l *lower.Lower, m api.Matrix, e api.Errno) {
	t.Helper()
	manyTells(t, l, m, api.Matrix{}, e)
}

// detTells sees that a determinant is told so, to the bit.
func detTells(t *testing.T, l *lower.Lower, d complex128, e int) {
	t.Helper()
	if z, p, err := solve.Det(l); err != api.OK || p != e || !alike(z, d) {
		t.Errorf("Det of the pivots %s, sign %d: %v, %d, %d, want %v, %d", list(l.Pivots()), l.Sign(), z, p, int(err), d, e)
	}
}

// rising is the order 0, 1, 2 and so on.
func rising(n int) []int {
	l := make([]int, n)
	for i := range l {
		l[i] = i
	}
	return l
}

// orders of n: all of them.
func orders(n int) [][]int {
	if n == 0 {
		return [][]int{{}}
	}
	var all [][]int
	for _, l := range orders(n - 1) {
		for at := range n {
			all = append(all, slices.Insert(slices.Clone(l), at, n-1))
		}
	}
	return all
}

// mixed gives an order of n, always the same one for a seed.
func mixed(n int, seed uint64) []int {
	l := rising(n)
	for i, bits := range scatter(n, seed) {
		k := int(bits >> 33 % uint64(n))
		l[i], l[k] = l[k], l[i]
	}
	return l
}

// someOrders are all short ones and some longer ones.
func someOrders() [][]int {
	var all [][]int
	for n := range 6 {
		all = append(all, orders(n)...)
	}
	down := rising(most)
	slices.Reverse(down)
	return append(all, mixed(7, 1), mixed(20, 2), down, rising(most), mixed(most, 3), mixed(most, 4), mixed(most-1, 5))
}

// scatter gives whole numbers of 64 bits, always the same ones.
func scatter(n int, seed uint64) []uint64 {
	var all []uint64
	for range n {
		seed ^= seed << 13
		seed ^= seed >> 7
		seed ^= seed << 17
		all = append(all, seed)
	}
	return all
}

// near gives finite numbers whose parts' powers of two lie from low to high, always the same ones.
func near(n int, seed uint64, low, high int) []complex128 {
	part := func(bits uint64) float64 {
		power := low + int(bits>>52&0x7ff)%(high-low+1)
		x := math.Ldexp(1+float64(bits&(1<<52-1))*0x1p-52, power)
		if bits>>63 != 0 {
			return -x
		}
		return x
	}
	var all []complex128
	bits := scatter(2*n, seed)
	for i := range n {
		all = append(all, complex(part(bits[2*i]), part(bits[2*i+1])))
	}
	return all
}

// few gives numbers whose parts are whole and small, some of them 0, of either sign.
func few(n int, seed uint64) []complex128 {
	var all []complex128
	for _, bits := range scatter(n, seed) {
		re, im := float64(bits>>20%4), float64(bits>>40%3)
		all = append(all, complex(math.Copysign(re, float64(bits>>50&1)-0.5), math.Copysign(im, float64(bits>>51&1)-0.5)))
	}
	return all
}

// noughts are the numbers that are equal to 0.
func noughts() []complex128 {
	return []complex128{0, complex(minus0, 0), complex(0, minus0), complex(minus0, minus0)}
}

// unfinite are numbers that are not finite, by either part or both.
func unfinite() []complex128 {
	var all []complex128
	for _, x := range []float64{nan, loudNaN, inf, -inf} {
		all = append(all, complex(x, 0), complex(0, x), complex(x, 1), complex(-1, x), complex(x, x), complex(x, inf), complex(nan, x))
	}
	return all
}

// units are the numbers whose products and quotients are exact.
func units() []complex128 {
	return []complex128{1, -1, complex(0, 1), complex(0, -1)}
}

// matrices are square ones, most of which can be eliminated: without rows, of one number, with numbers near each other, few ones, great and small ones, and of 64 rows.
func matrices() []api.Matrix {
	all := []api.Matrix{{}, {Data: []complex128{}}, square(2, units()...), square(2, 2, 1, 4, 3), identity(2), identity(most)}
	for _, z := range append(units(), least, complex(0, -least), complex(3*least, least), complex(greatest, 1), complex(greatest, greatest), 3, complex(1, -2)) {
		all = append(all, square(1, z))
	}
	for i := range 40 {
		seed, n := uint64(i+1), 2+i%8
		for _, l := range [][]complex128{
			few(n*n, seed), near(n*n, seed, 0, 0), near(n*n, seed, -2, 2), near(n*n, seed, -30, 30), near(n*n, seed, -500, 500),
			near(n*n, seed, -1074, -1070), near(n*n, seed, -1074, 1020), near(n*n, seed, 1019, 1021), near(n*n, seed, -800, -700), near(n*n, seed, 700, 800),
		} {
			all = append(all, square(n, l...))
		}
	}
	for i := range 60 {
		// Mostly noughts beside the diagonal, so that noughts' signs come through to the end.
		n, seed := 1+i%5, uint64(i+1)
		m, bits := diagonal(few(n, seed+500)...), scatter(n*n, seed)
		for p := range n * n {
			if m.Data[p] == 0 {
				m.Data[p] = append(noughts(), 1, complex(0, -1))[bits[p]>>20%6]
			}
		}
		all = append(all, m)
	}
	for i := range 3 {
		seed, n := uint64(i+1), most-i/2
		all = append(all, square(n, few(n*n, seed)...), square(n, near(n*n, seed, -1, 1)...), square(n, near(n*n, seed, -40, 40)...))
	}
	return all
}

// lowers are what is eliminated of matrices, where nothing is against it.
func lowers() []*lower.Lower {
	var all []*lower.Lower
	for _, m := range matrices() {
		if l, f := lower.Of(m); f == (api.Fault{}) {
			all = append(all, l)
		}
	}
	return all
}

// sides are right sides of n finite numbers: noughts, few ones, near ones, great and small ones.
func sides(n int, seed uint64) [][]complex128 {
	var nought []complex128
	for i := range n {
		nought = append(nought, noughts()[(i+int(seed))%4])
	}
	all := [][]complex128{make([]complex128, n), nought, few(n, seed), few(n, seed+50), near(n, seed, 0, 0), near(n, seed, -30, 30), near(n, seed, -1074, -1060), near(n, seed, 1015, 1023), near(n, seed, -1074, 1023)}
	if n > 0 {
		one := slices.Clone(nought)
		one[int(seed)%n] = complex(minus0, 3)
		all = append(all, one)
	}
	return all
}

// The chapter's examples.
func TestExamples(t *testing.T) {
	s, tr := calls()[0], calls()[1]
	l := made(t, square(2, 2, 1, 4, 3))
	if x, e := solve.Solve(l, []complex128{5, 11}); e != api.OK || !slices.Equal(x, []complex128{2, 1}) {
		t.Errorf("Solve: %v, %d", x, int(e))
	}
	if x, e := solve.Transposed(l, []complex128{5, 11}); e != api.OK || !slices.Equal(x, []complex128{-14.5, 8.5}) {
		t.Errorf("Transposed: %v, %d", x, int(e))
	}
	detTells(t, l, complex(1, minus0), 1)
	s.refuses(t, l, []complex128{1, 2, 3}, api.ErrShape)
	s.refuses(t, l, []complex128{complex(nan, 0), 1}, api.ErrNumber)
	tr.refuses(t, l, []complex128{1, 2, 3}, api.ErrShape)
	tr.refuses(t, l, []complex128{complex(nan, 0), 1}, api.ErrNumber)
	l = made(t, square(1, complex(0, 0x1p1000)))
	detTells(t, l, complex(0, 1), 1000)
	s.tells(t, l, []complex128{0x1p-1000}, []complex128{complex(0, minus0)}, api.OK)
	s.refuses(t, made(t, square(1, 0x1p-1000)), []complex128{0x1p1000}, api.ErrOver)
}

func TestNumbersOfErrors(t *testing.T) {
	l := made(t, square(1, 0x1p-1000))
	for _, c := range calls() {
		c.refuses(t, nil, []complex128{1}, 1)
		c.refuses(t, l, nil, 4)
		c.refuses(t, l, []complex128{complex(0, inf)}, 5)
		c.refuses(t, l, []complex128{0x1p1000}, 6)
	}
	manyRefuses(t, nil, square(1, 1), 1)
	manyRefuses(t, l, square(2, 1, 2, 3, 4), 4)
	manyRefuses(t, l, square(1, complex(0, inf)), 5)
	manyRefuses(t, l, square(1, 0x1p1000), 6)
	if d, p, e := solve.Det(nil); d != 0 || p != 0 || e != 1 {
		t.Errorf("Det of none: %v, %d, %d", d, p, int(e))
	}
}

// Rule 4: a Lower that is nil, or that Of did not make, is refused ahead of all else.
func TestLowerThatIsNone(t *testing.T) {
	var nothing *lower.Lower
	var zero lower.Lower
	left, _ := lower.Of(square(1, 0))
	for i, l := range []*lower.Lower{nothing, &zero, new(lower.Lower), {}, left} {
		for _, c := range calls() {
			for _, b := range [][]complex128{nil, {}, {1}, {complex(nan, 0)}, {1, 2, complex(inf, 0)}, make([]complex128, most)} {
				c.refuses(t, l, b, api.ErrNil)
			}
		}
		for _, m := range []api.Matrix{{}, identity(3), square(1, complex(nan, 0)), {Rows: -1}, {Rows: 1, Cols: 65}, {Rows: 2, Cols: 2}, {Rows: 0, Cols: 5}} {
			manyRefuses(t, l, m, api.ErrNil)
		}
		if d, p, e := solve.Det(l); !alike(d, 0) || p != 0 || e != api.ErrNil {
			t.Errorf("%d: Det: %v, %d, %d", i, d, p, int(e))
		}
	}
}

// P10.1, P10.2: right sides with more or fewer numbers than unknowns, whatever they are.
func TestWrongLengths(t *testing.T) {
	for _, n := range []int{0, 1, 2, 3, 7, most} {
		l := made(t, identity(n))
		for _, c := range calls() {
			for m := range most + 3 {
				b := near(most+3, uint64(n+1), -1, 1)[:m]
				if m == n {
					c.tells(t, l, b, b, api.OK)
					continue
				}
				c.refuses(t, l, b, api.ErrShape)
				if m > 0 { // what is not finite is told behind it
					b[m-1] = complex(nan, 0)
					c.refuses(t, l, b, api.ErrShape)
				}
			}
			if n > 0 {
				c.refuses(t, l, nil, api.ErrShape)
			}
		}
	}
	// Nothing is too small or too great for another length.
	l := made(t, square(1, 0x1p-1000))
	for _, c := range calls() {
		c.refuses(t, l, []complex128{0x1p1000, 0x1p1000}, api.ErrShape)
		c.refuses(t, l, make([]complex128, api.MaxVector+1), api.ErrShape)
	}
}

// P10.1, P10.2: a number that is not finite, at every place, ahead of what is over.
func TestNotFinite(t *testing.T) {
	for n := 1; n <= 5; n++ {
		plain, small := made(t, square(n, near(n*n, 3, -1, 1)...)), made(t, diagonal(slices.Repeat([]complex128{0x1p-1000}, n)...))
		for _, c := range calls() {
			for p := range n {
				for _, z := range unfinite() {
					b := near(n, uint64(p+1), 900, 1023)
					b[p] = z
					c.refuses(t, plain, b, api.ErrNumber)
					c.refuses(t, small, b, api.ErrNumber)
				}
			}
			c.refuses(t, small, near(n, 1, 900, 1023), api.ErrOver)
		}
	}
	b := make([]complex128, most)
	b[most-1] = complex(0, -inf)
	for _, c := range calls() {
		c.refuses(t, made(t, identity(most)), b, api.ErrNumber)
	}
}

// What stands behind a right side, in its spare room, is none of its numbers; a piece of a longer list is as good as a list.
func TestSpareRoomIsNotLookedAt(t *testing.T) {
	b := []complex128{complex(inf, 0), 5, 11, complex(nan, nan), complex(inf, 0)}
	l := made(t, square(2, 2, 1, 4, 3))
	for _, c := range calls() {
		want, e := c.ask(l, []complex128{5, 11})
		if e != api.OK {
			t.Fatal(int(e))
		}
		c.tells(t, l, b[1:3], want, api.OK)
		c.refuses(t, l, b[1:2], api.ErrShape)
	}
	want, e := solve.Many(l, api.Matrix{Rows: 2, Cols: 1, Data: []complex128{5, 11}})
	if e != api.OK {
		t.Fatal(int(e))
	}
	manyTells(t, l, api.Matrix{Rows: 2, Cols: 1, Data: b[1:3]}, want, api.OK)
	manyRefuses(t, l, api.Matrix{Rows: 2, Cols: 1, Data: b[1:2]}, api.ErrShape)
}

// P10.1, P10.2: a difference that is not finite, wherever its factor stands. In L it is reckoned forward by Solve and backward by Transposed, in U the other way round.
func TestOverInDifferences(t *testing.T) {
	for n := 2; n <= 6; n++ {
		for i := range n {
			for j := range n {
				if i == j {
					continue
				}
				for _, turn := range units() {
					m, b := identity(n), make([]complex128, n)
					b[i], b[j] = top*turn, top*turn
					for _, c := range calls() {
						m.Data[i*n+j], m.Data[j*n+i] = -1, 0
						c.refuses(t, made(t, m), b, api.ErrOver)
						m.Data[i*n+j], m.Data[j*n+i] = 1, 0 // then just nothing is left there
						x, e := c.ask(made(t, m), b)
						if e != api.OK || slices.ContainsFunc(x, notFinite) {
							t.Errorf("%s of %s: %s, %d", c.name, list(b), list(x), int(e))
						}
					}
				}
			}
		}
	}
}

// A difference that is not finite is so to the end, though the next one would bring an endless number back.
func TestOverStaysOver(t *testing.T) {
	for _, c := range calls() {
		for _, k := range []complex128{1, -1} {
			forth := square(3, 1, 0, 0, 0, 1, 0, k, -k, 1)
			for _, b := range [][]complex128{{top, -top, -top}, {-top, top, top}, {top, -top, top}, {-top, top, -top}} {
				for _, m := range []api.Matrix{forth, transpose(forth)} {
					x, e := c.ask(made(t, m), b)
					want, wantE := c.says(made(t, m), b)
					if e != wantE || !alikeLists(x, want) {
						t.Errorf("%s of %s: %s, %d, want %s, %d", c.name, list(b), list(x), int(e), list(want), int(wantE))
					}
				}
			}
		}
	}
	// 2^1023 and 2^1023 are too much, though 2^1023 would be taken off next.
	calls()[0].refuses(t, made(t, square(3, 1, 0, 0, 0, 1, 0, -1, 1, 1)), []complex128{top, top, top}, api.ErrOver)
	calls()[0].tells(t, made(t, square(3, 1, 0, 0, 0, 1, 0, 1, -1, 1)), []complex128{top, top, top}, []complex128{top, top, top}, api.OK)
	calls()[1].refuses(t, made(t, square(3, 1, 0, -1, 0, 1, 1, 0, 0, 1)), []complex128{top, top, top}, api.ErrOver)
	calls()[1].tells(t, made(t, square(3, 1, 0, 1, 0, 1, -1, 0, 0, 1)), []complex128{top, top, top}, []complex128{top, top, top}, api.OK)
}

// Differences go by rising places, both forward and backward: in the other order what is finite here would not be, and the other way round.
func TestDifferencesRise(t *testing.T) {
	last, first := square(4, 1, 0, 0, 0, 0, 1, 0, 0, 0, 0, 1, 0, 1, -1, 1, 1), square(4, 1, 1, -1, 1, 0, 1, 0, 0, 0, 0, 1, 0, 0, 0, 0, 1)
	good, bad := []complex128{top, top, -0.5 * top}, []complex128{-0.5 * top, top, top}
	for k, of := range [][2]api.Matrix{{last, first}, {transpose(last), transpose(first)}} {
		// Of the last matrix's last row, the first one's first row: Transposed has them as columns.
		c, toLast, toFirst := calls()[k], made(t, of[0]), made(t, of[1])
		c.tells(t, toLast, append(slices.Clone(good), top), []complex128{top, top, -0.5 * top, 1.5 * top}, api.OK)
		c.tells(t, toFirst, append([]complex128{top}, good...), []complex128{1.5 * top, top, top, -0.5 * top}, api.OK)
		c.refuses(t, toLast, append(slices.Clone(bad), top), api.ErrOver)
		c.refuses(t, toFirst, append([]complex128{top}, bad...), api.ErrOver)
	}
}

// P10.1, P10.2: a quotient that is not finite, in every place.
func TestOverInQuotients(t *testing.T) {
	for n := 1; n <= 5; n++ {
		for p := range n {
			for _, turn := range units() {
				m, b := identity(n), slices.Repeat([]complex128{1}, n)
				m.Data[p*n+p], b[p] = 0x1p-1000*turn, 0x1p1000
				l := made(t, m)
				for _, c := range calls() {
					c.refuses(t, l, b, api.ErrOver)
					b[p] = 0x1p23
					x, e := c.ask(l, b)
					if e != api.OK || math.Abs(real(x[p]))+math.Abs(imag(x[p])) != 0x1p1023 {
						t.Errorf("%s of %s: %s, %d", c.name, list(b), list(x), int(e))
					}
					b[p] = 0x1p24
					c.refuses(t, l, b, api.ErrOver)
					b[p] = 0x1p1000
				}
			}
		}
	}
}

// What a product or a quotient reckons inside is not asked: what comes of it is.
func TestInsideIsNotAsked(t *testing.T) {
	great := complex(1e308, 1e308)
	endless := made(t, square(1, great)) // the quotient's divisor is +Inf
	factor := made(t, square(2, complex(0.5, 0.5), 0, 1, 1))
	if f := factor.L().Data[2]; f != complex(1, -1) {
		t.Fatalf("the factor is %v", f)
	}
	for _, c := range calls() {
		c.refuses(t, endless, []complex128{great}, api.ErrOver) // it is no number, though great over great is 1
		c.tells(t, endless, []complex128{5}, []complex128{complex(0, minus0)}, api.OK)
		c.tells(t, endless, []complex128{complex(-7, 1)}, []complex128{complex(minus0, 0)}, api.OK)
	}
	// The product's im is too great: then the difference is so, too.
	calls()[0].refuses(t, factor, []complex128{complex(top, -top), 0}, api.ErrOver)
	calls()[0].refuses(t, factor, []complex128{complex(top, top), complex(top, 0)}, api.ErrOver)
	calls()[1].refuses(t, factor, []complex128{0, complex(top, top)}, api.ErrOver)
}

// P10.1, P10.2, to the bit.
func TestAsTheChapterSays(t *testing.T) {
	kinds, order := map[api.Errno]int{}, 0
	for i, l := range lowers() {
		if !slices.Equal(l.Order(), rising(l.Size())) {
			order++
		}
		for _, b := range sides(l.Size(), uint64(i+1)) {
			for _, c := range calls() {
				want, e := c.says(l, b)
				kinds[e]++
				c.tells(t, l, b, want, e)
			}
		}
	}
	if kinds[api.OK] < 3000 || kinds[api.ErrOver] < 500 || order < 200 {
		t.Errorf("%v, %d with rows that changed places", kinds, order)
	}
}

// All of two unknowns whose numbers are some at which something begins or ends.
func TestAllOfTwoUnknowns(t *testing.T) {
	some := []complex128{complex(minus0, 0), complex(0, minus0), 1, complex(minus0, -1), complex(1, -2), complex(-least, 0x1p-1022), complex(-greatest, 0x1p1000)}
	right := append(noughts(), 1, complex(minus0, 5), complex(-3, minus0), top, complex(0, -least))
	for _, a := range some {
		for _, b := range some {
			for _, c := range some {
				for _, d := range some {
					l, f := lower.Of(square(2, a, b, c, d))
					if f != (api.Fault{}) {
						continue
					}
					for _, p := range right {
						for _, q := range right {
							for _, ask := range calls() {
								want, e := ask.says(l, []complex128{p, q})
								ask.tells(t, l, []complex128{p, q}, want, e)
							}
						}
					}
				}
			}
		}
	}
}

// What is told are the operations of the chapter, each rounded by itself: no product is joined to a difference, and a quotient is no product with 1 over the pivot.
func TestRoundedOneByOne(t *testing.T) {
	third := over(1, 3)
	if math.FMA(-third, 5, 2) == less(2, times(third, 5)) {
		t.Fatal("joined or not, the difference is one")
	}
	if times(5, over(1, 49)) == over(5, 49) {
		t.Fatal("by a quotient or a product, the unknown is one")
	}
	s, tr := calls()[0], calls()[1]
	rest := complex(less(2, times(third, 5)), 0)
	below, above := made(t, square(2, 3, 0, 1, 1)), made(t, square(2, 1, complex(third, 0), 0, 1))
	s.tells(t, below, []complex128{5, 2}, []complex128{complex(over(5, 3), 0), rest}, api.OK)
	s.tells(t, above, []complex128{2, 5}, []complex128{rest, 5}, api.OK)
	tr.tells(t, above, []complex128{5, 2}, []complex128{5, rest}, api.OK)
	tr.tells(t, made(t, square(2, 1, 0, complex(third, 0), 1)), []complex128{2, 5}, []complex128{rest, 5}, api.OK)
	for _, c := range calls() {
		c.tells(t, made(t, square(1, 49)), []complex128{5}, []complex128{complex(over(5, 49), 0)}, api.OK)
	}
}

// By L nothing is divided: over 1 a nought's sign could turn. Products with noughts are taken off like others.
func TestSignsOfNoughts(t *testing.T) {
	s, tr := calls()[0], calls()[1]
	turn := complex(0, -1)
	// Over -i re's nought shows in im: 5 times -0 less it, over -1.
	s.tells(t, made(t, square(1, turn)), []complex128{complex(minus0, 5)}, []complex128{complex(-5, minus0)}, api.OK)
	s.tells(t, made(t, square(1, turn)), []complex128{complex(0, 5)}, []complex128{complex(-5, 0)}, api.OK)
	// 0 times -1 is -0, and -0 less that is 0.
	s.tells(t, made(t, square(2, 1, 0, 0, turn)), []complex128{-1, complex(minus0, 5)}, []complex128{-1, complex(-5, 0)}, api.OK)
	// Transposed ends with L: -0 less 0 times 1 is -0.
	tr.tells(t, made(t, identity(2)), []complex128{complex(minus0, minus0), 1}, []complex128{complex(minus0, 0), 1}, api.OK)
	tr.tells(t, made(t, identity(2)), []complex128{complex(minus0, minus0), -1}, []complex128{0, -1}, api.OK)
}

// P10.1, P10.2: rows that changed places. The matrix has one number in each row and column.
func TestOrders(t *testing.T) {
	s, tr := calls()[0], calls()[1]
	for i, order := range someOrders() {
		n := len(order)
		m, b := square(n, make([]complex128, n*n)...), near(n, uint64(i+1), -3, 3)
		forth, back := make([]complex128, n), make([]complex128, n)
		for k, row := range order {
			m.Data[row*n+k] = complex(float64(k%9+1), 0)
			forth[k] = quotient(b[row], complex(float64(k%9+1), 0))
			back[row] = quotient(b[k], complex(float64(k%9+1), 0))
		}
		l := made(t, m)
		if !slices.Equal(l.Order(), order) {
			t.Fatalf("order %v, want %v", l.Order(), order)
		}
		s.tells(t, l, b, forth, api.OK)
		tr.tells(t, l, b, back, api.OK)
	}
}

// whole takes a number apart, if its parts are whole and their sizes below 2^20.
func whole(z complex128) (re, im int64, ok bool) {
	fits := func(x float64) bool { return x == math.Trunc(x) && math.Abs(x) < 1<<20 }
	return int64(real(z)), int64(imag(z)), fits(real(z)) && fits(imag(z))
}

func allWhole(l []complex128) bool {
	return !slices.ContainsFunc(l, func(z complex128) bool {
		_, _, ok := whole(z)
		return !ok
	})
}

// exactly tells a matrix times a vector, in whole numbers.
func exactly(m api.Matrix, x []complex128) []complex128 {
	var all []complex128
	for i := range m.Rows {
		var re, im int64
		for k := range m.Cols {
			p, q, _ := whole(m.Data[i*m.Cols+k])
			c, d, _ := whole(x[k])
			re, im = re+p*c-q*d, im+p*d+q*c
		}
		all = append(all, complex(float64(re), float64(im)))
	}
	return all
}

// wholeMatrices have whole numbers, and L, U and all pivots are such that nothing is rounded; rows of some of them change places.
func wholeMatrices() []api.Matrix {
	var all []api.Matrix
	for i := range 300 {
		n, seed := 1+i%9, uint64(i+1)
		bits := scatter(n*n, seed)
		l, u := identity(n), identity(n)
		for p := range n * n {
			b := bits[p]
			switch row, col := p/n, p%n; {
			case col < row && b>>60&1 == 0:
				l.Data[p] = units()[b>>30&3]
			case col == row:
				u.Data[p] = units()[b>>40&3]
			case col > row:
				u.Data[p] = complex(float64(int(b>>20%5)-2), float64(int(b>>44%5)-2))
			}
		}
		order := rising(n)
		if i%3 > 0 {
			order = mixed(n, seed)
		}
		m := square(n, make([]complex128, n*n)...)
		for j := range n {
			for i, z := range exactly(l, column(u, j)) {
				m.Data[order[i]*n+j] = z
			}
		}
		all = append(all, m)
	}
	return all
}

// Whole unknowns are found again: what is told solves the matrix, or its transpose, and the determinant is the pivots' product.
func TestWholeUnknowns(t *testing.T) {
	seen, changed := 0, 0
	for i, m := range wholeMatrices() {
		l, f := lower.Of(m)
		if f != (api.Fault{}) || !allWhole(l.L().Data) || !allWhole(l.U().Data) || slices.ContainsFunc(l.Pivots(), func(z complex128) bool { return !slices.Contains(units(), z) }) {
			continue
		}
		seen++
		if !slices.Equal(l.Order(), rising(m.Rows)) {
			changed++
		}
		want := few(m.Rows, uint64(i+7))
		for k, of := range []api.Matrix{m, transpose(m)} {
			c := calls()[k]
			if x, e := c.ask(l, exactly(of, want)); e != api.OK || !slices.Equal(x, want) {
				t.Errorf("%s of %s: %s, %d, want %s", c.name, show(m), list(x), int(e), list(want))
			}
		}
		det := complex(float64(l.Sign()), 0)
		for _, z := range l.Pivots() {
			det *= z
		}
		if d, e, err := solve.Det(l); d != det || e != 0 || err != api.OK {
			t.Errorf("Det of %s: %v, %d, %d, want %v", show(m), d, e, int(err), det)
		}
	}
	if seen < 150 || changed < 40 {
		t.Errorf("%d matrices, %d with rows that changed places", seen, changed)
	}
}

// P10.3: matrices that may not be, or have other rows than there are unknowns.
func TestManyShapes(t *testing.T) {
	numbers := near(66*66, 48, -1, 1)
	for _, n := range []int{0, 1, 2, 5, most} {
		l := made(t, identity(n))
		for rows := -1; rows <= 66; rows++ {
			for cols := -1; cols <= 66; cols++ {
				count := max(rows*cols, 0)
				m := api.Matrix{Rows: rows, Cols: cols, Data: slices.Clone(numbers[:count])}
				if rows == n && cols >= 0 && cols <= most {
					manyTells(t, l, m, m, api.OK)
					continue
				}
				manyRefuses(t, l, m, api.ErrShape)
				if count > 0 { // what is not finite is told behind it
					m.Data[count-1] = complex(nan, 0)
					manyRefuses(t, l, m, api.ErrShape)
				}
			}
		}
	}
	l := made(t, identity(2))
	for _, m := range []api.Matrix{
		{}, {Rows: 2, Cols: 2}, {Rows: 2, Cols: 2, Data: numbers[:3]}, {Rows: 2, Cols: 2, Data: numbers[:5]}, {Rows: 2, Cols: 0, Data: numbers[:1]}, {Rows: 2, Cols: 0, Data: []complex128{complex(nan, 0)}},
		{Rows: 2, Cols: -1}, {Rows: 2, Cols: 65}, {Rows: 2, Cols: 65, Data: numbers[:130]}, {Rows: -2, Cols: -1, Data: numbers[:2]}, {Rows: 2, Cols: math.MinInt}, {Rows: 2, Cols: math.MaxInt},
		{Rows: math.MaxInt, Cols: math.MaxInt}, {Rows: 2, Cols: math.MaxInt/2 + 1}, {Rows: 3, Cols: 0}, {Rows: 0, Cols: 2}, {Rows: 1, Cols: 2, Data: numbers[:2]}, {Rows: 4, Cols: 1, Data: numbers[:4]},
	} {
		manyRefuses(t, l, m, api.ErrShape)
	}
}

// P10.3: matrices without columns, or without rows, have nothing to be solved.
func TestManyOfNothing(t *testing.T) {
	for _, l := range lowers() {
		n := l.Size()
		for _, data := range [][]complex128{nil, {}, near(5, 1, 0, 0)[:0]} {
			manyTells(t, l, api.Matrix{Rows: n, Data: data}, api.Matrix{Rows: n}, api.OK)
		}
	}
	none := made(t, api.Matrix{})
	for cols := range most + 1 {
		manyTells(t, none, api.Matrix{Cols: cols}, api.Matrix{Cols: cols}, api.OK)
	}
	manyRefuses(t, none, api.Matrix{Cols: most + 1}, api.ErrShape)
	manyRefuses(t, none, api.Matrix{Cols: -1}, api.ErrShape)
}

// P10.3: a number that is not finite, at every place, ahead of a column ahead of it that is over.
func TestManyNotFinite(t *testing.T) {
	for _, shape := range [][2]int{{1, 1}, {1, 4}, {2, 3}, {3, 2}, {4, 1}} {
		rows, cols := shape[0], shape[1]
		plain, small := made(t, square(rows, near(rows*rows, 3, -1, 1)...)), made(t, diagonal(slices.Repeat([]complex128{0x1p-1000}, rows)...))
		for p := range rows * cols {
			for _, z := range unfinite() {
				m := api.Matrix{Rows: rows, Cols: cols, Data: near(rows*cols, uint64(p+1), 900, 1023)}
				manyRefuses(t, small, m, api.ErrOver)
				m.Data[p] = z
				manyRefuses(t, plain, m, api.ErrNumber)
				manyRefuses(t, small, m, api.ErrNumber)
			}
		}
	}
	m := api.Matrix{Rows: most, Cols: most, Data: make([]complex128, most*most)}
	m.Data[most*most-1] = complex(0, inf)
	manyRefuses(t, made(t, identity(most)), m, api.ErrNumber)
}

// P10.3: one column that is over is enough, wherever it stands, the last one too.
func TestManyOver(t *testing.T) {
	for _, shape := range [][2]int{{1, 1}, {1, most}, {2, 3}, {3, 5}, {most, 2}} {
		rows, cols := shape[0], shape[1]
		l := made(t, diagonal(slices.Repeat([]complex128{0x1p-1000}, rows)...))
		for j := range cols {
			for _, i := range []int{0, rows / 2, rows - 1} {
				m := api.Matrix{Rows: rows, Cols: cols, Data: near(rows*cols, 5, -3, 3)}
				m.Data[i*cols+j] = complex(0, 0x1p24)
				manyRefuses(t, l, m, api.ErrOver)
				m.Data[i*cols+j] = complex(0, 0x1p23)
				if x, e := solve.Many(l, m); e != api.OK || x.Data[i*cols+j] != complex(0, 0x1p1023) {
					t.Errorf("Many of %s: %s, %d", show(m), show(x), int(e))
				}
			}
		}
	}
}

// P10.3: column by column it is what Solve tells.
func TestManyIsSolve(t *testing.T) {
	kinds := map[api.Errno]int{}
	for i, l := range lowers() {
		n := l.Size()
		all := sides(n, uint64(i+1))
		for _, columns := range [][][]complex128{all[:1], all[1:6], all[4:5], all[2:9], all[7:], all} {
			m := api.Matrix{Rows: len(columns), Cols: n, Data: slices.Concat(columns...)}
			want, wantE := api.Matrix{Rows: len(columns), Cols: n}, api.OK
			for _, b := range columns {
				x, e := solved(l, b)
				want.Data, wantE = append(want.Data, x...), max(wantE, e)
			}
			if wantE == api.OK {
				want = transpose(want)
			} else {
				want = api.Matrix{}
			}
			kinds[wantE]++
			manyTells(t, l, transpose(m), want, wantE)
		}
	}
	if kinds[api.OK] < 500 || kinds[api.ErrOver] < 300 {
		t.Errorf("%v", kinds)
	}
}

// P10.5: the identity's columns.
func TestManyOfIdentity(t *testing.T) {
	seen := 0
	for _, l := range lowers() {
		n := l.Size()
		x, e := solve.Many(l, identity(n))
		for j := range n {
			column1, e1 := solve.Solve(l, column(identity(n), j))
			if e == api.OK && (e1 != api.OK || !alikeLists(column(x, j), column1)) {
				t.Errorf("column %d: %s, want %s, %d", j, list(column(x, j)), list(column1), int(e1))
			}
		}
		if e == api.OK {
			seen++
		}
	}
	if seen < 150 {
		t.Errorf("%d matrices", seen)
	}
}

// P10.4: one pivot is brought home, each part rounded once.
func TestDetOfOne(t *testing.T) {
	for _, c := range []struct {
		z, d complex128
		e    int
	}{
		{1, 1, 0}, {-1, -1, 0}, {complex(0, 1), complex(0, 1), 0}, {complex(0, -1), complex(0, -1), 0}, {3, 1.5, 1}, {complex(0, -6), complex(0, -1.5), 2}, {2, 1, 1}, {0.5, 1, -1}, {below2, below2, 0}, {0x1.fffffffffffffp-1, below2, -1},
		{complex(3, 4), complex(0.75, 1), 2}, {complex(4, 3), complex(1, 0.75), 2}, {complex(-4, 4), complex(-1, 1), 2}, {complex(-3, -5), complex(-0.75, -1.25), 2}, {complex(1, -2), complex(0.5, -1), 1}, {complex(-8, 1), complex(-1, 0.125), 3},
		{greatest, below2, 1023}, {complex(greatest, -greatest), complex(below2, -below2), 1023}, {complex(0, top), complex(0, 1), 1023},
		// Subnormal ones.
		{least, 1, -1074}, {-least, -1, -1074}, {complex(0, least), complex(0, 1), -1074}, {complex(least, -least), complex(1, -1), -1074}, {3 * least, 1.5, -1073}, {complex(3*least, least), complex(1.5, 0.5), -1073}, {complex(-least, 5*least), complex(-0.25, 1.25), -1072},
		{complex(0x1p-1022, least), complex(1, 0x1p-52), -1022}, {0x1p-1022 - least, 0x1.ffffffffffffep0, -1023}, {0x1p-1022, 1, -1022},
		// Powers that lie far apart: the lesser part is rounded, or nothing is left of it.
		{complex(0x1p1000, 0x1p-22), complex(1, 0x1p-1022), 1000}, {complex(0x1p1000, 0x1p-74), complex(1, least), 1000}, {complex(0x1p1000, 0x1.8p-75), complex(1, least), 1000}, {complex(0x1p1000, 0x1p-75), 1, 1000}, {complex(0x1p1000, 0x1.0000000000001p-75), complex(1, least), 1000}, {complex(0x1p1000, 0x1.fffffffffffffp-76), 1, 1000},
		{complex(0x1p1000, 0x1.8p-74), complex(1, 2*least), 1000}, {complex(0x1p1000, 0x1.4p-73), complex(1, 2*least), 1000}, {complex(0x1p1000, 0x1.cp-73), complex(1, 4*least), 1000}, {complex(0x1p1000, -0x1.8p-74), complex(1, -2*least), 1000}, {complex(0x1p1000, least), 1, 1000}, {complex(top, least), 1, 1023},
		{complex(0x1p-74, -0x1p1000), complex(least, -1), 1000}, {complex(0x1.8p-74, 0x1p1000), complex(2*least, 1), 1000}, {complex(0x1p-75, 0x1p1000), complex(0, 1), 1000}, {complex(-0x1p-75, 0x1p1000), complex(minus0, 1), 1000}, {complex(-0x1p-75, -0x1p1000), complex(0, -1), 1000}, {complex(least, -greatest), complex(0, -below2), 1023},
		{complex(1, least), complex(1, least), 0}, {complex(0.5, least), complex(1, 2*least), -1}, {complex(2, 0x1.8p-1073), complex(1, 2*least), 1}, {complex(2, least), 1, 1}, {complex(4, 3*least), complex(1, least), 2},
		// Noughts: what (1, 0) times the number says.
		{complex(1, minus0), 1, 0}, {complex(minus0, 1), complex(minus0, 1), 0}, {complex(minus0, -1), complex(0, -1), 0}, {complex(-1, minus0), complex(-1, minus0), 0}, {complex(-1, 0), complex(-1, 0), 0},
	} {
		detTells(t, made(t, square(1, c.z)), c.d, c.e)
	}
}

// P10.4: products, brought home once more.
func TestDetOfProducts(t *testing.T) {
	for _, c := range []struct {
		pivots []complex128
		d      complex128
		e      int
	}{
		{[]complex128{3, 3}, 1.125, 3}, {[]complex128{3, 3, 3}, 1.6875, 4}, {[]complex128{complex(1.5, 1.5), complex(1.5, 1.5)}, complex(0, 1.125), 2}, {[]complex128{complex(3, 1), complex(3, -1)}, 1.25, 3},
		{[]complex128{complex(1, 0.25), complex(1, 0.5)}, complex(1.75, 1.5), -1}, {[]complex128{complex(1, 0.25), complex(1, 0.5), complex(0, 2)}, complex(-1.5, 1.75), 0}, {[]complex128{complex(1, 1), complex(1, 1), complex(1, 1), complex(1, 1)}, -1, 2},
		// Too great or too small for a real.
		{[]complex128{0x1p900, 0x1p900, complex(0, 0x1p900)}, complex(0, 1), 2700}, {[]complex128{0x1p-900, 0x1p-900, -0x1p-900}, -1, -2700}, {[]complex128{top, least}, 1, -51}, {[]complex128{least, least, top, top, top}, 1, 3*1023 - 2*1074}, {slices.Repeat([]complex128{0x1p1000}, most), 1, 64000}, {slices.Repeat([]complex128{top}, most), 1, 64 * 1023}, {slices.Repeat([]complex128{least}, most), 1, -64 * 1074}, {slices.Repeat([]complex128{complex(0, -3*least)}, 2), -1.125, -2*1073 + 1},
	} {
		m := diagonal(c.pivots...)
		d, e, err := solve.Det(made(t, m))
		if err != api.OK || d != c.d || e != c.e {
			t.Errorf("Det of the pivots %s: %v, %d, %d, want %v, %d", list(c.pivots), d, e, int(err), c.d, c.e)
		}
	}
}

// P10.4: with the sign -1 both parts' signs are turned, a nought's too.
func TestDetSigns(t *testing.T) {
	for _, order := range someOrders() {
		n := len(order)
		m, want := square(n, make([]complex128, n*n)...), complex(1, 0)
		for k, row := range order {
			m.Data[row*n+k] = 2
		}
		for i := range order {
			for k := range i {
				if order[k] > order[i] {
					want = opposite(want)
				}
			}
		}
		l := made(t, m)
		if d, e, err := solve.Det(l); err != api.OK || d != want || e != n || l.Sign() != int(real(want)) {
			t.Errorf("order %v: %v, %d, %d", order, d, e, int(err))
		}
	}
	detTells(t, made(t, square(2, 0, 1, 1, 0)), complex(-1, minus0), 0)
	detTells(t, made(t, square(2, 1, 0, 0, 1)), 1, 0)
	detTells(t, made(t, square(2, 0, complex(0, 1), 1, 0)), complex(minus0, -1), 0)
}

// P10.4: of no unknowns.
func TestDetOfNone(t *testing.T) {
	detTells(t, made(t, api.Matrix{}), 1, 0)
	detTells(t, made(t, api.Matrix{Data: []complex128{}}), 1, 0)
}

// P10.4 to the bit, and P10.5: the greater part's size is from 1 on and below 2.
func TestDetAsTheChapterSays(t *testing.T) {
	all, signs := lowers(), map[int]int{}
	for i := range 400 {
		n, seed := 1+i%5, uint64(i+1)
		if i%100 == 99 {
			n = most
		}
		for _, l := range [][]complex128{near(n, seed, -1074, -1060), near(n, seed, -1074, 1023), near(n, seed, 1000, 1023), near(n, seed, -1, 1), near(n, seed, -60, 60), few(n, seed)} {
			if made, f := lower.Of(diagonal(l...)); f == (api.Fault{}) {
				all = append(all, made)
			}
		}
	}
	for _, l := range all {
		signs[l.Sign()]++
		d, e := determinant(l)
		detTells(t, l, d, e)
		d, _, _ = solve.Det(l)
		if g := max(math.Abs(real(d)), math.Abs(imag(d))); !(g >= 1 && g < 2) {
			t.Errorf("Det of the pivots %s: %v", list(l.Pivots()), d)
		}
	}
	if signs[1] < 1000 || signs[-1] < 100 {
		t.Errorf("signs: %v", signs)
	}
}

// byRows works a determinant out by a row's numbers times what is left without them: of whole numbers it is exact.
func byRows(m api.Matrix) complex128 {
	if m.Rows == 0 {
		return 1
	}
	var sum complex128
	for j := range m.Cols {
		rest := square(m.Rows - 1)
		for p, z := range m.Data[m.Cols:] {
			if p%m.Cols != j {
				rest.Data = append(rest.Data, z)
			}
		}
		sum += complex(float64(1-2*(j%2)), 0) * m.Data[j] * byRows(rest)
	}
	return sum
}

// P10.4: the determinant is about that.
func TestDetIsAbout(t *testing.T) {
	seen := 0
	for i := range 300 {
		n := i % 6
		m := square(n, few(n*n, uint64(i+1))...)
		l, f := lower.Of(m)
		if f != (api.Fault{}) {
			continue
		}
		seen++
		d, e, err := solve.Det(l)
		scale, want := math.Ldexp(1, e), byRows(m)
		rest := difference(want, product(d, complex(scale, 0)))
		if err != api.OK || math.Abs(real(rest))+math.Abs(imag(rest)) > 1e-9 {
			t.Errorf("Det of %s: %v, %d, %d, about %v", show(m), d, e, int(err), want)
		}
	}
	if seen < 200 {
		t.Errorf("%d matrices", seen)
	}
}

// P10.5, P3: the conjugates.
func TestConjugates(t *testing.T) {
	seen := 0
	for i, m := range matrices() {
		l, f := lower.Of(m)
		if f != (api.Fault{}) {
			continue
		}
		n := m.Rows
		turned := made(t, square(n, conjugates(m.Data)...))
		for _, b := range sides(n, uint64(i+1)) {
			for _, c := range calls() {
				x, e := c.ask(l, b)
				y, f := c.ask(turned, conjugates(b))
				if e != f || !slices.Equal(conjugates(x), y) {
					t.Errorf("%s of the conjugates of %s: %s, %d, want those of %s, %d", c.name, list(b), list(y), int(f), list(x), int(e))
				}
				if e == api.OK {
					seen++
				}
			}
			x, e := solve.Many(l, api.Matrix{Rows: n, Cols: 1, Data: b})
			y, f := solve.Many(turned, api.Matrix{Rows: n, Cols: 1, Data: conjugates(b)})
			if e != f || x.Rows != y.Rows || x.Cols != y.Cols || !slices.Equal(conjugates(x.Data), y.Data) {
				t.Errorf("Many of the conjugates of %s: %s, %d, want those of %s, %d", list(b), show(y), int(f), show(x), int(e))
			}
		}
		d, p, _ := solve.Det(l)
		if z, q, _ := solve.Det(turned); z != conjugate(d) || p != q {
			t.Errorf("Det of the conjugates: %v, %d, want that of %v, %d", z, q, d, p)
		}
	}
	if seen < 3000 {
		t.Errorf("%d right sides", seen)
	}
}

// P3: a right side times a power of two, far from the reals' ends.
func TestPowersOfTwo(t *testing.T) {
	for i := range 60 {
		n, seed := 1+i%12, uint64(i+1)
		l, f := lower.Of(square(n, near(n*n, seed, -8, 8)...))
		if f != (api.Fault{}) {
			continue
		}
		b := near(n, seed+99, -8, 8)
		for _, power := range []int{-400, -53, -1, 1, 2, 60, 400} {
			much := complex(math.Ldexp(1, power), 0)
			var scaled []complex128
			for _, z := range b {
				scaled = append(scaled, product(z, much))
			}
			for _, c := range calls() {
				x, e := c.ask(l, b)
				y, f := c.ask(l, scaled)
				if e != api.OK || f != api.OK || len(x) != n || len(y) != n {
					t.Fatalf("%d, %d", int(e), int(f))
				}
				for k, z := range x {
					if y[k] != product(z, much) {
						t.Errorf("%s times 2^%d: %v, want %v", c.name, power, y[k], product(z, much))
					}
				}
			}
		}
	}
}

// P10.5: right sides of noughts alone, of either sign.
func TestNoughtsAlone(t *testing.T) {
	for _, l := range lowers() {
		n := l.Size()
		for turn := range noughts() {
			var b []complex128
			for i := range n {
				b = append(b, noughts()[(i*turn+turn)%4])
			}
			for _, c := range calls() {
				if x, e := c.ask(l, b); e != api.OK || !slices.Equal(x, make([]complex128, n)) {
					t.Errorf("%s of %s: %s, %d", c.name, list(b), list(x), int(e))
				}
			}
			if x, e := solve.Many(l, api.Matrix{Rows: n, Cols: 1, Data: b}); e != api.OK || !slices.Equal(x.Data, make([]complex128, n)) {
				t.Errorf("Many of %s: %s, %d", list(b), show(x), int(e))
			}
		}
	}
}

// P10.5: with no unknowns all answers are empty.
func TestNoUnknowns(t *testing.T) {
	none := made(t, api.Matrix{})
	for _, b := range [][]complex128{nil, {}, near(5, 1, 0, 0)[:0]} {
		for _, c := range calls() {
			c.tells(t, none, b, nil, api.OK)
		}
		manyTells(t, none, api.Matrix{Data: b}, api.Matrix{}, api.OK)
	}
	for _, c := range calls() {
		c.refuses(t, none, []complex128{0}, api.ErrShape)
		c.refuses(t, none, []complex128{complex(nan, 0)}, api.ErrShape)
	}
}

// kept is what a Lower tells.
type kept struct {
	order []int
	sign  int
	l, u  api.Matrix
}

func keptBy(l *lower.Lower) kept {
	return kept{l.Order(), l.Sign(), l.L(), l.U()}
}

func alikeKept(a, b kept) bool {
	return slices.Equal(a.order, b.order) && a.sign == b.sign && alikeMatrices(a.l, b.l) && alikeMatrices(a.u, b.u)
}

// Rule 3: what is handed in stays as it was, what stands ahead of it and in its spare room too; the Lower too.
func TestWhatIsHandedInIsNotChanged(t *testing.T) {
	for i, l := range lowers() {
		n, before := l.Size(), keptBy(l)
		for _, b := range sides(n, uint64(i+1)) {
			whole := slices.Concat([]complex128{7, complex(8, nan)}, b, b, []complex128{9, complex(inf, minus0), 10})
			was := slices.Clone(whole)
			for _, c := range calls() {
				c.ask(l, whole[2:n+2])
			}
			solve.Many(l, api.Matrix{Rows: n, Cols: 1, Data: whole[2 : n+2]})
			solve.Many(l, api.Matrix{Rows: n, Cols: 2, Data: whole[2 : 2*n+2]})
			solve.Det(l)
			if !alikeLists(whole, was) {
				t.Errorf("what was handed in is %s, was %s", list(whole), list(was))
			}
		}
		if !alikeKept(keptBy(l), before) {
			t.Errorf("the Lower of %s was changed", show(before.u))
		}
	}
}

// fill puts other numbers into a list and its spare room.
func fill(l []complex128) {
	l = l[:cap(l)]
	for i := range l {
		l[i] = complex(nan, 77)
	}
}

// Rule 3: each answer is new memory, its spare room too: not the right side's, not the Lower's, not another answer's.
func TestWhatIsHandedBackIsNew(t *testing.T) {
	for i, l := range lowers() {
		n, before := l.Size(), keptBy(l)
		for _, b := range sides(n, uint64(i+1)) {
			asks := []func() []complex128{
				func() []complex128 { x, _ := solve.Solve(l, b); return x },
				func() []complex128 { x, _ := solve.Transposed(l, b); return x },
				func() []complex128 { x, _ := solve.Many(l, api.Matrix{Rows: n, Cols: 1, Data: b}); return x.Data },
				func() []complex128 {
					x, _ := solve.Many(l, api.Matrix{Rows: n, Cols: 2, Data: slices.Concat(b, b)})
					return x.Data
				},
			}
			was := slices.Clone(b)
			for _, ask := range asks {
				first, second := ask(), ask()
				want := slices.Clone(first)
				fill(first)
				if !alikeLists(second, want) || !alikeLists(ask(), want) || !alikeLists(b, was) {
					t.Errorf("an answer to %s shares memory", list(b))
				}
				fill(b) // nor is what was handed in looked at later
				if !alikeLists(second, want) {
					t.Errorf("an answer to %s is its memory", list(was))
				}
				copy(b, was)
			}
		}
		if !alikeKept(keptBy(l), before) {
			t.Errorf("an answer is the memory of the Lower of %s", show(before.u))
		}
	}
}

// P1: what is told depends on what is handed in alone, and nothing panics.
func TestCalm(t *testing.T) {
	strange := slices.Concat(unfinite(), noughts(), units(), []complex128{least, greatest, complex(-greatest, greatest), complex(0, top)})
	all := append(lowers(), nil, &lower.Lower{})
	for i, l := range all {
		n := 0
		if l != nil {
			n = l.Size()
		}
		var b []complex128
		for _, bits := range scatter(n, uint64(i+1)) {
			b = append(b, strange[int(bits>>33)%len(strange)])
		}
		for _, c := range calls() {
			x, e := c.ask(l, b)
			c.tells(t, l, b, x, e)
		}
		m := api.Matrix{Rows: n, Cols: 1, Data: b}
		x, e := solve.Many(l, m)
		manyTells(t, l, m, x, e)
		d, p, err := solve.Det(l)
		if z, q, again := solve.Det(l); !alike(d, z) || p != q || err != again {
			t.Errorf("Det: %v, %d, %d, then %v, %d, %d", d, p, int(err), z, q, int(again))
		}
	}
}
