package pivot_test

import (
	"fmt"
	"math"
	"slices"
	"testing"

	"gridwork/api"
	"gridwork/pivot"
)

const (
	least    = 0x1p-1074
	greatest = math.MaxFloat64
	most     = 64 // numbers of a column or an order, rows or columns of a matrix
)

var (
	inf     = math.Inf(1)
	nan     = math.NaN()
	minus0  = math.Copysign(0, -1)
	loudNaN = math.Float64frombits(0xfff0000000000001)
)

// The operations, each in a function of its own that is laid into none: nothing can be joined there. What a call tells is held against them.

//go:noinline
func plus(a, b float64) float64 { return a + b }

//go:noinline
func over(a, b float64) float64 { return a / b }

func weight(z complex128) float64 {
	return plus(math.Abs(real(z)), math.Abs(imag(z)))
}

func conjugate(z complex128) complex128 {
	return complex(real(z), math.Float64frombits(math.Float64bits(imag(z))^1<<63))
}

func finiteReal(x float64) bool {
	return !math.IsNaN(x) && !math.IsInf(x, 0)
}

func finite(l []complex128) bool {
	return !slices.ContainsFunc(l, func(z complex128) bool { return !finiteReal(real(z)) || !finiteReal(imag(z)) })
}

// alike is the document's 'the same', worked out without the packages that are tested.
func alike(a, b float64) bool {
	if math.IsNaN(a) || math.IsNaN(b) {
		return math.IsNaN(a) && math.IsNaN(b)
	}
	return math.Float64bits(a) == math.Float64bits(b)
}

// alikeLists holds lists against each other by their bits, NaN's too: so a change is seen.
func alikeLists(a, b []complex128) bool {
	return slices.EqualFunc(a, b, func(x, y complex128) bool {
		return math.Float64bits(real(x)) == math.Float64bits(real(y)) && math.Float64bits(imag(x)) == math.Float64bits(imag(y))
	})
}

// of is a matrix of the numbers that are told, row by row.
func of(rows, cols int, l ...complex128) api.Matrix {
	return api.Matrix{Rows: rows, Cols: cols, Data: l}
}

// one is a matrix of one number.
func one(z complex128) api.Matrix { return of(1, 1, z) }

// show tells a list, or of a long one the length alone.
func show[T any](l []T) string {
	if len(l) > 16 {
		return fmt.Sprintf("%d numbers", len(l))
	}
	return fmt.Sprint(l)
}

// showMatrix tells a matrix, or of a great one the shape alone.
func showMatrix(m api.Matrix) string {
	return fmt.Sprintf("%d by %d, %s", m.Rows, m.Cols, show(m.Data))
}

// scatter gives whole numbers of 64 bits, always the same ones.
func scatter(n int, seed uint64) []uint64 {
	var all []uint64
	for range n {
		seed ^= seed << 13
		seed ^= seed >> 7
		seed ^= seed << 17
		all = append(all, seed)
	}
	return all
}

// near gives finite numbers whose parts' powers of two lie from low to high, always the same ones.
func near(n int, seed uint64, low, high int) []complex128 {
	part := func(bits uint64) float64 {
		power := low + int(bits>>52&0x7ff)%(high-low+1)
		x := math.Ldexp(1+float64(bits&(1<<52-1))*0x1p-52, power)
		if bits>>63 != 0 {
			return -x
		}
		return x
	}
	var all []complex128
	bits := scatter(2*n, seed)
	for i := range n {
		all = append(all, complex(part(bits[2*i]), part(bits[2*i+1])))
	}
	return all
}

// few gives numbers whose parts are whole and small, so that many weights are equal and some numbers are 0.
func few(n int, seed uint64) []complex128 {
	var all []complex128
	for _, bits := range scatter(n, seed) {
		re, im := float64(bits>>20%5), float64(bits>>40%3)
		all = append(all, complex(math.Copysign(re, float64(bits>>50&1)-0.5), math.Copysign(im, float64(bits>>51&1)-0.5)))
	}
	return all
}

// edges are all numbers whose parts are reals at which something begins or ends, NaN among them.
func edges() []complex128 {
	sides := []float64{nan, loudNaN}
	for _, x := range []float64{0, least, 1, 0x1p1023, greatest, inf} {
		sides = append(sides, x, -x)
	}
	var all []complex128
	for _, re := range sides {
		for _, im := range sides {
			all = append(all, complex(re, im))
		}
	}
	return all
}

// noughts are the numbers that are equal to 0.
func noughts() []complex128 {
	return []complex128{0, complex(minus0, 0), complex(0, minus0), complex(minus0, minus0)}
}

// columns have no number, one edge, two, or one among others; numbers near each other, of equal weights, or whose weights leave the reals' range; noughts alone; and such of 64 numbers.
func columns() [][]complex128 {
	all := [][]complex128{nil, {}, noughts(), make([]complex128, most), near(most, 1, -1, 1), near(most, 2, 1022, 1023), few(most, 3)}
	for i, z := range edges() {
		all = append(all, []complex128{z}, []complex128{1, z, complex(0, -2), 0}, []complex128{z, complex(minus0, 0), z})
		all = append(all, []complex128{z, edges()[(i*37+11)%len(edges())], edges()[(i*53+29)%len(edges())]})
		long := few(most, uint64(i+1))
		long[i%most] = z
		all = append(all, long)
	}
	for i := range 30 {
		seed, n := uint64(i+1), 2+i%9
		all = append(all, few(n, seed), near(n, seed, 0, 0), near(n, seed, -30, 30), near(n, seed, -1074, -1060), near(n, seed, 1021, 1023))
	}
	return all
}

// none are matrices that may not be, each by one fault alone where that can be.
func none() []api.Matrix {
	numbers := near(70*70, 47, -1, 1)
	numbers[0] = complex(nan, inf) // the shape is told ahead of it
	all := []api.Matrix{
		{Rows: 2, Cols: 2, Data: numbers[:3]}, {Rows: 2, Cols: 2, Data: numbers[:5]}, {Rows: 2, Cols: 2}, {Rows: 2, Cols: 2, Data: []complex128{}},
		{Rows: 2, Cols: 3, Data: numbers[:5]}, {Rows: 2, Cols: 3, Data: numbers[1:8]}, {Rows: 1, Cols: 1}, {Rows: 1, Cols: 1, Data: numbers[1:3]},
		{Rows: 2, Cols: 2, Data: numbers[:3:4]}, {Rows: 3, Cols: 2, Data: numbers[1:6]}, {Rows: 3, Cols: 2, Data: numbers[:9]},
		{Rows: most, Cols: most, Data: numbers[:most*most-1]}, {Rows: most, Cols: most, Data: numbers[:most*most+1]}, {Rows: most, Cols: most},
		{Rows: 0, Cols: 0, Data: numbers[:1]}, {Rows: 0, Cols: 0, Data: numbers[1:2]}, {Rows: 0, Cols: 3, Data: numbers[:3]}, {Rows: 3, Cols: 0, Data: numbers[1:4]}, {Rows: 0, Cols: most, Data: numbers[:1]}, {Rows: most, Data: numbers[:1]},
		{Rows: most + 1, Cols: 1, Data: numbers[:most+1]}, {Rows: 1, Cols: most + 1, Data: numbers[1 : most+2]},
		{Rows: most + 1, Cols: most, Data: numbers[:most*(most+1)]}, {Rows: most, Cols: most + 1, Data: numbers[:most*(most+1)]},
		{Rows: most + 1, Cols: most + 1, Data: numbers[:(most+1)*(most+1)]},
		{Rows: most + 1}, {Cols: most + 1}, {Rows: most + 1, Data: []complex128{}}, {Rows: math.MaxInt}, {Cols: math.MaxInt},
		{Rows: -1}, {Cols: -1}, {Rows: math.MinInt}, {Cols: math.MinInt}, {Rows: -1, Cols: 1}, {Rows: 1, Cols: -1}, {Rows: -1, Cols: 1, Data: numbers[:1]},
		// Twice below 0, or wrapped round, the product would fit.
		{Rows: -1, Cols: -1, Data: numbers[1:2]}, {Rows: -2, Cols: -3, Data: numbers[1:7]}, {Rows: math.MinInt, Cols: math.MinInt}, {Rows: math.MinInt, Cols: 2}, {Rows: 2, Cols: math.MinInt},
		{Rows: math.MaxInt, Cols: math.MaxInt, Data: numbers[1:2]},
	}
	if math.MaxInt > math.MaxInt32 {
		half := math.MaxInt/2 + 1 // 2^62
		all = append(all, api.Matrix{Rows: half, Cols: 4}, api.Matrix{Rows: 4, Cols: half}, api.Matrix{Rows: half, Cols: half})
	}
	return all
}

// matrices are those that may be: without numbers, of every column's numbers in a row or a column, oblong ones, and of 64 rows and columns.
func matrices() []api.Matrix {
	all := []api.Matrix{{}, {Data: []complex128{}}, {Rows: 1}, {Cols: 1}, {Rows: 3, Data: []complex128{}}, {Cols: 3}, {Rows: most}, {Cols: most}}
	for i, l := range columns() {
		switch n := len(l); {
		case n%2 == 0 && i%3 == 0:
			all = append(all, of(2, n/2, l...))
		case i%3 == 1:
			all = append(all, of(n, 1, l...))
		default:
			all = append(all, of(1, n, l...))
		}
	}
	return append(all, of(most, most, near(most*most, 41, -3, 3)...), of(most, most, make([]complex128, most*most)...), of(most, most, near(most*most, 42, 1022, 1023)...))
}

// rising is the order 0, 1, 2 and so on.
func rising(n int) []int {
	l := make([]int, n)
	for i := range l {
		l[i] = i
	}
	return l
}

// orders of n: all of them.
func orders(n int) [][]int {
	if n == 0 {
		return [][]int{{}}
	}
	var all [][]int
	for _, l := range orders(n - 1) {
		for at := range n {
			all = append(all, slices.Insert(slices.Clone(l), at, n-1))
		}
	}
	return all
}

// mixed gives an order of n, always the same one for a seed.
func mixed(n int, seed uint64) []int {
	l := rising(n)
	for i, bits := range scatter(n, seed) {
		k := int(bits >> 33 % uint64(n))
		l[i], l[k] = l[k], l[i]
	}
	return l
}

// someOrders are all short ones and some longer ones.
func someOrders() [][]int {
	all := [][]int{nil}
	for n := range 6 {
		all = append(all, orders(n)...)
	}
	for i := range 40 {
		all = append(all, mixed(7+i, uint64(i+1)))
	}
	down := rising(most)
	slices.Reverse(down)
	return append(all, rising(most), down, mixed(most, 91), mixed(most, 92), mixed(most-1, 93))
}

// noOrders are lists of at most 64 numbers that are no orders.
func noOrders() [][]int {
	all := [][]int{{1}, {-1}, {2}, {math.MinInt}, {math.MaxInt}, {0, 0}, {1, 1}, {1, 2}, {-1, 0}, {0, -1}, {0, 2}, {2, 0}, {0, 1, 1}, {1, 1, 0}, {0, 1, 3}, {1, 2, 3}, {3, 2, 1}, {0, -1, 1}, {0, 0, 0}, {2, 2, 2}, {-1, -2, -3}, {0, math.MinInt}, {math.MaxInt, 0}, {0, most}, {0, 1, most - 1}, make([]int, most)}
	for _, n := range []int{3, 5, most - 1, most} {
		for _, at := range []int{0, 1, n / 2, n - 2, n - 1} {
			for _, k := range []int{-1, n, n + 1, most, -n, (at + 1) % n, (at + n - 1) % n, math.MinInt, math.MaxInt} {
				l := mixed(n, uint64(n+at))
				if k >= 0 && k < n {
					k = l[k] // what stands at another place: it stands twice then
				}
				l[at] = k
				all = append(all, l)
			}
		}
	}
	return all
}

// longLists have more than 64 numbers: orders but for that, and none.
func longLists() [][]int {
	all := [][]int{make([]int, most+1), rising(most + 1), rising(most + 2), mixed(most+1, 5), rising(1000), make([]int, 1<<16)}
	bad := rising(most + 1)
	bad[0], bad[most] = -1, math.MaxInt
	return append(all, bad)
}

// places are numbers among which are all of n and such as are none of them.
func places(n int) []int {
	all := []int{math.MinInt, math.MinInt + 1, math.MaxInt, math.MaxInt - 1, -most, -2, n + 1, most, most + 1, 1 << 30}
	for i := -1; i <= n; i++ {
		all = append(all, i)
	}
	return all
}

// The chapter's examples.
func TestExamples(t *testing.T) {
	col := []complex128{1, complex(-3, 1), complex(0, 4)}
	for _, c := range []struct {
		col  []complex128
		from int
		want int
		e    api.Errno
	}{
		{col, 0, 1, api.OK}, {col, 2, 2, api.OK}, {col, 3, 0, api.ErrArg},
		{[]complex128{0, complex(minus0, 0)}, 0, 0, api.ErrSingular},
		{[]complex128{complex(nan, 0), 1}, 1, 1, api.OK}, {[]complex128{complex(nan, 0), 1}, 0, 0, api.ErrNumber},
		{[]complex128{complex(1.5e308, 1.5e308), complex(1.6e308, 1.6e308)}, 0, 0, api.OK},
	} {
		if got, e := pivot.Choose(c.col, c.from); got != c.want || e != c.e {
			t.Errorf("Choose of %v from %d: %d, %d, want %d, %d", c.col, c.from, got, e, c.want, c.e)
		}
	}
	for _, c := range []struct {
		order []int
		want  int
		e     api.Errno
	}{
		{[]int{0, 1, 2}, 1, api.OK}, {[]int{1, 0, 2}, -1, api.OK}, {[]int{1, 2, 0}, 1, api.OK}, {nil, 1, api.OK}, {[]int{0, 0}, 0, api.ErrArg}, {[]int{1, 2}, 0, api.ErrArg},
	} {
		if got, e := pivot.Parity(c.order); got != c.want || e != c.e {
			t.Errorf("Parity of %v: %d, %d, want %d, %d", c.order, got, e, c.want, c.e)
		}
	}
	if got, e := pivot.Swapped([]int{1, 0, 2}, 0, 1); e != api.OK || !slices.Equal(got, []int{0, 1, 2}) {
		t.Errorf("Swapped with 0, 1: %v, %d", got, e)
	}
	if got, e := pivot.Swapped([]int{1, 0, 2}, 0, 3); e != api.ErrArg || len(got) != 0 {
		t.Errorf("Swapped with 0, 3: %v, %d", got, e)
	}
	if got, e := pivot.Growth(one(2), one(complex(1, -5))); e != api.OK || got != 3 {
		t.Errorf("Growth: %v, %d", got, e)
	}
	for _, b := range []api.Matrix{one(0), one(7), {}, of(2, 1, 1, complex(greatest, greatest))} {
		if got, e := pivot.Growth(one(0), b); e != api.ErrSingular || !alike(got, 0) {
			t.Errorf("Growth of 0 and %s: %v, %d", showMatrix(b), got, e)
		}
	}
}

func TestNumbersOfErrors(t *testing.T) {
	got := []api.Errno{api.ErrArg, api.ErrLong, api.ErrShape, api.ErrNumber, api.ErrOver, api.ErrSingular}
	if !slices.Equal(got, []api.Errno{2, 3, 4, 5, 6, 7}) || api.MaxOrder != most {
		t.Errorf("the errors' numbers %v, the limit %d", got, api.MaxOrder)
	}
}

// P8.1

// chosen is the chapter's Choose, one refusal after the other.
func chosen(col []complex128, from int) (int, api.Errno) {
	if len(col) > most {
		return 0, api.ErrLong
	}
	if from < 0 || from > len(col)-1 {
		return 0, api.ErrArg
	}
	if !finite(col[from:]) {
		return 0, api.ErrNumber
	}
	if !slices.ContainsFunc(col[from:], func(z complex128) bool { return z != 0 }) {
		return 0, api.ErrSingular
	}
	var weights []float64
	for _, z := range col[from:] {
		weights = append(weights, weight(z))
	}
	return from + slices.Index(weights, slices.Max(weights)), api.OK
}

func TestChooseByWeight(t *testing.T) {
	for _, c := range []struct {
		col  []complex128
		want int
	}{
		{[]complex128{5}, 0}, {[]complex128{1, 2, 3}, 2}, {[]complex128{1, 3, 2}, 1}, {[]complex128{3, 1, 2}, 0},
		// By the sum of the sizes: not by the absolute value, the greater part, the square, re alone or the sign.
		{[]complex128{6, complex(4, -3)}, 1}, {[]complex128{complex(4, 0), complex(3, 3)}, 1}, {[]complex128{9, complex(0, -10)}, 1}, {[]complex128{1, -2}, 1}, {[]complex128{complex(2, -2), 3}, 0},
		{[]complex128{complex(0x1p-600, 0), complex(0x1p-599, 0)}, 1}, {[]complex128{complex(0x1p600, 0), complex(0, 0x1p601)}, 1},
		// Of equal weights the first, whatever the parts are.
		{[]complex128{complex(3, 4), 7, complex(0, -7), complex(-4, -3)}, 0}, {[]complex128{1, complex(0, -7), 7, complex(3, -4)}, 1},
		{[]complex128{1, complex(1, 0x1p-53)}, 0}, {[]complex128{1, complex(1, 0x1p-52)}, 1}, {[]complex128{complex(1, 0x1p-53), 1}, 0}, // a weight is rounded
		// Least and greatest ones, and +Inf, which is no error and greater than all others.
		{[]complex128{0, complex(0, -least), complex(least, 0)}, 1}, {[]complex128{complex(least, 0), complex(least, -least)}, 1},
		{[]complex128{complex(greatest, 0), complex(0x1p1023, 0x1p1023), complex(greatest, greatest)}, 1}, {[]complex128{complex(0, -greatest), complex(greatest, 0)}, 0},
		{[]complex128{1, complex(-greatest, greatest), complex(greatest, 0)}, 1}, {[]complex128{complex(greatest, 0x1p969), complex(greatest, 0x1p970)}, 1}, {[]complex128{complex(greatest, 0x1p970), complex(greatest, greatest)}, 0},
		// Noughts ahead and behind.
		{append(noughts(), 1), 4}, {append([]complex128{1i}, noughts()...), 0}, {append(append(noughts(), complex(minus0, least)), noughts()...), 4},
	} {
		if got, e := pivot.Choose(c.col, 0); got != c.want || e != api.OK {
			t.Errorf("Choose of %v: %d, %d, want %d", c.col, got, e, c.want)
		}
	}
}

func TestChooseFromEveryPlace(t *testing.T) {
	told := map[api.Errno]int{}
	for _, col := range columns() {
		for _, from := range places(len(col)) {
			want, e := chosen(col, from)
			told[e]++
			if got, f := pivot.Choose(col, from); got != want || f != e {
				t.Errorf("Choose of %s from %d: %d, %d, want %d, %d", show(col), from, got, f, want, e)
			}
		}
	}
	for _, e := range []api.Errno{api.OK, api.ErrArg, api.ErrNumber, api.ErrSingular} {
		if told[e] < 10 {
			t.Errorf("the error %d came but %d times", e, told[e])
		}
	}
}

func TestChooseAtTheLimit(t *testing.T) {
	for at := range most {
		col := few(most, 7)
		col[at] = complex(-9, 9)
		for from := range most {
			want, _ := chosen(col, from)
			if from <= at && want != at {
				t.Fatalf("%d is not the greatest from %d on", at, from)
			}
			if got, e := pivot.Choose(col, from); got != want || e != api.OK {
				t.Errorf("Choose of 64 numbers from %d: %d, %d, want %d", from, got, e, want)
			}
		}
	}
	for _, col := range [][]complex128{near(most+1, 8, -1, 1), make([]complex128, most+1), make([]complex128, most+2), {most: complex(nan, inf)}, make([]complex128, api.MaxVector+1)} {
		// Too long is told first: ahead of a from that is none, of what is not finite, of noughts alone.
		for _, from := range append(places(3), most-1, most+2, api.MaxVector) {
			if got, e := pivot.Choose(col, from); got != 0 || e != api.ErrLong {
				t.Errorf("Choose of %d numbers from %d: %d, %d", len(col), from, got, e)
			}
		}
	}
}

func TestChooseFromNoPlace(t *testing.T) {
	for _, col := range [][]complex128{nil, {}, {1}, {complex(nan, 0)}, {0, 0}, {complex(inf, 0), 1, 2}, near(most, 9, -1, 1), near(5, 9, -1, 1)[:2]} {
		for _, from := range []int{-1, -2, -most, len(col), len(col) + 1, most, most + 1, math.MinInt, math.MaxInt} {
			if from >= 0 && from < len(col) {
				continue
			}
			if got, e := pivot.Choose(col, from); got != 0 || e != api.ErrArg {
				t.Errorf("Choose of %s from %d: %d, %d", show(col), from, got, e)
			}
		}
	}
}

// What is not finite is refused from the place from on, wherever it stands there, and ahead of noughts; ahead of from nothing is looked at.
func TestChooseOfWhatIsNotFinite(t *testing.T) {
	for _, bad := range []complex128{complex(nan, 0), complex(0, nan), complex(loudNaN, 1), complex(1, loudNaN), complex(inf, 0), complex(0, inf), complex(-inf, 0), complex(5, -inf), complex(nan, inf)} {
		for _, n := range []int{1, 2, 5, most} {
			for at := range n {
				for _, col := range [][]complex128{near(n, 10, -1, 1), make([]complex128, n)} {
					col[at] = bad
					for from := range n {
						got, e := pivot.Choose(col, from)
						if from <= at && (got != 0 || e != api.ErrNumber) {
							t.Errorf("Choose of %s from %d, %v at %d: %d, %d", show(col), from, bad, at, got, e)
						}
						if want, f := pivot.Choose(col[from:], 0); from > at && (e != f || e == api.ErrNumber || e == api.OK && got != from+want) {
							t.Errorf("Choose of %s from %d, %v at %d: %d, %d, without it %d, %d", show(col), from, bad, at, got, e, want, f)
						}
					}
				}
			}
		}
	}
}

func TestChooseOfNoughts(t *testing.T) {
	for n := 1; n <= most; n++ {
		col := make([]complex128, n)
		for i := range col {
			col[i] = noughts()[(i+n)%4]
		}
		for from := range n {
			if got, e := pivot.Choose(col, from); got != 0 || e != api.ErrSingular {
				t.Errorf("Choose of %d noughts from %d: %d, %d", n, from, got, e)
			}
		}
	}
	for _, ahead := range []complex128{1, complex(greatest, greatest), complex(nan, 0), complex(-inf, 0)} {
		if got, e := pivot.Choose(append([]complex128{ahead}, noughts()...), 1); got != 0 || e != api.ErrSingular {
			t.Errorf("Choose of noughts behind %v: %d, %d", ahead, got, e)
		}
	}
}

// P8.2

// heaviest is the chapter's Greatest, of a matrix that may be.
func heaviest(m api.Matrix) (float64, api.Errno) {
	if !finite(m.Data) {
		return 0, api.ErrNumber
	}
	top := 0.0
	for _, z := range m.Data {
		top = math.Max(top, weight(z))
	}
	return top, api.OK
}

func TestGreatest(t *testing.T) {
	for _, c := range []struct {
		m    api.Matrix
		want float64
	}{
		{api.Matrix{}, 0}, {api.Matrix{Data: []complex128{}}, 0}, {api.Matrix{Rows: most}, 0}, {api.Matrix{Cols: most}, 0}, {api.Matrix{Rows: 1}, 0}, {of(2, 2, noughts()...), 0}, {one(complex(minus0, minus0)), 0},
		{one(complex(3, -4)), 7}, {one(-5), 5}, {of(2, 2, 1, 2, complex(-3, 1), 0), 4}, {of(1, 3, complex(0, -9), 1, 2), 9}, {of(3, 1, 1, 2, complex(0, 9)), 9}, {of(2, 3, 1, 1, 1, 1, 1, complex(2, -2)), 4},
		{of(2, 2, 6, complex(4, 3), complex(-3, 3), complex(0, 6)), 7}, // the greatest of all, not of a column's or a row's sum
		{one(complex(1, 0x1p-53)), 1}, {one(complex(0.1, 0.2)), 0.30000000000000004}, {one(complex(least, least)), 2 * least}, {of(1, 2, 0, complex(0, -least)), least},
		{one(complex(greatest, 0)), greatest}, {one(complex(0x1p1023, 0x1p1023)), inf}, {of(1, 3, 1, complex(-greatest, -greatest), 2), inf}, {one(complex(greatest, 0x1p969)), greatest},
	} {
		if got, e := pivot.Greatest(c.m); e != api.OK || !alike(got, c.want) {
			t.Errorf("Greatest of %s: %v, %d, want %v", showMatrix(c.m), got, e, c.want)
		}
	}
	for _, m := range matrices() {
		want, e := heaviest(m)
		if got, f := pivot.Greatest(m); f != e || !alike(got, want) {
			t.Errorf("Greatest of %s: %v, %d, want %v, %d", showMatrix(m), got, f, want, e)
		}
	}
}

func TestGreatestAtEveryPlace(t *testing.T) {
	for _, shape := range [][2]int{{1, 1}, {2, 3}, {3, 2}, {1, most}, {most, 1}, {most, most}} {
		n := shape[0] * shape[1]
		m := of(shape[0], shape[1], few(n, 12)...)
		for at, kept := range slices.Clone(m.Data) {
			m.Data[at] = complex(-10, 0.5)
			if got, e := pivot.Greatest(m); e != api.OK || got != 10.5 {
				t.Errorf("Greatest of %s, at %d: %v, %d", showMatrix(m), at, got, e)
			}
			m.Data[at] = []complex128{complex(nan, 0), complex(0, nan), complex(-inf, 0), complex(1, inf)}[at%4]
			if got, e := pivot.Greatest(m); e != api.ErrNumber || !alike(got, 0) {
				t.Errorf("Greatest of %s, not finite at %d: %v, %d", showMatrix(m), at, got, e)
			}
			m.Data[at] = kept
		}
	}
}

func TestGreatestOfNone(t *testing.T) {
	for _, bad := range none() {
		if got, e := pivot.Greatest(bad); e != api.ErrShape || !alike(got, 0) {
			t.Errorf("Greatest of %d rows, %d columns, %d numbers: %v, %d", bad.Rows, bad.Cols, len(bad.Data), got, e)
		}
	}
}

func TestGreatestOfEveryShape(t *testing.T) {
	numbers := make([]complex128, (most+2)*(most+2)+1)
	for i := range numbers {
		numbers[i] = 1
	}
	for rows := -2; rows <= most+2; rows++ {
		for cols := -2; cols <= most+2; cols++ {
			for _, n := range []int{rows*cols - 1, rows * cols, rows*cols + 1} {
				if n < 0 {
					continue
				}
				want, weight := api.ErrShape, 0.0
				if rows >= 0 && rows <= most && cols >= 0 && cols <= most && n == rows*cols {
					want, weight = api.OK, float64(min(n, 1))
				}
				if got, e := pivot.Greatest(api.Matrix{Rows: rows, Cols: cols, Data: numbers[:n]}); e != want || got != weight {
					t.Errorf("Greatest of %d rows, %d columns, %d numbers: %v, %d", rows, cols, n, got, e)
				}
			}
		}
	}
}

// P8.3

// grown is the chapter's Growth, of matrices that may be.
func grown(a, b api.Matrix) (float64, api.Errno) {
	x, e := heaviest(a)
	if e != api.OK {
		return 0, e
	}
	y, e := heaviest(b)
	if e != api.OK {
		return 0, e
	}
	if x == 0 {
		return 0, api.ErrSingular
	}
	if !finiteReal(over(y, x)) {
		return 0, api.ErrOver
	}
	return over(y, x), api.OK
}

func TestGrowth(t *testing.T) {
	huge := one(complex(greatest, -greatest))
	for _, c := range []struct {
		a, b api.Matrix
		want float64
		e    api.Errno
	}{
		{one(2), one(6), 3, api.OK}, {one(6), one(2), over(2, 6), api.OK}, {of(1, 2, 3, complex(-5, 5)), of(2, 1, complex(0, 1), 1), 0.1, api.OK}, {one(1), of(2, 2, 1, 2, 3, 4i), 4, api.OK},
		// Shapes may differ; b may be nought or without numbers.
		{one(4), api.Matrix{}, 0, api.OK}, {one(-4), one(complex(minus0, 0)), 0, api.OK}, {of(most, 1, near(most, 13, 0, 0)...), api.Matrix{Rows: 3}, 0, api.OK},
		// a's greatest weight is 0: also of no numbers, and ahead of what the quotient would be.
		{one(0), one(1), 0, api.ErrSingular}, {one(complex(minus0, minus0)), one(0), 0, api.ErrSingular}, {api.Matrix{}, one(1), 0, api.ErrSingular}, {api.Matrix{Rows: most}, api.Matrix{Cols: most}, 0, api.ErrSingular}, {of(2, 2, noughts()...), huge, 0, api.ErrSingular},
		// The quotient is not finite.
		{one(complex(least, 0)), one(1), 0, api.ErrOver}, {one(complex(0, 0x1p-1022)), one(complex(greatest, 0)), 0, api.ErrOver}, {one(1), huge, 0, api.ErrOver}, {huge, huge, 0, api.ErrOver}, {one(complex(0.5, 0)), one(complex(greatest, 0)), 0, api.ErrOver},
		// It is finite, though a weight is +Inf, or what is told is rounded to 0 or to the greatest.
		{huge, one(1), 0, api.OK}, {huge, one(0), 0, api.OK}, {one(complex(greatest, 0)), one(complex(least, 0)), 0, api.OK}, {one(1), one(complex(greatest, 0)), greatest, api.OK}, {one(complex(least, 0)), one(complex(0x1p-51, 0)), 0x1p1023, api.OK}, {one(2), one(complex(least, least)), least, api.OK},
	} {
		if got, e := pivot.Growth(c.a, c.b); e != c.e || !alike(got, c.want) {
			t.Errorf("Growth of %s and %s: %v, %d, want %v, %d", showMatrix(c.a), showMatrix(c.b), got, e, c.want, c.e)
		}
	}
}

func TestGrowthOfAllPairs(t *testing.T) {
	told := map[api.Errno]int{}
	all := matrices()
	for _, a := range all {
		for i, b := range all {
			if len(a.Data)*len(b.Data) > 100 && i%17 != 0 {
				continue
			}
			want, e := grown(a, b)
			told[e]++
			if got, f := pivot.Growth(a, b); f != e || !alike(got, want) {
				t.Errorf("Growth of %s and %s: %v, %d, want %v, %d", showMatrix(a), showMatrix(b), got, f, want, e)
			}
		}
	}
	for _, e := range []api.Errno{api.OK, api.ErrNumber, api.ErrSingular, api.ErrOver} {
		if told[e] < 10 {
			t.Errorf("the error %d came but %d times", e, told[e])
		}
	}
}

// What is refused of a comes ahead of what is refused of b, and both ahead of the rest.
func TestGrowthRefusesOneAfterTheOther(t *testing.T) {
	notFinite := []api.Matrix{one(complex(nan, 0)), of(1, 2, 1, complex(0, -inf)), of(2, 1, complex(inf, 0), 0)}
	for _, bad := range none() {
		for _, other := range append(notFinite, one(0), one(1), api.Matrix{}, bad, one(complex(greatest, greatest))) {
			if got, e := pivot.Growth(bad, other); e != api.ErrShape || !alike(got, 0) {
				t.Errorf("Growth of %d rows, %d columns, %d numbers and %s: %v, %d", bad.Rows, bad.Cols, len(bad.Data), showMatrix(other), got, e)
			}
		}
		for _, other := range []api.Matrix{one(0), one(1), {}, one(complex(least, 0)), one(complex(greatest, greatest))} {
			if got, e := pivot.Growth(other, bad); e != api.ErrShape || !alike(got, 0) {
				t.Errorf("Growth of %s and %d rows, %d columns, %d numbers: %v, %d", showMatrix(other), bad.Rows, bad.Cols, len(bad.Data), got, e)
			}
		}
		for _, a := range notFinite {
			if got, e := pivot.Growth(a, bad); e != api.ErrNumber || !alike(got, 0) {
				t.Errorf("Growth of %s and what is none: %v, %d", showMatrix(a), got, e)
			}
		}
	}
	for _, bad := range notFinite {
		for _, other := range []api.Matrix{one(0), one(1), {}, one(complex(least, 0)), one(complex(greatest, greatest)), bad} {
			if got, e := pivot.Growth(bad, other); e != api.ErrNumber || !alike(got, 0) {
				t.Errorf("Growth of %s and %s: %v, %d", showMatrix(bad), showMatrix(other), got, e)
			}
			if got, e := pivot.Growth(other, bad); e != api.ErrNumber || !alike(got, 0) {
				t.Errorf("Growth of %s and %s: %v, %d", showMatrix(other), showMatrix(bad), got, e)
			}
		}
	}
}

// P8.4

// sign tells an order's sign by its pairs that fall: each exchange of two neighbours changes their number by one.
func sign(order []int) int {
	sign := 1
	for i, k := range order {
		for _, l := range order[i+1:] {
			if l < k {
				sign = -sign
			}
		}
	}
	return sign
}

func TestParity(t *testing.T) {
	for _, c := range []struct {
		order []int
		want  int
	}{
		{nil, 1}, {[]int{}, 1}, {[]int{0}, 1}, {[]int{0, 1}, 1}, {[]int{1, 0}, -1}, {[]int{2, 0, 1}, 1}, {[]int{2, 1, 0}, -1}, {[]int{0, 2, 1}, -1},
		{[]int{1, 2, 3, 0}, -1}, {[]int{1, 0, 3, 2}, 1}, {[]int{3, 2, 1, 0}, 1}, {[]int{1, 2, 3, 4, 0}, 1}, {[]int{4, 3, 2, 1, 0}, 1},
	} {
		if got, e := pivot.Parity(c.order); e != api.OK || got != c.want {
			t.Errorf("Parity of %v: %d, %d, want %d", c.order, got, e, c.want)
		}
	}
	for _, order := range append(someOrders(), orders(6)...) {
		if got, e := pivot.Parity(order); e != api.OK || got != sign(order) {
			t.Errorf("Parity of %s: %d, %d", show(order), got, e)
		}
	}
}

func TestParityOfNoOrder(t *testing.T) {
	for _, l := range noOrders() {
		if got, e := pivot.Parity(l); e != api.ErrArg || got != 0 {
			t.Errorf("Parity of %s: %d, %d", show(l), got, e)
		}
	}
	// Too long is told ahead of no order.
	for _, l := range longLists() {
		if got, e := pivot.Parity(l); e != api.ErrLong || got != 0 {
			t.Errorf("Parity of %s: %d, %d", show(l), got, e)
		}
	}
	if got, e := pivot.Parity(rising(most)); e != api.OK || got != 1 {
		t.Errorf("Parity of 64 numbers: %d, %d", got, e)
	}
}

// Of all lists of few small numbers those are orders in which each stands once.
func TestParityOfAllShortLists(t *testing.T) {
	for n := 1; n <= 4; n++ {
		width, all := n+3, 1
		for range n {
			all *= width
		}
		for code := range all {
			var l []int
			for rest := code; len(l) < n; rest /= width {
				l = append(l, rest%width-1)
			}
			in, want := slices.Sorted(slices.Values(l)), api.ErrArg
			if slices.Equal(in, rising(n)) {
				want = api.OK
			}
			if got, e := pivot.Parity(l); e != want || e == api.OK && got != sign(l) || e != api.OK && got != 0 {
				t.Errorf("Parity of %v: %d, %d, want %d", l, got, e, want)
			}
		}
	}
}

// P8.5

func TestSwapped(t *testing.T) {
	for _, order := range someOrders() {
		for _, i := range places(len(order)) {
			for _, j := range places(len(order)) {
				got, e := pivot.Swapped(order, i, j)
				if i < 0 || i >= len(order) || j < 0 || j >= len(order) {
					if e != api.ErrArg || len(got) != 0 {
						t.Errorf("Swapped of %s, %d and %d: %v, %d", show(order), i, j, got, e)
					}
					continue
				}
				want := slices.Clone(order)
				want[j] = order[i]
				want[i] = order[j]
				if e != api.OK || !slices.Equal(got, want) {
					t.Errorf("Swapped of %s, %d and %d: %v, %d", show(order), i, j, got, e)
				}
			}
		}
	}
}

func TestSwappedOfNoOrder(t *testing.T) {
	for _, l := range noOrders() {
		for _, at := range [][2]int{{0, 0}, {0, len(l) - 1}, {-1, 0}, {0, len(l)}, {math.MinInt, math.MaxInt}} {
			if got, e := pivot.Swapped(l, at[0], at[1]); e != api.ErrArg || len(got) != 0 {
				t.Errorf("Swapped of %s, %v: %v, %d", show(l), at, got, e)
			}
		}
	}
	// Too long is told ahead of places that are none.
	for _, l := range longLists() {
		for _, at := range [][2]int{{0, 0}, {0, 1}, {0, most}, {-1, 0}, {0, len(l)}, {math.MinInt, math.MaxInt}} {
			if got, e := pivot.Swapped(l, at[0], at[1]); e != api.ErrLong || len(got) != 0 {
				t.Errorf("Swapped of %s, %v: %v, %d", show(l), at, got, e)
			}
		}
	}
	for _, l := range [][]int{nil, {}, make([]int, 0, 4)} {
		if got, e := pivot.Swapped(l, 0, 0); e != api.ErrArg || len(got) != 0 {
			t.Errorf("Swapped of none: %v, %d", got, e)
		}
	}
}

// P8.6

func TestWhatIsChosenIsTheFirstGreatest(t *testing.T) {
	looked := 0
	for _, col := range columns() {
		for from := range col {
			at, e := pivot.Choose(col, from)
			if e != api.OK {
				continue
			}
			looked++
			if at < from || at >= len(col) {
				t.Fatalf("Choose of %s from %d: %d", show(col), from, at)
			}
			for i := from; i < len(col); i++ {
				if weight(col[at]) < weight(col[i]) || i < at && weight(col[at]) == weight(col[i]) {
					t.Errorf("Choose of %s from %d: %d, but %d weighs as much or more", show(col), from, at, i)
				}
			}
		}
	}
	if looked < 500 {
		t.Errorf("only %d were chosen", looked)
	}
}

// turned gives a column with a function of each number in its place.
func turned(col []complex128, of func(complex128) complex128) []complex128 {
	var all []complex128
	for _, z := range col {
		all = append(all, of(z))
	}
	return all
}

// scaled gives a function that multiplies by a power of two.
func scaled(power int) func(complex128) complex128 {
	return func(z complex128) complex128 { return complex(math.Ldexp(real(z), power), math.Ldexp(imag(z), power)) }
}

func TestChooseBySymmetry(t *testing.T) {
	asked := func(col []complex128, from int, how string, of func(complex128) complex128) {
		want, e := pivot.Choose(col, from)
		if got, f := pivot.Choose(turned(col, of), from); got != want || f != e {
			t.Errorf("Choose of %s from %d, %s: %d, %d, as they are %d, %d", show(col), from, how, got, f, want, e)
		}
	}
	for _, col := range columns() {
		for from := range col {
			asked(col, from, "conjugates", conjugate)
			asked(col, from, "signs turned", func(z complex128) complex128 { return -z })
		}
	}
	for i := range 60 {
		// No part is rounded: these have no powers of two at an end of the reals.
		for _, col := range [][]complex128{few(5+i, uint64(i+1)), near(5+i, uint64(i+1), -30, 30), near(5+i, uint64(i+1), 0, 0)} {
			for _, power := range []int{-900, -53, -1, 1, 10, 900} {
				for _, from := range []int{0, 1, 4} {
					asked(col, from, fmt.Sprint("times 2^", power), scaled(power))
				}
			}
		}
	}
}

func TestSwappedTurnsParity(t *testing.T) {
	for _, order := range someOrders() {
		before, e := pivot.Parity(order)
		if e != api.OK {
			t.Fatalf("Parity of %s: %d", show(order), e)
		}
		for i := range order {
			for j := range order {
				other, e := pivot.Swapped(order, i, j)
				after, f := pivot.Parity(other)
				if e != api.OK || f != api.OK || (i != j) != (after == -before) || (i == j) != (after == before) {
					t.Errorf("Swapped of %s, %d and %d: %d, Parity %d, %d, ahead of it %d", show(order), i, j, e, after, f, before)
				}
				if back, e := pivot.Swapped(other, i, j); e != api.OK || !slices.Equal(back, order) {
					t.Errorf("Swapped of %s, %d and %d, twice: %v, %d", show(order), i, j, back, e)
				}
			}
		}
	}
}

func TestGrowthOfAMatrixAndItself(t *testing.T) {
	looked := 0
	for _, m := range matrices() {
		got, e := pivot.Growth(m, m)
		if want, f := heaviest(m); (e == api.OK) != (f == api.OK && want > 0 && want < inf) {
			t.Errorf("Growth of %s and itself: %d", showMatrix(m), e)
		}
		if e == api.OK {
			looked++
			if got != 1 {
				t.Errorf("Growth of %s and itself: %v", showMatrix(m), got)
			}
		}
	}
	if looked < 100 {
		t.Errorf("only %d were told", looked)
	}
}

// Rule 3

func TestNumbersHandedInAreNotChanged(t *testing.T) {
	for at := range 5 {
		whole := append(near(8, 50, -1, 1), edges()[:8]...)
		if at%2 == 0 {
			whole = append(near(14, 51, -1, 1), noughts()...)
		}
		before := slices.Clone(whole)
		a, b := of(2, 2, whole[2:6]...), of(2, 2, whole[at:at+4]...)
		for from := -1; from <= 9; from++ {
			pivot.Choose(whole[at:at+9], from)
		}
		pivot.Greatest(a)
		pivot.Greatest(of(2, 3, whole[at+2:at+8]...))
		pivot.Growth(a, b)
		pivot.Growth(b, of(1, 1, whole[10]))
		pivot.Choose(whole[at:at], 0)
		if !alikeLists(whole, before) {
			t.Fatal("what is handed in is changed")
		}
	}
}

// Matrices that are pieces of one list are as those apart from each other, and spare room counts for nothing.
func TestPiecesOfOneList(t *testing.T) {
	whole := near(16, 52, -1, 1)
	for at := range 12 {
		for to := range 12 {
			a, b := of(2, 2, whole[at:at+4]...), of(2, 2, whole[to:to+4]...)
			want, e := grown(a, b)
			if got, f := pivot.Growth(a, b); e != api.OK || f != e || !alike(got, want) {
				t.Errorf("Growth of pieces of one list: %v, %d, want %v", got, f, want)
			}
		}
		want, e := chosen(slices.Clone(whole[at:at+4]), 1)
		if got, f := pivot.Choose(whole[at:at+4], 1); got != want || f != e {
			t.Errorf("Choose of a piece: %d, %d, want %d, %d", got, f, want, e)
		}
	}
	// Of orders' pieces what stands behind is no number of theirs, though it would make one.
	line := []int{1, 0, 3, 2, 5, 4, 0}
	for n, want := range map[int]api.Errno{0: api.OK, 1: api.ErrArg, 2: api.OK, 3: api.ErrArg, 4: api.OK, 5: api.ErrArg, 6: api.OK, 7: api.ErrArg} {
		if _, e := pivot.Parity(line[:n]); e != want {
			t.Errorf("Parity of the first %d: %d, want %d", n, e, want)
		}
	}
}

// eachLine goes over orders and lists that are none, as pieces of a longer list: with numbers ahead of them, and in their spare room.
func eachLine(do func(whole, order []int)) {
	for _, order := range append(someOrders()[:60], append(noOrders(), mixed(most, 60), rising(most+1))...) {
		whole := slices.Concat([]int{7, -7}, order, []int{9, -9, 0})
		do(whole, whole[2:2+len(order)])
	}
}

func TestOrdersHandedInAreNotChanged(t *testing.T) {
	eachLine(func(whole, order []int) {
		before := slices.Clone(whole)
		pivot.Parity(order)
		for _, at := range [][2]int{{0, 0}, {0, 1}, {1, 0}, {0, len(order) - 1}, {len(order), 0}, {-1, 0}} {
			pivot.Swapped(order, at[0], at[1])
		}
		if !slices.Equal(whole, before) {
			t.Fatalf("%v is changed", order)
		}
	})
}

func TestWhatIsHandedBackIsNew(t *testing.T) {
	fill := func(l []int) {
		for i := range l {
			l[i] = -77
		}
	}
	eachLine(func(whole, order []int) {
		before := slices.Clone(whole)
		for _, at := range [][2]int{{0, 0}, {0, 1}, {1, 0}, {0, len(order) - 1}, {len(order), 0}, {-1, 0}} {
			got, _ := pivot.Swapped(order, at[0], at[1])
			again, _ := pivot.Swapped(order, at[0], at[1])
			told := slices.Clone(again)
			fill(got[:cap(got)])
			if !slices.Equal(whole, before) {
				t.Errorf("Swapped of %v, %v: what it tells shares memory with what it is handed", before, at)
			}
			if !slices.Equal(again, told) {
				t.Errorf("Swapped of %v, %v: what it tells twice shares memory", before, at)
			}
			fill(whole)
			if !slices.Equal(again, told) {
				t.Errorf("Swapped of %v, %v: what it tells changes with what it was handed", before, at)
			}
			copy(whole, before)
		}
	})
}

// P1: every call ends, none panics, and one asked twice answers the same.
func TestCalm(t *testing.T) {
	for _, col := range append(columns(), make([]complex128, most+1), nil) {
		for _, from := range places(len(col)) {
			one, e := pivot.Choose(col, from)
			if other, f := pivot.Choose(slices.Clone(col), from); one != other || e != f {
				t.Errorf("Choose of %s from %d: %d, %d, then %d, %d", show(col), from, one, e, other, f)
			}
		}
	}
	all := append(matrices(), none()...)
	for i, a := range all {
		b := all[(i*7+3)%len(all)]
		one, e := pivot.Growth(a, b)
		if other, f := pivot.Growth(a, b); !alike(one, other) || e != f {
			t.Errorf("Growth of %s and %s: %v, %d, then %v, %d", showMatrix(a), showMatrix(b), one, e, other, f)
		}
		one, e = pivot.Greatest(a)
		if other, f := pivot.Greatest(a); !alike(one, other) || e != f {
			t.Errorf("Greatest of %s: %v, %d, then %v, %d", showMatrix(a), one, e, other, f)
		}
	}
	for _, l := range slices.Concat(someOrders(), noOrders(), longLists()) {
		one, e := pivot.Parity(l)
		if other, f := pivot.Parity(l); one != other || e != f {
			t.Errorf("Parity of %s: %d, %d, then %d, %d", show(l), one, e, other, f)
		}
		for _, i := range []int{-1, 0, 1, len(l) - 1, len(l), math.MinInt, math.MaxInt} {
			one, e := pivot.Swapped(l, i, 0)
			if other, f := pivot.Swapped(l, i, 0); !slices.Equal(one, other) || e != f {
				t.Errorf("Swapped of %s, %d and 0: %v, %d, then %v, %d", show(l), i, one, e, other, f)
			}
		}
	}
}
