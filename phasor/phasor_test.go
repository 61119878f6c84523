package phasor_test

import (
	"math"
	"slices"
	"strconv"
	"strings"
	"sync"
	"testing"

	"gridwork/api"
	"gridwork/lower"
	"gridwork/netlist"
	"gridwork/phasor"
	"gridwork/refine"
	"gridwork/source"
	"gridwork/vector"
)

const (
	least    = 0x1p-1074
	greatest = math.MaxFloat64
)

var (
	inf    = math.Inf(1)
	nan    = math.NaN()
	minus0 = math.Copysign(0, -1)
)

// The document's words ('What a net comes to'), worked out apart from the program: of names, one operation after the other.

// The operations, each in a function of its own that is laid into none: nothing can be joined there.

//go:noinline
func plus(a, b float64) float64 { return a + b }

//go:noinline
func less(a, b float64) float64 { return a - b }

//go:noinline
func times(a, b float64) float64 { return a * b }

//go:noinline
func over(a, b float64) float64 { return a / b }

func sum(a, b complex128) complex128 {
	return complex(plus(real(a), real(b)), plus(imag(a), imag(b)))
}

func difference(a, b complex128) complex128 {
	return complex(less(real(a), real(b)), less(imag(a), imag(b)))
}

func product(a, b complex128) complex128 {
	p, q, c, d := real(a), imag(a), real(b), imag(b)
	return complex(less(times(p, c), times(q, d)), plus(times(p, d), times(q, c)))
}

func quotient(a, b complex128) complex128 {
	p, q, c, d := real(a), imag(a), real(b), imag(b)
	if math.Abs(c) >= math.Abs(d) {
		r := over(d, c)
		t := plus(c, times(d, r))
		return complex(over(plus(p, times(q, r)), t), over(less(q, times(p, r)), t))
	}
	r := over(c, d)
	t := plus(times(c, r), d)
	return complex(over(plus(times(p, r), q), t), over(less(times(q, r), p), t))
}

func size1(z complex128) float64 {
	return plus(math.Abs(real(z)), math.Abs(imag(z)))
}

func finite(z complex128) bool {
	s := real(z) - real(z) + imag(z) - imag(z) // what is not finite is not 0 less itself
	return s == 0
}

// Rows and columns, and what a solution tells, go by names: a table tells what stands at a pair of them.
type table map[[2]string]complex128

// isBranch tells whether an element is a Voltage or an Amplifier.
func isBranch(e api.Element) bool { return e.Name[0] == 'V' || e.Name[0] == 'E' }

// isSource tells whether an element is a Current or a Voltage.
func isSource(e api.Element) bool { return e.Name[0] == 'V' || e.Name[0] == 'I' }

// nodesOf are the names of the nodes, as they first stand.
func nodesOf(l []api.Element) []string {
	var nodes []string
	for _, e := range l {
		for _, node := range []string{e.A, e.B, e.C, e.D} {
			if node != "" && node != "0" && !slices.Contains(nodes, node) {
				nodes = append(nodes, node)
			}
		}
	}
	return nodes
}

// rowsOf are the names of the rows: the nodes, then the branches.
func rowsOf(l []api.Element) []string {
	rows := nodesOf(l)
	for _, e := range l {
		if isBranch(e) {
			rows = append(rows, e.Name)
		}
	}
	return rows
}

// groundedOf tells the first node to which one does not come from the ground.
func groundedOf(l []api.Element) api.Fault {
	reached := []string{"0"}
	for grown := true; grown; {
		grown = false
		for _, e := range l {
			a, b := slices.Contains(reached, e.A), slices.Contains(reached, e.B)
			if e.Name[0] != 'I' && e.Name[0] != 'G' && a != b {
				reached, grown = append(reached, e.A, e.B), true
			}
		}
	}
	for at, node := range nodesOf(l) {
		if !slices.Contains(reached, node) {
			return api.Fault{Err: 11, At: at}
		}
	}
	return api.Fault{}
}

// admittanceOf is an element's admittance; false, if it has none or it is over.
func admittanceOf(e api.Element, omega float64) (complex128, bool) {
	p := times(omega, e.Value)
	y := complex(0, p)
	switch e.Name[0] {
	case 'R', 'P':
		y = complex(over(1, e.Value), 0)
	case 'L':
		y = complex(0, -over(1, p))
		if math.IsInf(p, 0) {
			return 0, false
		}
	}
	return y, finite(y)
}

// change is an addition at a row and a column, or a subtraction.
type change struct {
	row, col string
	by       func(a, b complex128) complex128
	y        complex128
}

// changesOf are what an element stamps, in its order; false, if its admittance is over.
func changesOf(e api.Element, omega float64) ([]change, bool) {
	branch := []change{{e.A, e.Name, sum, 1}, {e.Name, e.A, sum, 1}, {e.B, e.Name, difference, 1}, {e.Name, e.B, difference, 1}}
	g := complex(e.Value, 0)
	switch e.Name[0] {
	case 'I':
		return nil, true
	case 'V':
		return branch, true
	case 'E':
		return append(branch, change{e.Name, e.C, difference, g}, change{e.Name, e.D, sum, g}), true
	case 'G':
		return []change{{e.A, e.C, sum, g}, {e.A, e.D, difference, g}, {e.B, e.C, difference, g}, {e.B, e.D, sum, g}}, true
	}
	y, ok := admittanceOf(e, omega)
	return []change{{e.A, e.A, sum, y}, {e.B, e.B, sum, y}, {e.A, e.B, difference, y}, {e.B, e.A, difference, y}}, ok
}

// matrixOf is the matrix, or the element at which it is over.
func matrixOf(l []api.Element, omega float64) (table, api.Fault) {
	m := table{}
	for at, e := range l {
		changes, ok := changesOf(e, omega)
		for _, c := range changes {
			if c.row == "0" || c.col == "0" {
				continue
			}
			place := [2]string{c.row, c.col}
			m[place] = c.by(m[place], c.y)
			ok = ok && finite(m[place])
		}
		if !ok {
			return nil, api.Fault{Err: 6, At: at}
		}
	}
	return m, api.Fault{}
}

// cosineOf is chapter 4's cosine of steps from 0 to 23, all of them written out.
func cosineOf(k int) float64 {
	c := []float64{1, math.Float64frombits(0x3feee8dd4748bf15), math.Float64frombits(0x3febb67ae8584caa), math.Float64frombits(0x3fe6a09e667f3bcd), 0.5, math.Float64frombits(0x3fd0907dc1930690), 0}
	all := []float64{
		c[0], c[1], c[2], c[3], c[4], c[5], c[6], -c[5], -c[4], -c[3], -c[2], -c[1],
		-c[0], -c[1], -c[2], -c[3], -c[4], -c[5], c[6], c[5], c[4], c[3], c[2], c[1],
	}
	return all[k]
}

// phasorOf is a size times the root of a phase, part by part.
func phasorOf(size float64, phase int) complex128 {
	k := (phase%24 + 24) % 24
	return complex(times(size, cosineOf(k)), times(size, cosineOf((k+18)%24)))
}

// rightOf is the right side, in the order of the rows, or the element at which it is over.
func rightOf(l []api.Element) ([]complex128, api.Fault) {
	by, rows := map[string]complex128{}, rowsOf(l)
	for at, e := range l {
		s := phasorOf(e.Value, e.Phase)
		switch e.Name[0] {
		case 'I':
			by[e.A] = difference(by[e.A], s)
			by[e.B] = sum(by[e.B], s)
		case 'V':
			by[e.Name] = s
		}
		for _, row := range rows { // the ground is none of them
			if !finite(by[row]) {
				return nil, api.Fault{Err: 6, At: at}
			}
		}
	}
	var right []complex128
	for _, row := range rows {
		right = append(right, by[row])
	}
	return right, api.Fault{}
}

// listOf lays a table out, row by row.
func listOf(rows []string, m table) [][]complex128 {
	var l [][]complex128
	for _, row := range rows {
		var numbers []complex128
		for _, col := range rows {
			numbers = append(numbers, m[[2]string{row, col}])
		}
		l = append(l, numbers)
	}
	return l
}

// eliminated eliminates a matrix in its place, and tells the order of its rows, or the column at which it is refused.
func eliminated(a [][]complex128) ([]int, api.Fault) {
	var order []int
	for k := range a {
		order = append(order, k)
	}
	for k := range a {
		best := k
		for i := k; i < len(a); i++ {
			if size1(a[i][k]) > size1(a[best][k]) {
				best = i
			}
		}
		if a[best][k] == 0 {
			return nil, api.Fault{Err: 7, At: k}
		}
		a[k], a[best] = a[best], a[k]
		order[k], order[best] = order[best], order[k]
		bad := false
		for i := k + 1; i < len(a); i++ {
			f := quotient(a[i][k], a[k][k])
			for j := k + 1; j < len(a); j++ {
				a[i][j] = difference(a[i][j], product(f, a[k][j]))
				bad = bad || !finite(a[i][j])
			}
			a[i][k] = f
			bad = bad || !finite(f)
		}
		if bad {
			return nil, api.Fault{Err: 6, At: k}
		}
	}
	return order, api.Fault{}
}

// unknownsOf solves by what was eliminated; false, if a number is over.
func unknownsOf(a [][]complex128, order []int, right []complex128) ([]complex128, bool) {
	var x []complex128
	ok := true
	for i, row := range order {
		s := right[row]
		for k := 0; k < i; k++ {
			s = difference(s, product(a[i][k], x[k]))
			ok = ok && finite(s)
		}
		x = append(x, s)
	}
	for i := len(x) - 1; i >= 0; i-- {
		for k := i + 1; k < len(x); k++ {
			x[i] = difference(x[i], product(a[i][k], x[k]))
			ok = ok && finite(x[i])
		}
		x[i] = quotient(x[i], a[i][i])
		ok = ok && finite(x[i])
	}
	return x, ok
}

// solutionOf parts unknowns into volts and amperes.
func solutionOf(l []api.Element, omega float64, x []complex128) api.Solution {
	s := api.Solution{Omega: omega}
	for i, z := range x {
		if i < len(nodesOf(l)) {
			s.Volts = append(s.Volts, z)
		} else {
			s.Amps = append(s.Amps, z)
		}
	}
	return s
}

// withOf is what P20.1 says of a net, an omega and a right side that may be.
func withOf(l []api.Element, omega float64, right []complex128) (api.Solution, api.Fault) {
	if f := groundedOf(l); f.Err != 0 {
		return api.Solution{}, f
	}
	m, f := matrixOf(l, omega)
	if f.Err != 0 {
		return api.Solution{}, f
	}
	a := listOf(rowsOf(l), m)
	order, f := eliminated(a)
	if f.Err != 0 {
		return api.Solution{}, f
	}
	x, ok := unknownsOf(a, order, right)
	if !ok {
		return api.Solution{}, api.Fault{Err: 6, At: -1}
	}
	return solutionOf(l, omega, x), api.Fault{}
}

// solveOf is what P20.2 says of Solve of a net and an omega that may be.
func solveOf(l []api.Element, omega float64) (api.Solution, api.Fault) {
	right, f := rightOf(l)
	if f.Err != 0 { // it comes behind the graph's and the matrix'
		if g := groundedOf(l); g.Err != 0 {
			return api.Solution{}, g
		}
		if _, g := matrixOf(l, omega); g.Err != 0 {
			return api.Solution{}, g
		}
		return api.Solution{}, f
	}
	return withOf(l, omega, right)
}

// untilOf asks refine for what P20.2 says of Refined, of a net that Solve does not refuse.
func untilOf(l []api.Element, omega float64, most int) ([]complex128, int, api.Errno) {
	m, s := flatOf(l, omega), must(solveOf(l, omega))
	return refine.Until(m, must(lower.Of(m)), numbersOf(s), must(rightOf(l)), most)
}

// flatOf is the matrix of a net that is not refused.
func flatOf(l []api.Element, omega float64) api.Matrix {
	rows := listOf(rowsOf(l), must(matrixOf(l, omega)))
	return api.Matrix{Rows: len(rows), Cols: len(rows), Data: slices.Concat(rows...)}
}

// numbersOf are all numbers of a solution.
func numbersOf(s api.Solution) []complex128 {
	return slices.Concat(s.Volts, s.Amps)
}

// must gives what is told without a fault.
func must[T any](answer T, f api.Fault) T {
	if f != (api.Fault{}) {
		panic("refused: " + f.Err.Error() + " at " + strconv.Itoa(f.At))
	}
	return answer
}

// sameNumber tells whether two numbers have the same bits.
func sameNumber(a, b complex128) bool {
	return math.Float64bits(real(a)) == math.Float64bits(real(b)) && math.Float64bits(imag(a)) == math.Float64bits(imag(b))
}

func sameList(a, b []complex128) bool { return slices.EqualFunc(a, b, sameNumber) }

// same tells whether two solutions are the same.
func same(a, b api.Solution) bool {
	return math.Float64bits(a.Omega) == math.Float64bits(b.Omega) && sameList(a.Volts, b.Volts) && sameList(a.Amps, b.Amps)
}

// element makes an element of a line's words, but for its value; a phase stands last.
func element(line string, v float64) api.Element {
	words := strings.Fields(line)
	e := api.Element{Name: words[0], A: words[1], B: words[2], Value: v}
	e.Kind = api.Kind(1 + strings.IndexByte("RLCIVGEP", e.Name[0]))
	switch len(words) {
	case 4:
		e.Phase, _ = strconv.Atoi(words[3])
	case 5:
		e.C, e.D = words[3], words[4]
	}
	return e
}

// netOf gives the net of elements that make one.
func netOf(t *testing.T, l ...api.Element) *netlist.Net {
	t.Helper()
	n, f := netlist.Of(l)
	if n == nil || f != (api.Fault{}) {
		t.Fatalf("Of %v: %v", l, f)
	}
	return n
}

// parsed gives the net of a text that is one's, its lines parted by commas.
func parsed(t *testing.T, s string) *netlist.Net {
	t.Helper()
	n, f := netlist.Parse(strings.ReplaceAll(s, ", ", "\n"))
	if n == nil || f != (api.Fault{}) {
		t.Fatalf("Parse(%.60q): %v", s, f)
	}
	return n
}

// solved gives the solution of a net that is not refused.
func solved(t *testing.T, n *netlist.Net, omega float64) api.Solution {
	t.Helper()
	s, f := phasor.Solve(n, omega)
	if f != (api.Fault{}) {
		t.Fatalf("Solve at %v of\n%s%v", omega, n.Print(), f)
	}
	return s
}

// rightSides are some that fit a net of that order.
func rightSides(order int, seed uint64) [][]complex128 {
	var mingled, noughts []complex128
	for i, bits := range scatter(order, seed+77) {
		mingled = append(mingled, complex(near(bits), -near(bits>>7)))
		noughts = append(noughts, []complex128{0, complex(0, minus0), complex(minus0, 0), complex(minus0, minus0)}[(i+int(seed%4))%4])
	}
	return [][]complex128{mingled, noughts}
}

// hold holds what Solve, With and Refined tell of a net against the document's words, and tells Solve's fault.
func hold(t *testing.T, n *netlist.Net, omega float64) api.Fault {
	t.Helper()
	l := n.Elements()
	s, f := phasor.Solve(n, omega)
	if want, bad := solveOf(l, omega); f != bad || !same(s, want) {
		t.Fatalf("Solve at %v of\n%s%v %v; want %v %v", omega, n.Print(), s, f, want, bad)
	}
	rights := rightSides(n.Order(), uint64(len(l)))
	if right, over := rightOf(l); over.Err == 0 {
		rights = append(rights, right)
	}
	for _, right := range rights {
		kept := slices.Clone(right)
		got, bad := phasor.With(n, omega, right)
		if want, worse := withOf(l, omega, kept); bad != worse || !same(got, want) {
			t.Fatalf("With %v at %v of\n%s%v %v; want %v %v", kept, omega, n.Print(), got, bad, want, worse)
		}
		if !sameList(right, kept) {
			t.Fatalf("With of\n%s%v became %v", n.Print(), kept, right)
		}
	}
	for _, most := range []int{0, 1, api.MaxRounds} {
		holdRefined(t, n, omega, most, f)
	}
	if f.Err == 0 {
		holdNumbers(t, n, s)
	}
	return f
}

// holdRefined holds Refined, where Solve tells that fault.
func holdRefined(t *testing.T, n *netlist.Net, omega float64, most int, f api.Fault) {
	t.Helper()
	l := n.Elements()
	var want api.Solution
	rounds := 0
	if f.Err == 0 {
		x, count, err := untilOf(l, omega, most)
		if err == 0 {
			want, rounds = solutionOf(l, omega, x), count
		} else {
			f = api.Fault{Err: err, At: -1}
		}
	}
	got, count, bad := phasor.Refined(n, omega, most)
	if bad != f || count != rounds || !same(got, want) {
		t.Fatalf("Refined at %v, most %d, of\n%s%v %d %v; want %v %d %v", omega, most, n.Print(), got, count, bad, want, rounds, f)
	}
}

// holdNumbers holds what is told of a solution that fits, by names.
func holdNumbers(t *testing.T, n *netlist.Net, s api.Solution) {
	t.Helper()
	l := n.Elements()
	by := map[string]complex128{}
	for i, row := range rowsOf(l) {
		by[row] = numbersOf(s)[i]
	}
	for _, node := range append(nodesOf(l), "0") {
		if z, err := phasor.Volt(n, s, node); err != 0 || !sameNumber(z, by[node]) {
			t.Fatalf("Volt of %s of\n%s%v: %v %d", node, n.Print(), s, z, err)
		}
	}
	for _, e := range l {
		if z, err := phasor.Across(n, s, e.Name); err != 0 || !sameNumber(z, difference(by[e.A], by[e.B])) {
			t.Fatalf("Across of %s of\n%s%v: %v %d", e.Name, n.Print(), s, z, err)
		}
		want, bad := by[e.Name], api.OK
		if !isBranch(e) {
			bad = api.ErrArg
		}
		if z, err := phasor.Branch(n, s, e.Name); err != bad || !sameNumber(z, want) {
			t.Fatalf("Branch of %s of\n%s%v: %v %d", e.Name, n.Print(), s, z, err)
		}
	}
}

// nothing tells whether a solution is the zero one.
func nothing(s api.Solution) bool {
	return s.Omega == 0 && len(s.Volts) == 0 && len(s.Amps) == 0
}

// refusedAs holds that a net is refused by Solve and Refined, and nothing told with it.
func refusedAs(t *testing.T, n *netlist.Net, omega float64, want api.Fault) {
	t.Helper()
	if s, f := phasor.Solve(n, omega); f != want || !nothing(s) {
		t.Errorf("Solve at %v of\n%s%v %v; want %v", omega, n.Print(), s, f, want)
	}
	for _, most := range []int{0, 3, api.MaxRounds} {
		if s, rounds, f := phasor.Refined(n, omega, most); f != want || !nothing(s) || rounds != 0 {
			t.Errorf("Refined at %v of\n%s%v %d %v; want %v", omega, n.Print(), s, rounds, f, want)
		}
	}
}

// withRefusedAs holds that With refuses, and tells nothing with it.
func withRefusedAs(t *testing.T, n *netlist.Net, omega float64, right []complex128, want api.Fault) {
	t.Helper()
	if s, f := phasor.With(n, omega, right); f != want || !nothing(s) {
		t.Errorf("With %v at %v of\n%s%v %v; want %v", right, omega, n.Print(), s, f, want)
	}
}

// scatter gives whole numbers of 64 bits, always the same ones.
func scatter(n int, seed uint64) []uint64 {
	var all []uint64
	for range n {
		seed ^= seed << 13
		seed ^= seed >> 7
		seed ^= seed << 17
		all = append(all, seed)
	}
	return all
}

// sized makes reals of mingled bits, from a power of two on, of so many powers.
func sized(from, powers int) func(bits uint64) float64 {
	return func(bits uint64) float64 {
		return math.Ldexp(1+float64(bits>>12)*0x1p-52, from+int(bits%uint64(powers)))
	}
}

// near is a real from 2^-8 to 2^8 with mingled bits.
func near(bits uint64) float64 { return sized(-8, 16)(bits) }

// mingled gives a net of so many elements among the ground and six nodes, with values that a function makes of mingled bits, and phases up to 30 steps either way.
func mingled(t *testing.T, count int, seed uint64, letters string, values func(bits uint64) float64) *netlist.Net {
	t.Helper()
	nodes := []string{"0", "a", "b", "c", "d", "e", "f"}
	bits := scatter(3*count, seed)
	var l []api.Element
	for i := range count {
		kind, wires, v := bits[3*i]>>20, bits[3*i+1]>>20, values(bits[3*i+2])
		a := int(wires % 7)
		b := (a + 1 + int(wires/7%6)) % 7
		line := string(letters[kind%uint64(len(letters))]) + strconv.Itoa(i) + " " + nodes[a] + " " + nodes[b]
		switch {
		case strings.IndexByte("GE", line[0]) >= 0:
			line += " " + nodes[wires/42%7] + " " + nodes[wires/294%7]
		case strings.IndexByte("IV", line[0]) >= 0:
			line += " " + strconv.Itoa(int(wires/42%61)-30)
		}
		if strings.IndexByte("RLCP", line[0]) < 0 && kind&(1<<30) != 0 {
			v = -v
		}
		l = append(l, element(line, v))
	}
	return netOf(t, l...)
}

// joined gives a net with a Resistor more from each of its nodes to the ground.
func joined(t *testing.T, n *netlist.Net, v float64) *netlist.Net {
	t.Helper()
	l := n.Elements()
	for i, node := range n.Nodes() {
		l = append(l, element("Rj"+strconv.Itoa(i)+" "+node+" 0", v))
	}
	return netOf(t, l...)
}

// dense gives a net whose matrix has in each row and column of so many nodes a real of mingled bits, and so its right side.
func dense(t *testing.T, count int, seed uint64, values func(bits uint64) float64) *netlist.Net {
	t.Helper()
	var l []api.Element
	for i := range count {
		l = append(l, element("R"+strconv.Itoa(i)+" n"+strconv.Itoa(i)+" 0", 0x1p1000))
	}
	for at, bits := range scatter(count*(count+1), seed) {
		row, col, v := " n"+strconv.Itoa(at%count)+" 0 ", at/count, values(bits>>3)
		if bits>>60&1 != 0 {
			v = -v
		}
		if col < count {
			l = append(l, element("G"+strconv.Itoa(at)+row+"n"+strconv.Itoa(col)+" 0", v))
		} else {
			l = append(l, element("I"+strconv.Itoa(at)+row, v))
		}
	}
	return netOf(t, l...)
}

// The examples of the chapter, and those of the whole.

// dividing is the chapter's net D.
func dividing(t *testing.T) *netlist.Net {
	t.Helper()
	return parsed(t, "V1 in 0 8, R1 in out 2, R2 out 0 2")
}

func TestExamplesOfSolve(t *testing.T) {
	for _, c := range []struct {
		net         string
		omega       float64
		volts, amps []complex128
	}{
		{"V1 in 0 8, R1 in out 2, R2 out 0 2", 1, []complex128{8, 4}, []complex128{-2}},
		{"I1 0 a 2, C1 a 0 500m", 2, []complex128{-2i}, nil},
		{"R1 a b 2, R2 b 0 4, V1 a 0 6", 1, []complex128{6, 4}, []complex128{-1}},
		{"L1 a 0 500m, C1 a 0 250m, I1 0 a 1", 2, []complex128{2i}, nil},
		{"V1 in 0 10, R1 in out 4, R2 out 0 4, P1 out 0 2", 7, []complex128{10, 2.5}, []complex128{-1.875}},
	} {
		n := parsed(t, c.net)
		s := solved(t, n, c.omega)
		if s.Omega != c.omega || !slices.Equal(s.Volts, c.volts) || !slices.Equal(s.Amps, c.amps) {
			t.Errorf("Solve at %v of %s: %v; want %v, %v", c.omega, c.net, s, c.volts, c.amps)
		}
		hold(t, n, c.omega)
	}
}

func TestExamplesOfNumbers(t *testing.T) {
	n := dividing(t)
	s := solved(t, n, 1)
	for _, c := range []struct {
		ask  func(n *netlist.Net, s api.Solution, name string) (complex128, api.Errno)
		name string
		want complex128
		err  api.Errno
	}{
		{phasor.Volt, "out", 4, api.OK}, {phasor.Volt, "0", 0, api.OK}, {phasor.Volt, "x", 0, api.ErrMissing}, {phasor.Across, "R1", 4, api.OK},
		{phasor.Branch, "V1", -2, api.OK}, {phasor.Branch, "R1", 0, api.ErrArg}, {phasor.Branch, "X9", 0, api.ErrMissing},
	} {
		if z, err := c.ask(n, s, c.name); z != c.want || err != c.err {
			t.Errorf("of %s: %v %d; want %v %d", c.name, z, err, c.want, c.err)
		}
	}
}

func TestExamplesOfErrors(t *testing.T) {
	refusedAs(t, dividing(t), 0, api.Fault{Err: api.ErrArg, At: -1})
	refusedAs(t, dividing(t), nan, api.Fault{Err: api.ErrNumber, At: -1})
	refusedAs(t, parsed(t, "V1 in 0 1, V2 in 0 1"), 1, api.Fault{Err: api.ErrSingular, At: 2})
	refusedAs(t, parsed(t, "R1 a b 1"), 1, api.Fault{Err: api.ErrGround, At: 0})
	refusedAs(t, netOf(t, element("R1 a 0", least)), 1, api.Fault{Err: api.ErrOver, At: 0})
}

func TestNumbersOfErrors(t *testing.T) {
	if api.OK != 0 || api.ErrNil != 1 || api.ErrArg != 2 || api.ErrShape != 4 || api.ErrNumber != 5 || api.ErrOver != 6 || api.ErrSingular != 7 || api.ErrMissing != 10 || api.ErrGround != 11 || api.MaxRounds != 64 {
		t.Error("the numbers of the errors, or a limit")
	}
}

// P20.1, P20.2, P20.5: a net solved, against 'What a net comes to'.

// TestEveryPairOfElements goes through all nets of one and of two elements among the ground and two nodes.
func TestEveryPairOfElements(t *testing.T) {
	var lines []string
	nodes := []string{"0", "a", "b"}
	for _, a := range nodes {
		for _, b := range nodes {
			if a == b {
				continue
			}
			for _, letter := range "RLCIVP" {
				lines = append(lines, string(letter)+"x "+a+" "+b)
			}
			lines = append(lines, "Ix "+a+" "+b+" 5", "Vx "+a+" "+b+" -8")
			for _, c := range nodes {
				lines = append(lines, "Gx "+a+" "+b+" "+c+" b", "Ex "+a+" "+b+" a "+c)
			}
		}
	}
	seen := map[api.Errno]int{}
	for _, first := range lines {
		e := element(first, 3)
		seen[hold(t, netOf(t, e), 1.5).Err]++
		for _, second := range lines {
			o := element(second, 0.1)
			o.Name = o.Name[:1] + "y"
			seen[hold(t, netOf(t, e, o), 0.75).Err]++
		}
	}
	if seen[api.OK] < 1000 || seen[api.ErrGround] < 1000 || seen[api.ErrSingular] < 50 {
		t.Errorf("how often each is told: %v", seen)
	}
}

func TestMingledNets(t *testing.T) {
	solvable := 0
	for seed := range uint64(400) {
		count, omega := 1+int(seed%30), near(seed*0x9e3779b97f4a7c15)
		for _, letters := range []string{"RLCIVGEP", "RLCIIRLCPRLCV", "GGGGII", "RREI"} {
			n := mingled(t, count, seed+1000, letters, near)
			hold(t, n, omega)
			if hold(t, joined(t, n, near(seed)), omega).Err == 0 {
				solvable++
			}
		}
	}
	if solvable < 800 {
		t.Errorf("%d of 1600 nets are not refused", solvable)
	}
}

// stageOf tells what of a net is wrong, by the layer that tells it.
func stageOf(l []api.Element, f api.Fault) string {
	_, matrix := matrixOf(l, 1)
	_, right := rightOf(l)
	switch {
	case f.Err != api.ErrOver:
		return strconv.Itoa(int(f.Err))
	case f.At < 0:
		return "solve"
	case matrix.Err != 0:
		return "stamp"
	case right.Err != 0:
		return "source"
	}
	return "lower"
}

// Of values of all sizes something is over here and there: in the matrix, the right side, the elimination, the solving.
func TestMingledNetsOfAllSizes(t *testing.T) {
	far, high, edge, low, top := sized(-1000, 2000), sized(424, 600), sized(1017, 7), sized(-1026, 24), sized(1022, 2)
	seen := map[string]int{}
	for seed := range uint64(300) {
		n := dense(t, 2+int(seed%4), seed+1, top)
		seen[stageOf(n.Elements(), hold(t, n, 1))]++
		count := 1 + int(seed%16)
		for _, values := range []func(bits uint64) float64{far, high, edge, low} {
			for _, letters := range []string{"RLCIVGEP", "GGGI", "RIIIIG", "ERG"} {
				n := joined(t, mingled(t, count, seed+5000, letters, values), 0x1p500)
				seen[stageOf(n.Elements(), hold(t, n, 1))]++
			}
		}
	}
	for _, stage := range []string{"0", "7", "stamp", "source", "lower", "solve"} {
		if seen[stage] < 40 {
			t.Errorf("how often each is told: %v", seen)
		}
	}
}

// The greatest nets: all nodes, all branches, all elements.
func TestGreatestNets(t *testing.T) {
	node := func(i int) string {
		if i < 0 {
			return "0"
		}
		return "n" + strconv.Itoa(i%api.MaxNodes)
	}
	for _, branches := range []int{0, 7, api.MaxOrder - api.MaxNodes} {
		var l []api.Element
		for i := range api.MaxElements {
			number := strconv.Itoa(i)
			v, wires := 1+1/float64(i+1), number+" "+node(i)+" "+node(7*i+1)
			switch {
			case i < branches && i%3 == 0:
				l = append(l, element("V"+number+" "+node(i)+" "+node((i-1)/2-1)+" "+number, v))
			case i < branches:
				l = append(l, element("E"+number+" "+node(i)+" "+node((i-1)/2-1)+" "+node((i-1)/3)+" 0", v/4))
			case i < 2*api.MaxNodes:
				l = append(l, element("R"+number+" "+node(i)+" 0", v))
			case node(i) == node(7*i+1):
				l = append(l, element("I"+number+" 0 "+node(i), v))
			case i%6 == 5:
				l = append(l, element("G"+wires+" "+node(i+2)+" "+node(3*i), -v))
			case i%6 == 4:
				l = append(l, element("I"+wires+" "+number, v))
			default:
				l = append(l, element(string("RLCP"[i%6])+wires, v))
			}
		}
		n := netOf(t, l...)
		if n.Order() != api.MaxNodes+branches || len(n.Elements()) != api.MaxElements {
			t.Fatalf("the order %d, %d elements", n.Order(), len(n.Elements()))
		}
		if f := hold(t, n, 0.3); f != (api.Fault{}) {
			t.Fatalf("with %d branches: %v", branches, f)
		}
		// A last element may be what is wrong.
		l[api.MaxElements-1] = element("C255 n0 0", 0x1p1023)
		refusedAs(t, netOf(t, l...), 2, api.Fault{Err: api.ErrOver, At: api.MaxElements - 1})
	}
	// The last column of all may be the singular one, the last node the one that does not hang together with the ground.
	loop, chain := []api.Element{element("R31 n31 0", 1)}, []api.Element{}
	for i := range api.MaxNodes - 1 {
		wires := strconv.Itoa(i) + " " + node(i-1) + " " + node(i)
		loop, chain = append(loop, element("V"+wires, 1)), append(chain, element("R"+wires, 1))
	}
	loop, chain = append(loop, element("V31 n30 0", 1)), append(chain, element("I31 n30 n31", 1))
	refusedAs(t, netOf(t, loop...), 1, api.Fault{Err: api.ErrSingular, At: api.MaxOrder - 1})
	refusedAs(t, netOf(t, chain...), 1, api.Fault{Err: api.ErrGround, At: api.MaxNodes - 1})
	hold(t, netOf(t, loop...), 1)
	hold(t, netOf(t, chain...), 1)
}

// The volts stand in the order of the nodes, whatever their names, the amperes in that of the branches, wherever these stand in the net.
func TestPlacesOfNumbers(t *testing.T) {
	n := parsed(t, "E1 c 0 b a 2, R1 z c 1, V1 a 0 9, G1 0 b z 0 250m, V2 m 0 -4, R2 m z 1, R3 b 0 2, I1 a 0 7, P1 m a 1")
	s := solved(t, n, 1)
	// b is half of z, and z lies amid c and m: so z = (z - 18 - 4) / 2 = -22.
	if !slices.Equal(s.Volts, []complex128{-40, -11, 9, -22, -4}) || !slices.Equal(s.Amps, []complex128{18, -20, -5}) {
		t.Errorf("%v: %v", n.Nodes(), s)
	}
	hold(t, n, 1)
}

// A net of no elements is solved: there is nothing in it.
func TestNoElements(t *testing.T) {
	n := netOf(t)
	for _, omega := range []float64{least, 3, greatest} {
		s := solved(t, n, omega)
		w, f := phasor.With(n, omega, nil)
		r, rounds, bad := phasor.Refined(n, omega, 7)
		if want := (api.Solution{Omega: omega}); !same(s, want) || f != (api.Fault{}) || !same(w, want) || bad != (api.Fault{}) || !same(r, want) || rounds != 0 {
			t.Errorf("of no elements at %v: %v; %v %v; %v %d %v", omega, s, w, f, r, rounds, bad)
		}
	}
	withRefusedAs(t, n, 1, []complex128{1}, api.Fault{Err: api.ErrShape, At: -1})
	s := solved(t, n, 3)
	if z, err := phasor.Volt(n, s, "0"); z != 0 || err != api.OK {
		t.Errorf("Volt of the ground: %v %d", z, err)
	}
	if z, err := phasor.Volt(n, s, "a"); z != 0 || err != api.ErrMissing {
		t.Errorf("Volt of a: %v %d", z, err)
	}
}

// P20.1, P20.2: what is refused, and what of it first.

// piece is a part of a net with something wrong in it, with nodes of its own, and what each call tells of that: Solve, Refined, and With of noughts.
type piece struct {
	elements               []api.Element
	solve, refined, silent api.Errno
	at                     string // the name of the element, of the node or of the branch that it is told at
}

// pieces are in the order in which what is wrong with them is told.
func pieces() []piece {
	return []piece{
		{[]api.Element{element("R10 g h", 1), element("I10 g 0", 1)}, 11, 11, 11, "g"},
		{[]api.Element{element("R20 m 0", 1), element("R21 m 0", least)}, 6, 6, 6, "R21"},
		{[]api.Element{element("R30 r 0", 1), element("I30 0 r", greatest), element("I31 0 r", greatest)}, 6, 6, 0, "I31"},
		{[]api.Element{element("R40 p 0", 0x1p900), element("R41 q 0", 0x1p900), element("G40 p 0 p 0", 1), element("G41 p 0 q 0", 0x1p1023), element("G42 q 0 p 0", -1), element("G43 q 0 q 0", 0x1p1023)}, 6, 6, 6, "p"},
		{[]api.Element{element("V50 s 0", 1), element("V51 s 0", 1)}, 7, 7, 7, "V51"},
		{[]api.Element{element("R60 x 0", 0x1p1000), element("I60 0 x", 0x1p1000)}, 6, 6, 0, ""},
		{leftover(), 0, 6, 0, ""},
	}
}

// leftover are elements of which Solve is not over, but what is left in a row: two terms of one sign, each of 2^1023 or more, go ahead of those that take them back.
func leftover() []api.Element {
	l := []api.Element{
		element("G1 a1 0 a1 0", 1), element("G2 a1 0 a3 0", 1), element("G3 a2 0 a2 0", 1), element("G4 a2 0 a4 0", 1), element("G5 a3 0 a1 0", 0.875), element("G6 a3 0 a2 0", 0.875),
		element("G7 a3 0 a3 0", 0.5), element("G8 a3 0 a4 0", 0.875), element("G9 a4 0 a4 0", 1), element("I1 0 a3", 0.375*0x1.8p1023), element("I2 a4 0", 0x1.8p1023),
	}
	var resistors []api.Element
	for _, node := range []string{"1", "2", "3", "4"} {
		resistors = append(resistors, element("R"+node+" a"+node+" 0", 0x1p1000))
	}
	return append(resistors, l...)
}

// faulty is a net of some pieces, with the faults of Solve, of Refined and of With of noughts.
type faulty struct {
	net                    *netlist.Net
	solve, refined, silent api.Fault
}

// told is the fault of an error of a piece.
func (p piece) told(t *testing.T, n *netlist.Net, err api.Errno) api.Fault {
	t.Helper()
	if p.at == "" || err == api.OK {
		return api.Fault{Err: err, At: -1}
	}
	if at, ok := n.Place(p.at); ok {
		return api.Fault{Err: err, At: at}
	}
	at := slices.IndexFunc(n.Elements(), func(e api.Element) bool { return e.Name == p.at })
	if row, ok := n.Branch(p.at); ok {
		at = len(n.Nodes()) + row
	}
	return api.Fault{Err: err, At: at}
}

// faultyNets are the nets of any of the pieces, from the first to the last and the other way about, but of none that tells nothing.
func faultyNets(t *testing.T) []faulty {
	t.Helper()
	var all []faulty
	for chosen := 1; chosen < 1<<len(pieces()); chosen++ {
		for _, turned := range []bool{false, true} {
			var some []piece
			l := []api.Element{element("R99 ok 0", 2), element("V99 fine 0", 3)}
			for i, p := range pieces() {
				if chosen&(1<<i) == 0 {
					continue
				}
				some = append(some, p)
				if turned {
					l = append(slices.Clone(p.elements), l...)
				} else {
					l = append(l, p.elements...)
				}
			}
			f := faulty{net: netOf(t, l...)}
			for _, p := range slices.Backward(some) {
				if p.solve != api.OK {
					f.solve = p.told(t, f.net, p.solve)
				}
				if p.refined != api.OK {
					f.refined = p.told(t, f.net, p.refined)
				}
				if p.silent != api.OK {
					f.silent = p.told(t, f.net, p.silent)
				}
			}
			all = append(all, f)
		}
	}
	return all
}

func TestWhatIsToldFirst(t *testing.T) {
	for _, c := range faultyNets(t) {
		if f := hold(t, c.net, 1); f != c.solve {
			t.Fatalf("Solve of\n%s%v; want %v", c.net.Print(), f, c.solve)
		}
		for _, most := range []int{0, 1, api.MaxRounds} {
			if s, rounds, f := phasor.Refined(c.net, 1, most); f != c.refined || c.refined.Err != 0 && (!nothing(s) || rounds != 0) {
				t.Fatalf("Refined of\n%s%v %d %v; want %v", c.net.Print(), s, rounds, f, c.refined)
			}
		}
		if s, f := phasor.With(c.net, 1, make([]complex128, c.net.Order())); f != c.silent || c.silent.Err != 0 && !nothing(s) {
			t.Fatalf("With noughts of\n%s%v %v; want %v", c.net.Print(), s, f, c.silent)
		}
	}
}

// What is wrong with an omega is told ahead of all that is wrong with the net, with how many rounds there may be, and with the right side.
func TestOmegas(t *testing.T) {
	nets := []*netlist.Net{netOf(t), dividing(t)}
	for _, c := range faultyNets(t)[:64] {
		nets = append(nets, c.net)
	}
	for _, n := range nets {
		for omega, want := range map[float64]api.Errno{
			nan: 5, inf: 5, -inf: 5, 0: 2, minus0: 2, -1: 2, -least: 2, -greatest: 2, -0x1p-1022: 2,
		} {
			f := api.Fault{Err: want, At: -1}
			refusedAs(t, n, omega, f)
			for _, most := range []int{-1, 65, math.MinInt} {
				if s, rounds, bad := phasor.Refined(n, omega, most); bad != f || !nothing(s) || rounds != 0 {
					t.Errorf("Refined at %v, most %d: %v %d %v", omega, most, s, rounds, bad)
				}
			}
			for _, right := range [][]complex128{nil, make([]complex128, n.Order()), make([]complex128, n.Order()+1), slices.Repeat([]complex128{complex(nan, 0)}, n.Order())} {
				withRefusedAs(t, n, omega, right, f)
			}
		}
	}
	// All others may be.
	for _, omega := range []float64{least, 0x1p-1022, 1, greatest} {
		if s := solved(t, dividing(t), omega); s.Omega != omega || s.Volts[1] != 4 {
			t.Errorf("at %v: %v", omega, s)
		}
	}
}

// How many rounds there may be is asked ahead of what is wrong with the net.
func TestRoundsThatMayBe(t *testing.T) {
	nets := []*netlist.Net{netOf(t), dividing(t)}
	for _, c := range faultyNets(t)[:64] {
		nets = append(nets, c.net)
	}
	for _, n := range nets {
		for _, most := range []int{-1, 65, 66, math.MinInt, math.MaxInt, 1 << 32, -64} {
			if s, rounds, f := phasor.Refined(n, 1, most); f != (api.Fault{Err: api.ErrArg, At: -1}) || !nothing(s) || rounds != 0 {
				t.Errorf("Refined, most %d, of\n%s%v %d %v", most, n.Print(), s, rounds, f)
			}
		}
	}
	for most := 0; most <= api.MaxRounds; most++ {
		if s, rounds, f := phasor.Refined(dividing(t), 1, most); f != (api.Fault{}) || rounds != 0 || !same(s, solved(t, dividing(t), 1)) {
			t.Errorf("Refined, most %d: %v %d %v", most, s, rounds, f)
		}
	}
}

// A right side must fit, then be finite, ahead of what is wrong with the net.
func TestRightSidesThatMayBe(t *testing.T) {
	nets := []*netlist.Net{dividing(t)}
	for _, c := range faultyNets(t)[:64] {
		nets = append(nets, c.net)
	}
	for _, n := range nets {
		order := n.Order()
		for _, count := range []int{0, 1, len(n.Nodes()), order - 1, order + 1, 2 * order, 70000} {
			if count == order {
				continue
			}
			for _, z := range []complex128{0, 1, complex(nan, 0), complex(0, inf)} {
				withRefusedAs(t, n, 1, slices.Repeat([]complex128{z}, count), api.Fault{Err: api.ErrShape, At: -1})
			}
		}
		for at := range order {
			for _, z := range []complex128{complex(nan, 0), complex(0, nan), complex(inf, 1), complex(-1, -inf), complex(-inf, inf), complex(inf, nan)} {
				right := make([]complex128, order)
				right[at] = z
				withRefusedAs(t, n, 1, right, api.Fault{Err: api.ErrNumber, At: -1})
			}
		}
	}
	// The greatest numbers may be.
	s, f := phasor.With(parsed(t, "R1 a 0 1, V1 b 0 1"), 1, []complex128{complex(greatest, 0), complex(0, -1), complex(-2, greatest)})
	if f != (api.Fault{}) || s.Volts[0] != greatest || s.Volts[1] != complex(-2, greatest) || s.Amps[0] != complex(0, -1) {
		t.Errorf("With the greatest numbers: %v %v", s, f)
	}
}

// What is no net is refused ahead of all else.
func TestNoNet(t *testing.T) {
	none := api.Fault{Err: api.ErrNil, At: -1}
	for _, n := range []*netlist.Net{nil, {}, new(netlist.Net)} {
		for _, x := range []float64{1, 0, minus0, -1, nan, inf, -inf, greatest, least} {
			if s, f := phasor.Solve(n, x); f != none || !nothing(s) {
				t.Errorf("Solve of no net at %v: %v %v", x, s, f)
			}
			for _, most := range []int{0, 1, -1, 65} {
				if s, rounds, f := phasor.Refined(n, x, most); f != none || !nothing(s) || rounds != 0 {
					t.Errorf("Refined of no net at %v: %v %d %v", x, s, rounds, f)
				}
			}
			for _, right := range [][]complex128{nil, {}, {1}, {complex(nan, 0)}} {
				if s, f := phasor.With(n, x, right); f != none || !nothing(s) {
					t.Errorf("With of no net at %v: %v %v", x, s, f)
				}
			}
			if scaled, err := phasor.Scaled(n, x); scaled != nil || err != api.ErrNil {
				t.Errorf("Scaled of no net by %v: %v %d", x, scaled, err)
			}
		}
		if quiet := phasor.Quiet(n); quiet != nil {
			t.Errorf("Quiet of no net: %v", quiet)
		}
		for _, ask := range asks() {
			for _, s := range []api.Solution{{}, {Omega: 1}, {Volts: []complex128{1}}, {Volts: []complex128{}, Amps: []complex128{}}} {
				for _, name := range []string{"0", "", "a", "R1"} {
					if z, err := ask(n, s, name); z != 0 || err != api.ErrNil {
						t.Errorf("of %q of no net: %v %d", name, z, err)
					}
				}
			}
		}
	}
}

// P20.2: Refined.

// What Refined tells leaves no more over than what Solve does, and now and then less (P5).
func TestRefiningLeavesNoMore(t *testing.T) {
	better := 0
	for seed := range uint64(300) {
		n := joined(t, mingled(t, 5+int(seed%30), seed+300, "RRCLIGEV", sized(-32, 64)), 0x1p40)
		s, f := phasor.Solve(n, 1)
		if f.Err != 0 {
			continue
		}
		m, right := flatOf(n.Elements(), 1), must(source.Right(n))
		size := func(s api.Solution) float64 {
			left, err := refine.Left(m, numbersOf(s), right)
			if err != api.OK {
				t.Fatalf("Left of\n%s%d", n.Print(), err)
			}
			return vector.Norm1(left)
		}
		before := size(s)
		for _, most := range []int{0, 1, 2, 5, api.MaxRounds} {
			r, rounds, f := phasor.Refined(n, 1, most)
			if f != (api.Fault{}) || rounds > most || size(r) > before || rounds == 0 && !same(r, s) || rounds > 0 && !(size(r) < before) {
				t.Fatalf("Refined, most %d, of\n%s%v %d %v; Solve tells %v", most, n.Print(), r, rounds, f, s)
			}
			if rounds > 0 {
				better++
			}
		}
		hold(t, n, 1)
	}
	if better < 200 {
		t.Errorf("%d were bettered", better)
	}
}

// Solve is not over, but what it leaves: so Refined alone is refused, without a round too.
func TestLeftIsOver(t *testing.T) {
	n := netOf(t, leftover()...)
	if s := solved(t, n, 1); !slices.Equal(s.Volts, []complex128{0x1.8p1023, 0x1.8p1023, -0x1.8p1023, -0x1.8p1023}) {
		t.Errorf("%v", s)
	}
	for most := 0; most <= api.MaxRounds; most++ {
		if s, rounds, f := phasor.Refined(n, 1, most); f != (api.Fault{Err: api.ErrOver, At: -1}) || !nothing(s) || rounds != 0 {
			t.Errorf("Refined, most %d: %v %d %v", most, s, rounds, f)
		}
	}
}

// P20.1: With.

// Of the net's own right side With tells what Solve tells; of another one the net's own sources do not show.
func TestWithOtherRightSides(t *testing.T) {
	for seed := range uint64(100) {
		n := joined(t, mingled(t, 1+int(seed%20), seed+1, "RLCIVGEPPP", near), 3)
		right, f := source.Right(n)
		if f != (api.Fault{}) {
			t.Fatalf("%v", f)
		}
		want, bad := phasor.Solve(n, 2)
		if s, f := phasor.With(n, 2, right); f != bad || !same(s, want) {
			t.Fatalf("With its own right side, of\n%s%v %v; Solve tells %v %v", n.Print(), s, f, want, bad)
		}
		for _, e := range n.Elements() {
			if e.Kind != api.Port {
				continue
			}
			driven := must(source.Driven(n, e.Name))
			want, bad := phasor.With(n, 2, driven)
			quiet, loud := phasor.Quiet(n), allowed(phasor.Scaled(n, -0.3))
			for _, other := range []*netlist.Net{quiet, loud} {
				if s, f := phasor.With(other, 2, driven); f != bad || !same(s, want) {
					t.Fatalf("With the port %s driven, of\n%s%v %v; of others %v %v", e.Name, n.Print(), want, bad, s, f)
				}
			}
		}
	}
	n := parsed(t, "R1 a b 2, R2 b 0 4, V1 a 0 6")
	for i, want := range []api.Solution{
		{Omega: 1, Volts: []complex128{0, 0}, Amps: []complex128{1}}, {Omega: 1, Volts: []complex128{0, 4.0 / 3}, Amps: []complex128{2.0 / 3}}, {Omega: 1, Volts: []complex128{1, 2.0 / 3}, Amps: []complex128{-1.0 / 6}},
	} {
		right := make([]complex128, 3)
		right[i] = 1
		s, f := phasor.With(n, 1, right)
		for k, z := range numbersOf(s) {
			if d := z - numbersOf(want)[k]; f != (api.Fault{}) || real(d)*real(d)+imag(d)*imag(d) > 1e-30 {
				t.Errorf("With 1 at %d: %v %v; want about %v", i, s, f, want)
			}
		}
	}
}

// allowed gives what is told without an error.
func allowed[T any](answer T, err api.Errno) T {
	return must(answer, api.Fault{Err: err})
}

// P20.3: Volt, Across, Branch.

// asks are the three of them.
func asks() []func(n *netlist.Net, s api.Solution, name string) (complex128, api.Errno) {
	return []func(n *netlist.Net, s api.Solution, name string) (complex128, api.Errno){phasor.Volt, phasor.Across, phasor.Branch}
}

// rich is a net with elements of all kinds.
func rich(t *testing.T) *netlist.Net {
	t.Helper()
	return parsed(t, "V1 a 0 6, R1 a b 2, L1 b c 3, C1 c 0 1, I1 0 c 2 7, E1 d 0 b c 2, G1 d b a c 500m, P1 d b 50, V2 0 e -1 5, R2 e c 3")
}

// Which names each knows; of those that it does not know it tells why.
func TestNamesThatAreAsked(t *testing.T) {
	n := rich(t)
	s := solved(t, n, 1.5)
	holdNumbers(t, n, s)
	for name, want := range map[string][3]api.Errno{
		"0": {0, 10, 10}, "a": {0, 10, 10}, "e": {0, 10, 10}, "V1": {10, 0, 0}, "V2": {10, 0, 0}, "E1": {10, 0, 0},
		"R1": {10, 0, 2}, "L1": {10, 0, 2}, "C1": {10, 0, 2}, "I1": {10, 0, 2}, "G1": {10, 0, 2}, "P1": {10, 0, 2},
		"": {10, 10, 10}, "00": {10, 10, 10}, "A": {10, 10, 10}, "f": {10, 10, 10}, " a": {10, 10, 10}, "a ": {10, 10, 10}, "v1": {10, 10, 10}, "V": {10, 10, 10}, "V3": {10, 10, 10}, "X9": {10, 10, 10}, "\xff": {10, 10, 10},
		strings.Repeat("a", 1<<16): {10, 10, 10}, "V1\x00": {10, 10, 10},
	} {
		for i, ask := range asks() {
			if z, err := ask(n, s, name); err != want[i] || err != api.OK && z != 0 {
				t.Errorf("%d of %.20q: %v %d; want %d", i, name, z, err, want[i])
			}
		}
	}
	// The node 00 is not the ground.
	n = parsed(t, "V1 00 0 7, R1 00 0 1")
	if z, err := phasor.Volt(n, solved(t, n, 1), "00"); z != 7 || err != api.OK {
		t.Errorf("Volt of 00: %v %d", z, err)
	}
}

// What does not fit is refused ahead of what is asked.
func TestSolutionsThatDoNotFit(t *testing.T) {
	n := rich(t)
	nodes, branches := len(n.Nodes()), len(n.Branches())
	for volts := range nodes + 3 {
		for amps := range branches + 3 {
			s := api.Solution{Omega: 1.5, Volts: make([]complex128, volts, 20), Amps: make([]complex128, amps, 20)}
			for _, ask := range asks() {
				for _, name := range []string{"0", "a", "e", "V1", "R1", "X9", ""} {
					z, err := ask(n, s, name)
					if fits := volts == nodes && amps == branches; fits == (err == api.ErrShape) || z != 0 {
						t.Errorf("of %q of %d volts, %d amperes: %v %d", name, volts, amps, z, err)
					}
				}
			}
		}
	}
	for _, s := range []api.Solution{{}, {Omega: nan}, {Volts: make([]complex128, nodes+branches)}, {Amps: make([]complex128, nodes+branches)}, {Volts: make([]complex128, branches), Amps: make([]complex128, nodes)}} {
		for _, ask := range asks() {
			if z, err := ask(n, s, "0"); z != 0 || err != api.ErrShape {
				t.Errorf("of the ground of %v: %v %d", s, z, err)
			}
		}
	}
}

// Numbers are told as they stand in what was handed in, whatever they are, and whatever its omega; differences are what the operation says.
func TestNumbersOfAnyKind(t *testing.T) {
	n := parsed(t, "R1 a b 1, R2 0 a 1, R3 b 0 1, V1 a 0 1, E1 0 b a 0 1")
	reals := []float64{0, minus0, 1, -1, least, -least, 1 + 0x1p-52, 0x1p53, greatest, -greatest, inf, -inf, nan}
	alike := func(a, b complex128) bool {
		part := func(x, y float64) bool {
			return math.Float64bits(x) == math.Float64bits(y) || x != x && y != y
		}
		return part(real(a), real(b)) && part(imag(a), imag(b))
	}
	var numbers []complex128
	for _, re := range reals {
		for _, im := range reals {
			numbers = append(numbers, complex(re, im))
		}
	}
	for i, z := range numbers {
		for _, y := range numbers {
			s := api.Solution{Omega: reals[i%len(reals)], Volts: []complex128{z, y}, Amps: []complex128{y, z}}
			for _, c := range []struct {
				ask  func(n *netlist.Net, s api.Solution, name string) (complex128, api.Errno)
				name string
				want complex128
			}{
				{phasor.Volt, "a", z}, {phasor.Volt, "b", y}, {phasor.Volt, "0", 0}, {phasor.Branch, "V1", y}, {phasor.Branch, "E1", z},
				{phasor.Across, "R1", difference(z, y)}, {phasor.Across, "R2", difference(0, z)}, {phasor.Across, "R3", difference(y, 0)}, {phasor.Across, "V1", difference(z, 0)}, {phasor.Across, "E1", difference(0, y)},
			} {
				if got, err := c.ask(n, s, c.name); err != api.OK || !alike(got, c.want) {
					t.Fatalf("of %s of %v: %v %d; want %v", c.name, s, got, err, c.want)
				}
			}
		}
	}
}

// P20.4: Quiet, Scaled.

// changed are elements whose sources have other values.
func changed(l []api.Element, value func(v float64) float64) []api.Element {
	l = slices.Clone(l)
	for i := range l {
		if isSource(l[i]) {
			l[i].Value = value(l[i].Value)
		}
	}
	return l
}

// sameElements tells whether elements are the same, each value to the bit.
func sameElements(a, b []api.Element) bool {
	return slices.EqualFunc(a, b, func(x, y api.Element) bool {
		return x == y && math.Float64bits(x.Value) == math.Float64bits(y.Value)
	})
}

func TestQuiet(t *testing.T) {
	nets := []*netlist.Net{netOf(t), rich(t), dividing(t), parsed(t, "R1 a 0 1"), netOf(t, leftover()...), netOf(t, element("V1 a 0 -30", minus0), element("I1 a 0 3", -least), element("E1 b 0 a 0", minus0), element("G1 b 0 a 0", -1))}
	for _, c := range faultyNets(t)[:64] {
		nets = append(nets, c.net)
	}
	for seed := range uint64(60) {
		nets = append(nets, mingled(t, int(seed), seed+1, "RLCIVGEP", sized(-1000, 2000)))
	}
	for _, n := range nets {
		before := n.Elements()
		quiet := phasor.Quiet(n)
		if want := changed(before, func(float64) float64 { return 0 }); quiet == nil || quiet == n || !sameElements(quiet.Elements(), want) {
			t.Fatalf("Quiet of\n%sis\n%s", n.Print(), quiet.Print())
		}
		if !sameElements(n.Elements(), before) || !slices.Equal(quiet.Nodes(), n.Nodes()) || !slices.Equal(quiet.Branches(), n.Branches()) {
			t.Fatalf("Quiet of\n%s", n.Print())
		}
	}
}

func TestScaled(t *testing.T) {
	values := []float64{0, minus0, 1, -1, 3, -0.1, least, -least, 3 * least, 0x1p-1022, 0x1.fffffffffffffp-1, 1 + 0x1p-52, 0x1p512, -0x1p512, 0x1p1023, greatest, -greatest}
	for _, x := range values {
		for _, v := range values {
			for _, w := range []float64{1, v} {
				l := []api.Element{element("R1 a 0", greatest), element("I1 a 0 -7", v), element("G1 a 0 a b", greatest), element("V1 b 0 31", w), element("E1 c 0 a b", -greatest), element("P1 c 0", least), element("C1 b 0", greatest), element("L1 b a", greatest)}
				n := netOf(t, l...)
				want := changed(l, func(y float64) float64 { return times(y, x) })
				scaled, err := phasor.Scaled(n, x)
				if math.IsInf(times(v, x), 0) || math.IsInf(times(w, x), 0) {
					if scaled != nil || err != api.ErrOver {
						t.Fatalf("Scaled by %v of\n%s%s%d", x, n.Print(), scaled.Print(), err)
					}
				} else if err != api.OK || scaled == nil || scaled == n || !sameElements(scaled.Elements(), want) {
					t.Fatalf("Scaled by %v of\n%sis\n%s%d", x, n.Print(), scaled.Print(), err)
				}
				if !sameElements(n.Elements(), l) {
					t.Fatalf("Scaled by %v changed it to\n%s", x, n.Print())
				}
			}
		}
	}
	// Of any kind of source, the first or the last.
	for _, line := range []string{"I9 a 0", "V9 a 0"} {
		for at := range 3 {
			l := slices.Insert([]api.Element{element("R1 a 0", 1), element("I1 a 0", 1)}, at, element(line, 0x1p1000))
			if scaled, err := phasor.Scaled(netOf(t, l...), 0x1p24); scaled != nil || err != api.ErrOver {
				t.Errorf("Scaled of\n%s%d", netOf(t, l...).Print(), err)
			}
			if scaled, err := phasor.Scaled(netOf(t, l...), 0x1p23); scaled == nil || err != api.OK {
				t.Errorf("Scaled of\n%s%d", netOf(t, l...).Print(), err)
			}
		}
	}
	// What is not finite is refused, of nets without sources too, and of those that would be over.
	for _, n := range []*netlist.Net{netOf(t), parsed(t, "R1 a 0 1"), dividing(t), netOf(t, element("V1 a 0", greatest))} {
		for _, x := range []float64{inf, -inf, nan, math.Float64frombits(0xfff0000000000001)} {
			if scaled, err := phasor.Scaled(n, x); scaled != nil || err != api.ErrNumber {
				t.Errorf("Scaled by %v of\n%s%d", x, n.Print(), err)
			}
		}
	}
	for _, x := range []float64{greatest, 0, minus0, -1} {
		n := parsed(t, "R1 a 0 1, G1 b 0 a 0 -1, E1 b 0 a 0 4")
		if scaled, err := phasor.Scaled(n, x); err != api.OK || !sameElements(scaled.Elements(), n.Elements()) {
			t.Errorf("Scaled of a net without sources: %d", err)
		}
		if scaled, err := phasor.Scaled(netOf(t), x); err != api.OK || scaled == nil || len(scaled.Elements()) != 0 {
			t.Errorf("Scaled of no elements: %d", err)
		}
	}
}

// P20.5, P20.6: what follows.

// Of a net without its sources all is nought.
func TestQuietNetsAreQuiet(t *testing.T) {
	count := 0
	for seed := range uint64(300) {
		n := phasor.Quiet(joined(t, mingled(t, 1+int(seed%30), seed+1, "RLCIVGEPR", near), 3))
		if f := hold(t, n, 2); f.Err != 0 {
			continue
		}
		count++
		if s := solved(t, n, 2); slices.ContainsFunc(numbersOf(s), func(z complex128) bool { return z != 0 }) {
			t.Fatalf("Solve of\n%s%v", n.Print(), s)
		}
	}
	if count < 100 {
		t.Errorf("%d nets", count)
	}
}

// With sources times a power of two, or its opposite, all numbers are so many times as great.
func TestScaledNets(t *testing.T) {
	count := 0
	for seed := range uint64(300) {
		n := joined(t, mingled(t, 1+int(seed%30), seed+1, "RLCIVGEPR", near), 3)
		s, f := phasor.Solve(n, 2)
		if f.Err != 0 {
			continue
		}
		count++
		for _, x := range []float64{1, -1, 2, -2, 0.5, 0x1p300, -0x1p300, 0x1p-300, -0x1p-299} {
			scaled := allowed(phasor.Scaled(n, x))
			got := solved(t, scaled, 2)
			if !slices.EqualFunc(numbersOf(got), numbersOf(s), func(y, z complex128) bool { return y == complex(real(z)*x, imag(z)*x) }) {
				t.Fatalf("Solve of\n%s%v; times %v %v", n.Print(), s, x, got)
			}
		}
	}
	if count < 100 {
		t.Errorf("%d nets", count)
	}
}

// Elements' names, and nodes' names but for their order, show in no number (P9).
func TestNamesShowNowhere(t *testing.T) {
	nodes := map[string]string{"0": "0", "": "", "a": "z", "b": "00", "c": "a", "d": "_", "e": "b", "f": "abcdefghijklmnop"}
	for seed := range uint64(200) {
		n := joined(t, mingled(t, 1+int(seed%30), seed+1, "RLCIIVVGEP", near), 3)
		want, bad := phasor.Solve(n, 0.7)
		refined, rounds, worse := phasor.Refined(n, 0.7, 5)
		var renamed []api.Element
		for i, e := range n.Elements() {
			e.Name = e.Name[:1] + "x" + strconv.Itoa(1000-i)
			e.A, e.B, e.C, e.D = nodes[e.A], nodes[e.B], nodes[e.C], nodes[e.D]
			renamed = append(renamed, e)
		}
		other := netOf(t, renamed...)
		if s, f := phasor.Solve(other, 0.7); f != bad || !same(s, want) {
			t.Fatalf("Solve of\n%s%v %v; of\n%s%v %v", n.Print(), want, bad, other.Print(), s, f)
		}
		if s, count, f := phasor.Refined(other, 0.7, 5); f != worse || count != rounds || !same(s, refined) {
			t.Fatalf("Refined of\n%s%v %d %v; of\n%s%v %d %v", n.Print(), refined, rounds, worse, other.Print(), s, count, f)
		}
	}
}

// Without Coils and Capacitors, and with sources half a turn apart, all is real.
func TestRealNets(t *testing.T) {
	count := 0
	for seed := range uint64(400) {
		var l []api.Element
		for _, e := range joined(t, mingled(t, 1+int(seed%40), seed+1, "RRIVGEPI", near), 3).Elements() {
			e.Phase *= 12
			l = append(l, e)
		}
		n := netOf(t, l...)
		if hold(t, n, 2).Err != 0 {
			continue
		}
		count++
		r, _, f := phasor.Refined(n, 2, 3)
		if s := solved(t, n, 2); f != (api.Fault{}) || slices.ContainsFunc(append(numbersOf(s), numbersOf(r)...), func(z complex128) bool { return imag(z) != 0 }) {
			t.Fatalf("Solve of\n%s%v; Refined %v %v", n.Print(), s, r, f)
		}
	}
	if count < 100 {
		t.Errorf("%d nets", count)
	}
}

// DOC.md's rules: new memory, nothing that was handed in changed.

// spoil writes over a list, and over its spare room.
func spoil(l []complex128) {
	all := l[:cap(l)]
	for i := range all {
		all[i] = complex(nan, -7)
	}
}

func TestAnswersAreNewMemory(t *testing.T) {
	n := rich(t)
	text, want := n.Print(), solved(t, n, 1.5)
	kept := api.Solution{Omega: 1.5, Volts: slices.Clone(want.Volts), Amps: slices.Clone(want.Amps)}
	right := must(source.Right(n))
	room := append(slices.Clone(right), 8, 9)
	for range 3 {
		for _, most := range []int{0, 3} {
			s := solved(t, n, 1.5)
			w, f := phasor.With(n, 1.5, room[:len(right)])
			r, _, bad := phasor.Refined(n, 1.5, most)
			again, _, worse := phasor.Refined(n, 1.5, most)
			if !same(s, kept) || f != (api.Fault{}) || !same(w, kept) || bad != (api.Fault{}) || worse != bad || !same(r, again) {
				t.Fatalf("another time: %v; %v %v; %v %v", s, w, f, r, bad)
			}
			for _, one := range []api.Solution{s, w, r} {
				amps := slices.Clone(one.Amps)
				spoil(one.Volts)
				if !sameList(one.Amps, amps) {
					t.Fatal("the amperes stand in the volts' room")
				}
				volts := slices.Clone(one.Volts)
				spoil(one.Amps)
				if !slices.EqualFunc(one.Volts, volts, func(y, z complex128) bool { return imag(y) == imag(z) }) {
					t.Fatal("the volts stand in the amperes' room")
				}
			}
			if !sameList(again.Volts, refinedOf(phasor.Refined(n, 1.5, most)).Volts) {
				t.Fatal("what was told ahead was changed")
			}
		}
	}
	if !same(want, kept) || n.Print() != text || !sameList(room, append(slices.Clone(right), 8, 9)) {
		t.Errorf("what was told ahead, or handed in, was changed: %v, %v\n%s", want, room, n.Print())
	}
	w, _ := phasor.With(n, 1.5, room[:len(right)])
	spoil(room)
	if !same(w, kept) {
		t.Error("a right side was kept")
	}
}

// refinedOf gives a solution that is refined without a fault.
func refinedOf(s api.Solution, _ int, f api.Fault) api.Solution { return must(s, f) }

// A solution that is asked stays as it was, its spare room too.
func TestSolutionsStayAsTheyWere(t *testing.T) {
	n := rich(t)
	s := solved(t, n, 1.5)
	roomy := api.Solution{Omega: 1.5, Volts: append(slices.Clone(s.Volts), 5, 6)[:len(s.Volts)], Amps: append(slices.Clone(s.Amps), 7)[:len(s.Amps)]}
	holdNumbers(t, n, roomy)
	if !same(roomy, s) || roomy.Volts[:len(s.Volts)+2][len(s.Volts)] != 5 || roomy.Amps[:len(s.Amps)+1][len(s.Amps)] != 7 {
		t.Errorf("%v became %v", s, roomy)
	}
}

// A net that is told goes its own way: with an element more or less neither net shows in the other.
func TestNetsThatAreTold(t *testing.T) {
	n := rich(t)
	text := n.Print()
	for _, told := range []*netlist.Net{phasor.Quiet(n), allowed(phasor.Scaled(n, 2))} {
		was := told.Print()
		l := told.Elements()
		for i := range l[:cap(l)] {
			l[:cap(l)][i] = api.Element{}
		}
		if _, f := told.With(element("V9 z 0", 3)); f != (api.Fault{}) {
			t.Error(f)
		}
		if _, err := told.Without("V1"); err != api.OK {
			t.Error(err)
		}
		if told.Print() != was || n.Print() != text {
			t.Errorf("%s became\n%s", was, told.Print())
		}
	}
}

// P1: the same again, side by side.
func TestCallsSideBySide(t *testing.T) {
	n, over := rich(t), netOf(t, leftover()...)
	want, refined := solved(t, n, 1.5), refinedOf(phasor.Refined(n, 1.5, 4))
	right := must(source.Right(n))
	var group sync.WaitGroup
	for range 8 {
		group.Go(func() {
			for range 40 {
				s, f := phasor.Solve(n, 1.5)
				w, bad := phasor.With(n, 1.5, right)
				r, _, worse := phasor.Refined(n, 1.5, 4)
				_, _, worst := phasor.Refined(over, 1, 4)
				if f != (api.Fault{}) || bad != f || worse != f || worst != (api.Fault{Err: api.ErrOver, At: -1}) || !same(s, want) || !same(w, want) || !same(r, refined) {
					t.Errorf("side by side: %v %v; %v %v; %v %v; %v", s, f, w, bad, r, worse, worst)
				}
				z, err := phasor.Across(n, want, "R1")
				double, refusal := phasor.Scaled(n, 2)
				if err != api.OK || z != want.Volts[0]-want.Volts[1] || refusal != api.OK || phasor.Quiet(double).Print() != phasor.Quiet(n).Print() {
					t.Errorf("side by side: %v %d %d", z, err, refusal)
				}
				spoil(s.Volts)
				spoil(w.Amps)
				spoil(r.Volts)
			}
		})
	}
	group.Wait()
}
