package stamp_test

import (
	"math"
	"slices"
	"strconv"
	"strings"
	"sync"
	"testing"

	"gridwork/api"
	"gridwork/matrix"
	"gridwork/netlist"
	"gridwork/parts"
	"gridwork/stamp"
)

const (
	least    = 0x1p-1074
	greatest = math.MaxFloat64
)

var (
	inf    = math.Inf(1)
	nan    = math.NaN()
	minus0 = math.Copysign(0, -1)
)

// The document's words, worked out apart from the program: of names, a change of the matrix after the other.

// change is one addition, or one subtraction, at the row and the column of some names.
type change struct {
	row, col string
	less     bool
	re, im   float64
}

func plus(row, col string, re, im float64) change { return change{row, col, false, re, im} }

func less(row, col string, re, im float64) change { return change{row, col, true, re, im} }

// admittanceOf is what 'What a net comes to', 1, says, by an element's letter; false, if it has none or it is over.
func admittanceOf(e api.Element, omega float64) (re, im float64, ok bool) {
	p := float64(omega * e.Value)
	switch e.Name[0] {
	case 'R', 'P':
		re = 1 / e.Value
	case 'C':
		im = p
	case 'L':
		im = -(1 / p)
		if math.IsInf(p, 0) {
			return 0, 0, false
		}
	default:
		return 0, 0, false
	}
	return re, im, !math.IsInf(re, 0) && !math.IsInf(im, 0)
}

// changesOf is what 2 says of an element, in its order, the ground's changes too; false, if its admittance is over.
func changesOf(e api.Element, omega float64) ([]change, bool) {
	branch := []change{plus(e.A, e.Name, 1, 0), plus(e.Name, e.A, 1, 0), less(e.B, e.Name, 1, 0), less(e.Name, e.B, 1, 0)}
	switch e.Name[0] {
	case 'I':
		return nil, true
	case 'V':
		return branch, true
	case 'E':
		return append(branch, less(e.Name, e.C, e.Value, 0), plus(e.Name, e.D, e.Value, 0)), true
	case 'G':
		return []change{plus(e.A, e.C, e.Value, 0), less(e.A, e.D, e.Value, 0), less(e.B, e.C, e.Value, 0), plus(e.B, e.D, e.Value, 0)}, true
	}
	re, im, ok := admittanceOf(e, omega)
	return []change{plus(e.A, e.A, re, im), plus(e.B, e.B, re, im), less(e.A, e.B, re, im), less(e.B, e.A, re, im)}, ok
}

// rowsOf are the names of the rows: the nodes, as they first stand, then the branches.
func rowsOf(l []api.Element) []string {
	var nodes, branches []string
	for _, e := range l {
		for _, node := range []string{e.A, e.B, e.C, e.D} {
			if node != "" && node != "0" && !slices.Contains(nodes, node) {
				nodes = append(nodes, node)
			}
		}
		if strings.IndexByte("VE", e.Name[0]) >= 0 {
			branches = append(branches, e.Name)
		}
	}
	return append(nodes, branches...)
}

// pair is a number, part by part.
type pair struct{ re, im float64 }

func (p pair) changed(c change) pair {
	if c.less {
		return pair{float64(p.re) - c.re, float64(p.im) - c.im}
	}
	return pair{float64(p.re) + c.re, float64(p.im) + c.im}
}

func (p pair) finite() bool {
	return !math.IsInf(p.re, 0) && !math.IsInf(p.im, 0) && p.re == p.re && p.im == p.im
}

// matrixOf is what P18.1 says of a net that is one, at an omega that may be.
func matrixOf(l []api.Element, omega float64) (api.Matrix, api.Fault) {
	entries := map[[2]string]pair{}
	for at, e := range l {
		changes, ok := changesOf(e, omega)
		if !ok {
			return api.Matrix{}, api.Fault{Err: 6, At: at}
		}
		for _, c := range changes {
			if c.row == "0" || c.col == "0" {
				continue
			}
			place := [2]string{c.row, c.col}
			entries[place] = entries[place].changed(c)
			if !entries[place].finite() {
				return api.Matrix{}, api.Fault{Err: 6, At: at}
			}
		}
	}
	rows := rowsOf(l)
	m := api.Matrix{Rows: len(rows), Cols: len(rows)}
	for _, row := range rows {
		for _, col := range rows {
			p := entries[[2]string{row, col}]
			m.Data = append(m.Data, complex(p.re, p.im))
		}
	}
	return m, api.Fault{}
}

// same tells whether two matrices have the same bits.
func same(a, b api.Matrix) bool {
	return a.Rows == b.Rows && a.Cols == b.Cols && slices.EqualFunc(a.Data, b.Data, sameNumber)
}

func sameNumber(a, b complex128) bool {
	return math.Float64bits(real(a)) == math.Float64bits(real(b)) && math.Float64bits(imag(a)) == math.Float64bits(imag(b))
}

// element makes an element of a line's words, but for its value.
func element(line string, v float64) api.Element {
	words := strings.Fields(line)
	e := api.Element{Name: words[0], A: words[1], B: words[2], Value: v}
	e.Kind = api.Kind(1 + strings.IndexByte("RLCIVGEP", e.Name[0]))
	if len(words) > 3 {
		e.C, e.D = words[3], words[4]
	}
	return e
}

// must gives the net of elements that make one.
func must(t *testing.T, l ...api.Element) *netlist.Net {
	t.Helper()
	n, f := netlist.Of(l)
	if n == nil || f != (api.Fault{}) {
		t.Fatalf("Of %v: %v", l, f)
	}
	return n
}

// mustParse gives the net of a text that is one's, its lines parted by commas.
func mustParse(t *testing.T, s string) *netlist.Net {
	t.Helper()
	n, f := netlist.Parse(strings.ReplaceAll(s, ", ", "\n"))
	if n == nil || f != (api.Fault{}) {
		t.Fatalf("Parse(%.60q): %v", s, f)
	}
	return n
}

// mustMatrix gives the matrix of a net that is not refused.
func mustMatrix(t *testing.T, n *netlist.Net, omega float64) api.Matrix {
	t.Helper()
	m, f := stamp.Matrix(n, omega)
	if f != (api.Fault{}) {
		t.Fatalf("Matrix at %v of\n%s%v", omega, n.Print(), f)
	}
	return m
}

// hold holds what is told of a net against the document's words.
func hold(t *testing.T, n *netlist.Net, omega float64) {
	t.Helper()
	l := n.Elements()
	got, f := stamp.Matrix(n, omega)
	want, bad := matrixOf(l, omega)
	if f != bad || !same(got, want) {
		t.Fatalf("Matrix at %v of\n%s%v %v; want %v %v", omega, n.Print(), got, f, want, bad)
	}
	if names := stamp.Names(n); !slices.Equal(names, rowsOf(l)) {
		t.Fatalf("Names of\n%s%q; want %q", n.Print(), names, rowsOf(l))
	}
	if f != (api.Fault{}) {
		return
	}
	if got.Rows != n.Order() || got.Cols != n.Order() || len(got.Data) != n.Order()*n.Order() {
		t.Fatalf("Matrix of the order %d: %d rows, %d columns, %d numbers", n.Order(), got.Rows, got.Cols, len(got.Data))
	}
	if alone := func(e api.Element) bool { return e.Kind == api.Transfer || e.Kind == api.Amplifier }; !slices.ContainsFunc(l, alone) && !matrix.Symmetric(got) {
		t.Fatalf("Matrix at %v of\n%s%v: not as its transpose", omega, n.Print(), got)
	}
}

// refusedAs holds that a net is refused, and nothing told with it.
func refusedAs(t *testing.T, n *netlist.Net, omega float64, want api.Fault) {
	t.Helper()
	m, f := stamp.Matrix(n, omega)
	if f != want || m.Rows != 0 || m.Cols != 0 || len(m.Data) != 0 {
		t.Errorf("Matrix at %v of\n%s%v %v; want %v", omega, n.Print(), m, f, want)
	}
}

// scatter gives whole numbers of 64 bits, always the same ones.
func scatter(n int, seed uint64) []uint64 {
	var all []uint64
	for range n {
		seed ^= seed << 13
		seed ^= seed >> 7
		seed ^= seed << 17
		all = append(all, seed)
	}
	return all
}

// near is a real from 2^-32 to 2^32 with mingled bits.
func near(bits uint64) float64 {
	return math.Ldexp(1+float64(bits>>12)*0x1p-52, int(bits%64)-32)
}

// mingled gives a net of so many elements among the ground and six nodes, with values that a function makes of mingled bits.
func mingled(t *testing.T, count int, seed uint64, letters string, values func(bits uint64) float64) *netlist.Net {
	t.Helper()
	nodes := []string{"0", "a", "b", "c", "d", "e", "f"}
	bits := scatter(3*count, seed)
	var l []api.Element
	for i := range count {
		kind, wires, v := bits[3*i]>>20, bits[3*i+1]>>20, values(bits[3*i+2])
		a := int(wires % 7)
		b := (a + 1 + int(wires/7%6)) % 7
		line := string(letters[kind%uint64(len(letters))]) + strconv.Itoa(i) + " " + nodes[a] + " " + nodes[b]
		if strings.IndexByte("GE", line[0]) >= 0 {
			line += " " + nodes[wires/42%7] + " " + nodes[wires/294%7]
		}
		if strings.IndexByte("RLCP", line[0]) < 0 && kind&(1<<30) != 0 {
			v = -v
		}
		l = append(l, element(line, v))
	}
	return must(t, l...)
}

// The examples of the chapter, and those of the whole.

func TestExamplesOfMatrices(t *testing.T) {
	for _, c := range []struct {
		net    string
		omegas []float64
		want   []complex128
	}{
		{"R1 a b 2, R2 b 0 4", []float64{least, 0.5, 1, 2, greatest}, []complex128{0.5, -0.5, -0.5, 0.75}},
		{"L1 a 0 0.5, C1 a 0 0.25", []float64{2}, []complex128{complex(0, -1+0.5)}},
		{"V1 a 0 5", []float64{least, 1, greatest}, []complex128{0, 1, 1, 0}},
		{"G1 a 0 b 0 3, R1 b 0 1", []float64{least, 1, greatest}, []complex128{0, 3, 0, 1}},
		{"E1 a 0 b 0 3, R1 b 0 1", []float64{least, 1, greatest}, []complex128{0, 0, 1, 0, 1, 0, 1, -3, 0}},
		{"R1 a b 2, R2 b 0 4, V1 a 0 6", []float64{1}, []complex128{0.5, -0.5, 1, -0.5, 0.75, 0, 1, 0, 0}},
		{"L1 a 0 0.5, C1 a 0 0.25, I1 0 a 1", []float64{2}, []complex128{complex(0, -0.5)}},
	} {
		for _, omega := range c.omegas {
			n := mustParse(t, c.net)
			if m := mustMatrix(t, n, omega); !slices.Equal(m.Data, c.want) {
				t.Errorf("Matrix at %v of %s: %v; want %v", omega, c.net, m.Data, c.want)
			}
			hold(t, n, omega)
		}
	}
}

func TestExamplesOfErrors(t *testing.T) {
	r1, r2 := element("R1 a 0", 0x1p-1023), element("R2 a 0", 0x1p-1023)
	refusedAs(t, must(t, element("R1 a 0", least)), 1, api.Fault{Err: api.ErrOver, At: 0})
	refusedAs(t, must(t, r1, r2), 1, api.Fault{Err: api.ErrOver, At: 1})
	refusedAs(t, nil, 1, api.Fault{Err: api.ErrNil, At: -1})
	n := must(t, element("R1 a 0", 1))
	refusedAs(t, n, nan, api.Fault{Err: api.ErrNumber, At: -1})
	refusedAs(t, n, -1, api.Fault{Err: api.ErrArg, At: -1})
	refusedAs(t, n, 0, api.Fault{Err: api.ErrArg, At: -1})
}

func TestExamplesOfAdd(t *testing.T) {
	m := api.Matrix{Rows: 1, Cols: 1, Data: []complex128{2}}
	if got, err := stamp.Add(m, 0, 0, 1); err != api.OK || !same(got, api.Matrix{Rows: 1, Cols: 1, Data: []complex128{3}}) {
		t.Errorf("Add at (0, 0): %v %d", got, err)
	}
	if got, err := stamp.Add(m, 0, 1, 1); err != api.ErrArg || !same(got, api.Matrix{}) {
		t.Errorf("Add at (0, 1): %v %d", got, err)
	}
}

// P18.1: what is refused ahead of the elements, and what of it first.

// bent is a net whose first element is over.
func bent(t *testing.T) *netlist.Net {
	t.Helper()
	return must(t, element("R1 a 0", least), element("L1 a 0", least))
}

func TestWhatIsRefusedFirst(t *testing.T) {
	notFinite := []float64{nan, inf, -inf, math.Float64frombits(0xfff0000000000001)}
	notAbove := []float64{0, minus0, -1, -least, -greatest}
	for _, none := range []*netlist.Net{nil, {}, new(netlist.Net)} {
		for _, omega := range slices.Concat(notFinite, notAbove, []float64{1, least, greatest}) {
			if m, f := stamp.Matrix(none, omega); f != (api.Fault{Err: api.ErrNil, At: -1}) || !same(m, api.Matrix{}) {
				t.Errorf("Matrix of no net at %v: %v %v", omega, m, f)
			}
		}
	}
	for _, n := range []*netlist.Net{must(t), bent(t), mustParse(t, "R1 a 0 1"), mustParse(t, "V1 a 0 1, V2 a 0 1")} {
		for _, omega := range notFinite {
			refusedAs(t, n, omega, api.Fault{Err: api.ErrNumber, At: -1})
		}
		for _, omega := range notAbove {
			refusedAs(t, n, omega, api.Fault{Err: api.ErrArg, At: -1})
		}
	}
}

// Nothing else is refused: not a net that is not joined to the ground, nor one whose matrix is singular, nor the net of no elements.
func TestNetsThatCannotBeSolved(t *testing.T) {
	for _, s := range []string{"R1 a b 1", "V1 a 0 1, V2 a 0 1", "I1 a 0 1", "V1 a b 1, V2 b a 1", "E1 a 0 a 0 1", "G1 a b c d 0"} {
		for _, omega := range []float64{least, 1, greatest} {
			n := mustParse(t, s)
			mustMatrix(t, n, omega)
			hold(t, n, omega)
		}
	}
	n := must(t)
	if m := mustMatrix(t, n, 1); !same(m, api.Matrix{}) || len(stamp.Names(n)) != 0 {
		t.Errorf("Matrix of no elements: %v", m)
	}
}

// P18.1: ErrOver, at the first element where it is so.

// overs are elements whose own admittance is over at the omega 0.5.
func overs() []api.Element {
	return []api.Element{
		element("R9 a 0", least), element("R9 0 a", 0x1p-1024), element("P9 a b", least), element("P9 b a", 0x1p-1025),
		element("L9 a 0", least), element("L9 a b", 0x1p-1024), element("L9 b 0", 0x1p-1023),
	}
}

// highs are elements whose own admittance is over at the omega 4.
func highs() []api.Element {
	return []api.Element{element("C9 a 0", greatest), element("C9 a b", 0x1p1022), element("L9 a 0", greatest), element("L9 b a", 0x1p1022)}
}

func TestAdmittancesThatAreOver(t *testing.T) {
	ahead := []api.Element{element("I1 b 0", greatest), element("R1 b a", 2), element("V1 a 0", -greatest), element("E1 c 0 a b", greatest)}
	refusedWherever := func(e api.Element, omega float64) {
		for i := range len(ahead) + 1 {
			l := slices.Insert(slices.Clone(ahead), i, e)
			refusedAs(t, must(t, l...), omega, api.Fault{Err: api.ErrOver, At: i})
			hold(t, must(t, l...), omega)
			// What is over further on is not asked.
			for _, other := range overs() {
				other.Name = other.Name[:1] + "8"
				refusedAs(t, must(t, append(slices.Clone(l), other)...), omega, api.Fault{Err: api.ErrOver, At: i})
			}
		}
	}
	for _, e := range overs() {
		refusedWherever(e, 0.5)
	}
	for _, e := range highs() {
		refusedWherever(e, 4)
	}
	// Next to them they are not over.
	for _, e := range []api.Element{element("R9 a 0", 0x1.0000000000004p-1024), element("P9 a b", 0x1.0000000000004p-1024), element("L9 a 0", 0x1.0000000000004p-1023)} {
		mustMatrix(t, must(t, e), 0.5)
		hold(t, must(t, e), 0.5)
	}
	for _, e := range []api.Element{element("C9 a 0", 0x1.fffffffffffffp1021), element("L9 a b", 0x1.fffffffffffffp1021)} {
		mustMatrix(t, must(t, e), 4)
		hold(t, must(t, e), 4)
	}
}

// Each of the entries that an element changes may be the one that is over: Transfers ahead of it make that one great, and no other.
func TestEntriesThatAreOver(t *testing.T) {
	great := func(line string) api.Element { return element(line, greatest) }
	high := func(line string) api.Element { return element(line, 0x1p-1023) }
	tall := func(line string) api.Element { return element(line, 0x1p1023) } // a Capacitor's im at the omega 1
	for i, l := range [][]api.Element{
		{great("G1 a 0 a 0"), high("R1 a b")}, {great("G1 b 0 b 0"), high("R1 a b")}, {great("G1 a 0 0 b"), high("R1 a b")}, {great("G1 b 0 0 a"), high("R1 a b")},
		{great("G1 a 0 a 0"), high("P1 a 0")}, {great("G1 a 0 a 0"), high("P1 0 a")},
		{great("G1 a 0 c 0"), great("G2 a b c d")}, {great("G1 a 0 0 d"), great("G2 a b c d")}, {great("G1 b 0 0 c"), great("G2 a b c d")}, {great("G1 b 0 d 0"), great("G2 a b c d")},
		{great("G1 a 0 c 0"), element("G2 0 a c d", -greatest)}, {great("G1 a 0 0 d"), element("G2 0 a c d", -greatest)},
		{tall("C1 a 0"), tall("C2 a 0")}, {tall("C1 0 a"), tall("C2 a 0")}, {high("L1 a 0"), high("L2 a b")},
		// What is over goes on being so, though the same element takes it back.
		{great("G1 a 0 b 0"), great("G2 a 0 b b")}, {great("G1 a 0 0 b"), great("G2 0 a b b")},
	} {
		refusedAs(t, must(t, l...), 1, api.Fault{Err: api.ErrOver, At: 1})
		hold(t, must(t, l...), 1)
		// It is the first such element, whatever stands behind it, and wherever it stands itself.
		behind := append(slices.Clone(l), element("G8 a 0 a 0", -greatest), element("R8 a 0", least))
		refusedAs(t, must(t, behind...), 1, api.Fault{Err: api.ErrOver, At: 1})
		ahead := slices.Concat([]api.Element{element("I1 a b", 1), element("V1 e 0", 1), element("I2 a b", 1)}, l)
		refusedAs(t, must(t, ahead...), 1, api.Fault{Err: api.ErrOver, At: 4})
		if t.Failed() {
			t.Fatalf("the net %d", i)
		}
	}
}

// What a sum comes to is asked, not how great both are; so it is the order of the elements that tells.
func TestEntriesThatAreNotOver(t *testing.T) {
	great, low := element("G1 a 0 a 0", greatest), element("G2 a 0 a 0", -greatest)
	for i, l := range [][]api.Element{
		{great, low, element("R1 a 0", 0x1p-1023)},
		{great, element("R1 a 0", 0x1p-969)},                               // rounded down
		{element("G1 a 0 0 b", greatest), element("G2 a 0 b b", greatest)}, // up, then down again
		{element("G1 a 0 b 0", greatest), element("G2 0 a b b", greatest)},
		{element("C1 a 0", 0x1p1023), element("L1 a 0", 0x1p-1023)},
		{element("E1 a 0 a 0", greatest)}, {element("E1 a 0 a 0", -greatest)}, {element("E1 0 a a 0", greatest)}, {element("E1 a b a b", -greatest)}, {element("E1 a b c c", greatest)},
		{element("V1 a 0", greatest), element("I1 a 0", greatest), element("I2 a 0", greatest), element("V2 a 0", -greatest)},
	} {
		if _, f := stamp.Matrix(must(t, l...), 1); f != (api.Fault{}) {
			t.Errorf("the net %d: %v", i, f)
		}
		hold(t, must(t, l...), 1)
	}
	refusedAs(t, must(t, great, element("R1 a 0", 0x1p-970)), 1, api.Fault{Err: api.ErrOver, At: 1}) // rounded up
	refusedAs(t, must(t, great, element("R1 a 0", 0x1p-1023), low), 1, api.Fault{Err: api.ErrOver, At: 1})
}

// P18.1: the matrix, to the bit.

// TestEveryPairOfElements goes through all nets of one and of two elements among the ground and two nodes.
func TestEveryPairOfElements(t *testing.T) {
	var lines []string
	nodes := []string{"0", "a", "b"}
	for _, a := range nodes {
		for _, b := range nodes {
			if a == b {
				continue
			}
			for _, letter := range "RLCIVP" {
				lines = append(lines, string(letter)+"x "+a+" "+b)
			}
			for _, c := range nodes {
				for _, d := range nodes {
					lines = append(lines, "Gx "+a+" "+b+" "+c+" "+d, "Ex "+a+" "+b+" "+c+" "+d)
				}
			}
		}
	}
	if len(lines) != 144 {
		t.Fatalf("%d elements", len(lines))
	}
	for _, first := range lines {
		e := element(first, 3)
		hold(t, must(t, e), 0.7)
		for _, second := range lines {
			o := element(second, 0.1)
			o.Name = o.Name[:1] + "y"
			hold(t, must(t, e, o), 0.7)
		}
	}
}

func TestMingledNets(t *testing.T) {
	for seed := range uint64(600) {
		bits := scatter(1, seed+1)[0]
		count := 1 + int(seed%40)
		hold(t, mingled(t, count, seed+1000, "RRRLCIVGGEP", near), near(bits))
		hold(t, mingled(t, count, seed+2000, "RLCPIV", near), near(bits))
	}
	// Of any power of two: here and there they are over.
	over := 0
	for seed := range uint64(600) {
		far := func(bits uint64) float64 {
			return math.Ldexp(1+float64(bits>>12)*0x1p-52, int(bits%2045)-1022)
		}
		n := mingled(t, 1+int(seed%20), seed+3000, "RLCIVGEP", far)
		omega := far(scatter(1, seed+1)[0])
		hold(t, n, omega)
		if _, f := stamp.Matrix(n, omega); f != (api.Fault{}) {
			over++
		}
	}
	if over < 100 || over > 500 {
		t.Errorf("%d of 600 nets are over", over)
	}
}

// The greatest nets: all nodes, all branches, all elements.
func TestGreatestNets(t *testing.T) {
	node := func(i int) string { return "n" + strconv.Itoa(i%api.MaxNodes) }
	var l []api.Element
	for i := range api.MaxElements {
		line := strconv.Itoa(i) + " " + node(i) + " " + node(7*i+1)
		switch {
		case i < api.MaxNodes && i%2 == 0:
			l = append(l, element("V"+strconv.Itoa(i)+" "+node(i)+" 0", float64(i)))
		case i < api.MaxNodes:
			l = append(l, element("E"+line+" "+node(5*i)+" "+node(3*i+2), 1/float64(i)))
		case node(i) == node(7*i+1):
			l = append(l, element("I"+strconv.Itoa(i)+" 0 "+node(i), 1))
		case i%3 == 0:
			l = append(l, element("G"+line+" "+node(5*i)+" "+node(3*i+2), 1/float64(i)))
		default:
			l = append(l, element(string("RLCP"[i%4])+line, float64(i)))
		}
	}
	n := must(t, l...)
	if n.Order() != api.MaxOrder || len(n.Nodes()) != api.MaxNodes {
		t.Fatalf("the order %d, %d nodes", n.Order(), len(n.Nodes()))
	}
	hold(t, n, 1.5)
	refusedAs(t, must(t, append(slices.Clone(l[:api.MaxElements-1]), element("R255 n0 n1", least))...), 1, api.Fault{Err: api.ErrOver, At: api.MaxElements - 1})
}

// Rows and columns stand in the order of the nodes, whatever their names, then of the branches, wherever these stand in the net.
func TestPlacesOfRows(t *testing.T) {
	n := mustParse(t, "E1 c 0 b a 2, R1 a z 4, V1 z 0 9, R2 m 0 0.5, V2 0 a 1")
	if names := stamp.Names(n); !slices.Equal(names, []string{"c", "b", "a", "z", "m", "E1", "V1", "V2"}) {
		t.Fatalf("Names: %q", names)
	}
	want := []complex128{
		0, 0, 0, 0, 0, 1, 0, 0,
		0, 0, 0, 0, 0, 0, 0, 0,
		0, 0, 0.25, -0.25, 0, 0, 0, -1,
		0, 0, -0.25, 0.25, 0, 0, 1, 0,
		0, 0, 0, 0, 2, 0, 0, 0,
		1, -2, 2, 0, 0, 0, 0, 0,
		0, 0, 0, 1, 0, 0, 0, 0,
		0, 0, -1, 0, 0, 0, 0, 0,
	}
	if m := mustMatrix(t, n, 1); !slices.Equal(m.Data, want) {
		t.Errorf("Matrix: %v", m.Data)
	}
}

// P18.1: the order of the sums, in each place.

// entryOf gives what stands at the row and the column of some names.
func entryOf(t *testing.T, n *netlist.Net, row, col string) complex128 {
	t.Helper()
	m, names := mustMatrix(t, n, 1), stamp.Names(n)
	return m.Data[slices.Index(names, row)*m.Cols+slices.Index(names, col)]
}

func TestOrderOfElements(t *testing.T) {
	small := element("R1 a b", 0x1p53)
	other := small
	other.Name = "R2"
	one := element("R3 a b", 1)
	for _, c := range []struct {
		l    []api.Element
		want float64
	}{
		{[]api.Element{one, small, other}, 1}, {[]api.Element{small, one, other}, 1}, {[]api.Element{small, other, one}, 1 + 0x1p-52},
	} {
		n := must(t, c.l...)
		for place, sign := range map[string]float64{"a a": 1, "b b": 1, "a b": -1, "b a": -1} {
			row, col, _ := strings.Cut(place, " ")
			if z := entryOf(t, n, row, col); !sameNumber(z, complex(sign*c.want, 0)) {
				t.Errorf("at (%s): %v; want %v", place, z, sign*c.want)
			}
		}
		hold(t, n, 1)
	}
	// So too of an im, and between kinds.
	coil, first, second := element("L1 a 0", 1), element("C1 a 0", 1+0x1p-52), element("C2 a 0", 0x1p-53)
	for _, c := range []struct {
		l    []api.Element
		want float64
	}{{[]api.Element{coil, first, second}, 0x1p-52 + 0x1p-53}, {[]api.Element{first, second, coil}, 0x1p-51}, {[]api.Element{second, coil, first}, 0x1p-52 + 0x1p-53}} {
		if z := entryOf(t, must(t, c.l...), "a", "a"); !sameNumber(z, complex(0, c.want)) {
			t.Errorf("of %v: %v; want %v", c.l, z, c.want)
		}
		hold(t, must(t, c.l...), 1)
	}
}

// Within one element the order shows where it changes one place twice.
func TestOrderWithinAnElement(t *testing.T) {
	const g = 0x1p53
	for _, c := range []struct {
		l        []api.Element
		row, col string
		want     float64
	}{
		{[]api.Element{element("G1 a 0 c 0", 1), element("G2 a b c c", g)}, "a", "c", 0},  // 1 and g, then less g
		{[]api.Element{element("G1 b 0 c 0", 1), element("G2 a b c c", g)}, "b", "c", 1},  // 1 less g, then and g
		{[]api.Element{element("G1 b 0 c 0", -1), element("G2 a b c c", g)}, "b", "c", 0}, // -1 less g, then and g
		{[]api.Element{element("E1 a b a a", g)}, "E1", "a", 1},                           // 1, less g, and g
		{[]api.Element{element("E1 a b b b", g)}, "E1", "b", 0},                           // less 1, less g, and g
		{[]api.Element{element("E1 a b b b", -g)}, "E1", "b", -1},
		{[]api.Element{element("E1 a b a b", g)}, "E1", "a", 1 - g},
		{[]api.Element{element("E1 a b b a", g)}, "E1", "b", -1 - g},
		{[]api.Element{element("E1 a b b a", g)}, "E1", "a", g}, // 1 and g, rounded
	} {
		n := must(t, c.l...)
		if z := entryOf(t, n, c.row, c.col); !sameNumber(z, complex(c.want, 0)) {
			t.Errorf("at (%s, %s) of\n%s%v; want %v", c.row, c.col, n.Print(), z, c.want)
		}
		hold(t, n, 1)
	}
}

// No entry is -0: each begins with +0, to which noughts are added, or from which they are taken.
func TestSignsOfNoughts(t *testing.T) {
	for _, l := range [][]api.Element{
		{element("G1 a b c d", minus0)}, {element("G1 a b c d", 0)}, {element("E1 a b c d", minus0)}, {element("E1 a b c d", 0)}, {element("G1 a b a b", minus0), element("G2 a b a b", minus0)},
		{element("C1 a b", least)}, {element("R1 a b", 2), element("C1 a b", 0.1)}, {element("R1 a b", 2), element("G1 a b a b", -0.5)}, {element("L1 a b", 1), element("C1 a b", 1)}, {element("V1 a b", minus0)},
	} {
		for _, omega := range []float64{0.25, 1} {
			n := must(t, l...)
			for _, z := range mustMatrix(t, n, omega).Data {
				if real(z) == 0 && math.Signbit(real(z)) || imag(z) == 0 && math.Signbit(imag(z)) {
					t.Errorf("Matrix at %v of\n%s%v", omega, n.Print(), z)
				}
			}
			hold(t, n, omega)
		}
	}
}

// P18.4: what follows.

// Elements' names, and nodes' names but for their order, show in no number; sources' Values and Phases neither.
func TestNamesAndSourcesShowNowhere(t *testing.T) {
	nodes := map[string]string{"0": "0", "": "", "a": "z", "b": "00", "c": "a", "d": "_", "e": "b", "f": "abcdefghijklmnop"}
	for seed := range uint64(200) {
		n := mingled(t, 1+int(seed%30), seed+1, "RLCIVGEP", near)
		want := mustMatrix(t, n, 3)
		var renamed, driven []api.Element
		for i, e := range n.Elements() {
			o := e
			o.Name = e.Name[:1] + "x" + strconv.Itoa(1000-i)
			o.A, o.B, o.C, o.D = nodes[e.A], nodes[e.B], nodes[e.C], nodes[e.D]
			renamed = append(renamed, o)
			if e.Kind == api.Current || e.Kind == api.Voltage {
				e.Value, e.Phase = []float64{0, minus0, greatest, -greatest, least, 7}[(i+int(seed))%6], []int{math.MinInt, -1, 6, math.MaxInt}[i%4]
			}
			driven = append(driven, e)
		}
		for _, l := range [][]api.Element{renamed, driven} {
			if m := mustMatrix(t, must(t, l...), 3); !same(m, want) {
				t.Fatalf("Matrix of\n%s%v; of\n%s%v", n.Print(), want, must(t, l...).Print(), m)
			}
		}
	}
}

// laid gives a matrix with a net's rows and columns laid where a greater net has them, noughts elsewhere.
func laid(m api.Matrix, from, to []string) api.Matrix {
	w := api.Matrix{Rows: len(to), Cols: len(to), Data: make([]complex128, len(to)*len(to))}
	for i, row := range from {
		for j, col := range from {
			w.Data[slices.Index(to, row)*w.Cols+slices.Index(to, col)] = m.Data[i*m.Cols+j]
		}
	}
	return w
}

// The matrix of a net is that of the net without its last element, with that element's changes added to it.
func TestLastElementIsStampedLast(t *testing.T) {
	for seed := range uint64(400) {
		n := mingled(t, 1+int(seed%30), seed+1, "RLCIVGEP", near)
		l := n.Elements()
		last := l[len(l)-1]
		fewer, err := n.Without(last.Name)
		if err != api.OK {
			t.Fatalf("Without: %d", err)
		}
		names := stamp.Names(n)
		m := laid(mustMatrix(t, fewer, 3), stamp.Names(fewer), names)
		changes, _ := changesOf(last, 3)
		for _, c := range changes {
			if c.row == "0" || c.col == "0" {
				continue
			}
			y := complex(c.re, c.im)
			if c.less {
				y = parts.Neg(y)
			}
			if m, err = stamp.Add(m, slices.Index(names, c.row), slices.Index(names, c.col), y); err != api.OK {
				t.Fatalf("Add: %d", err)
			}
		}
		if want := mustMatrix(t, n, 3); !same(m, want) {
			t.Fatalf("Matrix of\n%s%v; by Add %v", n.Print(), want, m)
		}
	}
}

// Two resistors beside one another are stamped one behind the other, not as their sum.
func TestResistorsBesideOneAnother(t *testing.T) {
	n := must(t, element("R1 a b", 1), element("R2 a b", 0x1p53), element("R3 b a", 0x1p53))
	for _, z := range mustMatrix(t, n, 1).Data {
		if z != 1 && z != -1 { // with their sum, 2^-52, it would not be
			t.Errorf("an entry: %v", z)
		}
	}
}

// Without Transfers and Amplifiers a matrix equals its transpose, and a Transfer's may not (P3).
func TestTransposes(t *testing.T) {
	for seed := range uint64(200) {
		if m := mustMatrix(t, mingled(t, 30, seed+1, "RLCIVP", near), 3); !matrix.Symmetric(m) {
			t.Fatalf("not as its transpose: %v", m)
		}
	}
	if m := mustMatrix(t, mustParse(t, "G1 a 0 b 0 3"), 1); matrix.Symmetric(m) {
		t.Errorf("as its transpose: %v", m)
	}
}

// P18.2: Add.

// numbered is a matrix whose entries are all unlike.
func numbered(rows, cols int) api.Matrix {
	m := api.Matrix{Rows: rows, Cols: cols}
	for i := range rows * cols {
		m.Data = append(m.Data, complex(float64(i)+0.1, -float64(i)-0.7))
	}
	return m
}

func TestAddAtEachPlace(t *testing.T) {
	for _, size := range [][2]int{{1, 1}, {1, 4}, {4, 1}, {2, 3}, {3, 2}, {64, 64}, {64, 1}, {1, 64}} {
		for i := range size[0] {
			for j := range size[1] {
				m, y := numbered(size[0], size[1]), complex(0.3, 1e3)
				want := numbered(size[0], size[1])
				z := want.Data[i*size[1]+j]
				want.Data[i*size[1]+j] = complex(float64(real(z))+0.3, float64(imag(z))+1e3)
				if got, err := stamp.Add(m, i, j, y); err != api.OK || !same(got, want) {
					t.Fatalf("Add at (%d, %d) of %v: %v %d", i, j, size, got, err)
				}
				if !same(m, numbered(size[0], size[1])) {
					t.Fatalf("Add at (%d, %d) of %v: it changed what it was handed", i, j, size)
				}
			}
		}
	}
}

// Add is parts.Add, noughts' signs too; and what stands elsewhere is told as it is, finite or not.
func TestAddIsPartsAdd(t *testing.T) {
	reals := []float64{0, minus0, 1, -1, least, -least, 0x1p53, 0x1p-53, 1 + 0x1p-52, greatest, -greatest, 0x1p970, -0x1p970, 0x1p969, inf, -inf, nan}
	var numbers []complex128
	for _, re := range reals {
		for _, im := range reals {
			numbers = append(numbers, complex(re, im))
		}
	}
	m := api.Matrix{Rows: 2, Cols: 2, Data: []complex128{complex(nan, inf), complex(-inf, minus0), 0, complex(minus0, nan)}}
	for _, z := range numbers {
		for _, y := range numbers {
			m.Data[2] = z
			got, err := stamp.Add(m, 1, 0, y)
			sum := pair{float64(real(z)) + real(y), float64(imag(z)) + imag(y)}
			if !sum.finite() {
				if err != api.ErrOver || !same(got, api.Matrix{}) {
					t.Fatalf("%v and %v: %v %d", z, y, got, err)
				}
				continue
			}
			if err != api.OK || len(got.Data) != 4 || !sameNumber(got.Data[2], complex(sum.re, sum.im)) {
				t.Fatalf("%v and %v: %v %d", z, y, got, err)
			}
			for _, i := range []int{0, 1, 3} {
				if !parts.Same(got.Data[i], m.Data[i]) {
					t.Fatalf("%v and %v: %v elsewhere", z, y, got.Data[i])
				}
			}
		}
	}
}

// What is refused, and what of it first.
func TestAddRefuses(t *testing.T) {
	far := []int{-1, 2, 3, math.MinInt, math.MaxInt, math.MaxInt/2 + 1, 1 << 32, -1 << 32, 1 << 62}
	bad := []complex128{1, complex(nan, 0), complex(0, inf)}
	full := numbered(2, 2)
	for _, m := range []api.Matrix{
		{Rows: 2, Cols: 2}, {Rows: 2, Cols: 2, Data: make([]complex128, 3)}, {Rows: 2, Cols: 2, Data: make([]complex128, 5)}, {Rows: -1, Cols: -1, Data: make([]complex128, 1)}, {Rows: 65, Cols: 1, Data: make([]complex128, 65)},
		{Rows: 1, Cols: 65, Data: make([]complex128, 65)}, {Rows: 1 << 32, Cols: 1 << 32}, {Rows: math.MinInt, Cols: 2}, {Rows: 0, Cols: 0, Data: make([]complex128, 1)},
	} {
		for _, i := range append(far, 0, 1) {
			for _, y := range bad {
				if got, err := stamp.Add(m, i, 0, y); err != api.ErrShape || !same(got, api.Matrix{}) {
					t.Errorf("Add at (%d, 0) of %d rows, %d columns: %v %d", i, m.Rows, m.Cols, got, err)
				}
			}
		}
	}
	for _, k := range far {
		for _, y := range bad {
			for _, place := range [][2]int{{k, 0}, {0, k}, {k, k}, {1, k}, {k, 1}} {
				if got, err := stamp.Add(full, place[0], place[1], y); err != api.ErrArg || !same(got, api.Matrix{}) {
					t.Errorf("Add at %v: %v %d", place, got, err)
				}
			}
		}
	}
	for _, m := range []api.Matrix{{}, {Rows: 0, Cols: 3}, {Rows: 3, Cols: 0}, {Rows: 0, Cols: 0, Data: []complex128{}}} {
		if got, err := stamp.Add(m, 0, 0, complex(nan, 0)); err != api.ErrArg || !same(got, api.Matrix{}) {
			t.Errorf("Add to %d rows, %d columns: %v %d", m.Rows, m.Cols, got, err)
		}
	}
	// A column's place counts no rows, a row's no columns.
	for _, c := range []struct{ rows, cols, i, j int }{{2, 3, 2, 0}, {3, 2, 0, 2}, {2, 3, 0, 3}, {3, 2, 3, 0}, {1, 4, 1, 0}, {4, 1, 0, 1}} {
		if got, err := stamp.Add(numbered(c.rows, c.cols), c.i, c.j, 1); err != api.ErrArg || !same(got, api.Matrix{}) {
			t.Errorf("Add at (%d, %d) of %d rows, %d columns: %v %d", c.i, c.j, c.rows, c.cols, got, err)
		}
	}
}

// P18.3: Names.
func TestNames(t *testing.T) {
	for s, want := range map[string]string{
		"R1 a b 2, R2 b 0 4": "a b", "V1 a 0 5": "a V1", "R1 b a 1, E1 c 0 a d 1, V1 0 a 1, I1 f 0 1, P1 e 0 1, G1 g 0 h 0 1": "b a c d f e g h E1 V1", "V2 00 0 1, V1 0 1 1": "00 1 V2 V1", "I1 0 z 1, L1 y z 1": "z y", "": "",
	} {
		if names := stamp.Names(mustParse(t, s)); strings.Join(names, " ") != want {
			t.Errorf("Names of %s: %q", s, names)
		}
	}
	for _, none := range []*netlist.Net{nil, {}} {
		if names := stamp.Names(none); len(names) != 0 {
			t.Errorf("Names of no net: %q", names)
		}
	}
	// Of nets that are refused too.
	if names := stamp.Names(bent(t)); !slices.Equal(names, []string{"a"}) {
		t.Errorf("Names of a net that is over: %q", names)
	}
}

// DOC.md's rules: new memory, nothing that was handed in changed.

func TestAnswersAreNewMemory(t *testing.T) {
	n := mustParse(t, "R1 a b 2, V1 b 0 4, E1 c 0 a b 2")
	text, want, names := n.Print(), mustMatrix(t, n, 1), stamp.Names(n)
	kept := slices.Clone(want.Data)
	for range 2 {
		m, l := mustMatrix(t, n, 1), stamp.Names(n)
		if !slices.Equal(m.Data, kept) || !slices.Equal(l, []string{"a", "b", "c", "V1", "E1"}) {
			t.Fatalf("another time: %v, %q", m, l)
		}
		spoil(m.Data)
		all := l[:cap(l)]
		for i := range all {
			all[i] = "spoilt"
		}
	}
	if !slices.Equal(want.Data, kept) || !slices.Equal(names, []string{"a", "b", "c", "V1", "E1"}) {
		t.Errorf("what was told ahead was changed: %v, %q", want.Data, names)
	}
	if n.Print() != text || !slices.Equal(n.Nodes(), []string{"a", "b", "c"}) || !slices.Equal(n.Branches(), []string{"V1", "E1"}) {
		t.Errorf("the net was changed: %s", n.Print())
	}
}

// spoil writes over a list, and over its spare room.
func spoil(l []complex128) {
	all := l[:cap(l)]
	for i := range all {
		all[i] = complex(nan, -7)
	}
}

func TestAddKeepsWhatItIsHanded(t *testing.T) {
	room := numbered(3, 3).Data
	m := api.Matrix{Rows: 2, Cols: 2, Data: room[:4]}
	got, err := stamp.Add(m, 1, 1, 1)
	again, bad := stamp.Add(m, 1, 1, 1)
	if err != api.OK || bad != api.OK || !same(got, again) {
		t.Fatalf("Add: %v %d, %v %d", got, err, again, bad)
	}
	for _, y := range []complex128{complex(nan, 0), complex(inf, 0)} {
		if _, err := stamp.Add(m, 1, 1, y); err != api.ErrOver {
			t.Fatalf("Add of %v: %d", y, err)
		}
	}
	spoil(got.Data)
	if !slices.Equal(room, numbered(3, 3).Data) || real(again.Data[3]) != 4.1 {
		t.Errorf("Add changed %v, %v", room, again)
	}
	spoil(room)
	if real(again.Data[0]) != 0.1 {
		t.Errorf("Add kept %v", again)
	}
}

// P1: the same again, side by side.
func TestCallsSideBySide(t *testing.T) {
	n, over := mingled(t, 40, 5, "RLCIVGEP", near), bent(t)
	want, names, full := mustMatrix(t, n, 3), stamp.Names(n), numbered(8, 8)
	var group sync.WaitGroup
	for i := range 8 {
		group.Go(func() {
			for range 50 {
				m, f := stamp.Matrix(n, 3)
				_, bad := stamp.Matrix(over, 1)
				sum, err := stamp.Add(full, i, i, 1)
				if f != (api.Fault{}) || !same(m, want) || bad != (api.Fault{Err: api.ErrOver, At: 0}) || err != api.OK || sum.Data[9*i] != full.Data[9*i]+1 || !slices.Equal(stamp.Names(n), names) {
					t.Errorf("side by side: %v %v %v %d", m, f, bad, err)
				}
				spoil(m.Data)
				spoil(sum.Data)
			}
		})
	}
	group.Wait()
}
