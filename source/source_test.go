package source_test

import (
	"math"
	"slices"
	"strconv"
	"strings"
	"sync"
	"testing"

	"gridwork/api"
	"gridwork/netlist"
	"gridwork/source"
	"gridwork/turns"
	"gridwork/value"
)

const (
	least    = 0x1p-1074
	greatest = math.MaxFloat64
)

var (
	inf    = math.Inf(1)
	nan    = math.NaN()
	minus0 = math.Copysign(0, -1)
)

// The document's words, worked out apart from the program: of names, a number of the right side after the other.

// pair is a number, part by part.
type pair struct{ re, im float64 }

func (p pair) and(o pair) pair {
	return pair{float64(p.re) + float64(o.re), float64(p.im) + float64(o.im)}
}

func (p pair) less(o pair) pair {
	return pair{float64(p.re) - float64(o.re), float64(p.im) - float64(o.im)}
}

func (p pair) finite() bool {
	return !math.IsInf(p.re, 0) && !math.IsInf(p.im, 0) && p.re == p.re && p.im == p.im
}

// cosineOf is chapter 4's cosine of steps from 0 to 23, all of them written out.
func cosineOf(k int) float64 {
	c := []float64{1, math.Float64frombits(0x3feee8dd4748bf15), math.Float64frombits(0x3febb67ae8584caa), math.Float64frombits(0x3fe6a09e667f3bcd), 0.5, math.Float64frombits(0x3fd0907dc1930690), 0}
	all := []float64{
		c[0], c[1], c[2], c[3], c[4], c[5], c[6], -c[5], -c[4], -c[3], -c[2], -c[1],
		-c[0], -c[1], -c[2], -c[3], -c[4], -c[5], c[6], c[5], c[4], c[3], c[2], c[1],
	}
	return all[k]
}

// phasorOf is a size times the root of a phase, part by part.
func phasorOf(size float64, phase int) pair {
	k := (phase%24 + 24) % 24
	return pair{float64(size * cosineOf(k)), float64(size * cosineOf((k+18)%24))}
}

// rowsOf are the names of the rows: the nodes, as they first stand, then the branches.
func rowsOf(l []api.Element) []string {
	var nodes, branches []string
	for _, e := range l {
		for _, node := range []string{e.A, e.B, e.C, e.D} {
			if node != "" && node != "0" && !slices.Contains(nodes, node) {
				nodes = append(nodes, node)
			}
		}
		if strings.IndexByte("VE", e.Name[0]) >= 0 {
			branches = append(branches, e.Name)
		}
	}
	return append(nodes, branches...)
}

// listOf lays numbers by name in the order of the rows.
func listOf(rows []string, by map[string]pair) []complex128 {
	var l []complex128
	for _, row := range rows {
		l = append(l, complex(by[row].re, by[row].im))
	}
	return l
}

// rightOf is what P19.2 says of a net that is one.
func rightOf(l []api.Element) ([]complex128, api.Fault) {
	by, rows := map[string]pair{}, rowsOf(l)
	for at, e := range l {
		s := phasorOf(e.Value, e.Phase)
		switch e.Name[0] {
		case 'I':
			by[e.A] = by[e.A].less(s)
			by[e.B] = by[e.B].and(s)
		case 'V':
			by[e.Name] = s
		}
		for _, row := range rows { // the ground is none of them
			if !by[row].finite() {
				return nil, api.Fault{Err: 6, At: at}
			}
		}
	}
	return listOf(rows, by), api.Fault{}
}

// drivenOf is what P19.3 says of a net that is one.
func drivenOf(l []api.Element, port string) ([]complex128, api.Fault) {
	by := map[string]pair{}
	for _, e := range l {
		if e.Name == port && e.Name[0] == 'P' {
			by[e.A] = pair{}.and(pair{1, 0})
			by[e.B] = pair{}.less(pair{1, 0})
			return listOf(rowsOf(l), by), api.Fault{}
		}
	}
	return nil, api.Fault{Err: 10, At: -1}
}

// sameNumber tells whether two numbers have the same bits.
func sameNumber(a, b complex128) bool {
	return math.Float64bits(real(a)) == math.Float64bits(real(b)) && math.Float64bits(imag(a)) == math.Float64bits(imag(b))
}

func same(a, b []complex128) bool {
	return slices.EqualFunc(a, b, sameNumber)
}

// element makes an element of a line's words, but for its value; a phase stands last.
func element(line string, v float64) api.Element {
	words := strings.Fields(line)
	e := api.Element{Name: words[0], A: words[1], B: words[2], Value: v}
	e.Kind = api.Kind(1 + strings.IndexByte("RLCIVGEP", e.Name[0]))
	switch len(words) {
	case 4:
		e.Phase, _ = strconv.Atoi(words[3])
	case 5:
		e.C, e.D = words[3], words[4]
	}
	return e
}

// must gives the net of elements that make one.
func must(t *testing.T, l ...api.Element) *netlist.Net {
	t.Helper()
	n, f := netlist.Of(l)
	if n == nil || f != (api.Fault{}) {
		t.Fatalf("Of %v: %v", l, f)
	}
	return n
}

// mustParse gives the net of a text that is one's, its lines parted by commas.
func mustParse(t *testing.T, s string) *netlist.Net {
	t.Helper()
	n, f := netlist.Parse(strings.ReplaceAll(s, ", ", "\n"))
	if n == nil || f != (api.Fault{}) {
		t.Fatalf("Parse(%.60q): %v", s, f)
	}
	return n
}

// mustRight gives the right side of a net that is not refused.
func mustRight(t *testing.T, n *netlist.Net) []complex128 {
	t.Helper()
	l, f := source.Right(n)
	if f != (api.Fault{}) || len(l) != n.Order() {
		t.Fatalf("Right of\n%s%v %v", n.Print(), l, f)
	}
	return l
}

// mustDriven gives the right side of a port that is there.
func mustDriven(t *testing.T, n *netlist.Net, port string) []complex128 {
	t.Helper()
	l, f := source.Driven(n, port)
	if f != (api.Fault{}) || len(l) != n.Order() {
		t.Fatalf("Driven of %s of\n%s%v %v", port, n.Print(), l, f)
	}
	return l
}

// hold holds what is told of a net against the document's words.
func hold(t *testing.T, n *netlist.Net) {
	t.Helper()
	l := n.Elements()
	got, f := source.Right(n)
	if want, bad := rightOf(l); f != bad || !same(got, want) {
		t.Fatalf("Right of\n%s%v %v; want %v %v", n.Print(), got, f, want, bad)
	}
	for _, e := range l {
		got, f := source.Driven(n, e.Name)
		if want, bad := drivenOf(l, e.Name); f != bad || !same(got, want) {
			t.Fatalf("Driven of %s of\n%s%v %v; want %v %v", e.Name, n.Print(), got, f, want, bad)
		}
		s, err := source.Phasor(e)
		want, refused := pair{}, api.ErrArg
		if e.Name[0] == 'I' || e.Name[0] == 'V' {
			want, refused = phasorOf(e.Value, e.Phase), api.OK
		}
		if err != refused || !sameNumber(s, complex(want.re, want.im)) {
			t.Fatalf("Phasor of %v: %v %d; want %v %d", e, s, err, want, refused)
		}
	}
}

// refusedAs holds that a net is refused, and nothing told with it.
func refusedAs(t *testing.T, n *netlist.Net, want api.Fault) {
	t.Helper()
	if l, f := source.Right(n); f != want || len(l) != 0 {
		t.Errorf("Right of\n%s%v %v; want %v", n.Print(), l, f, want)
	}
}

// scatter gives whole numbers of 64 bits, always the same ones.
func scatter(n int, seed uint64) []uint64 {
	var all []uint64
	for range n {
		seed ^= seed << 13
		seed ^= seed >> 7
		seed ^= seed << 17
		all = append(all, seed)
	}
	return all
}

// near is a real from 2^-32 to 2^32 with mingled bits.
func near(bits uint64) float64 {
	return math.Ldexp(1+float64(bits>>12)*0x1p-52, int(bits%64)-32)
}

// mingled gives a net of so many elements among the ground and six nodes, with values that a function makes of mingled bits, and phases up to 30 steps either way.
func mingled(t *testing.T, count int, seed uint64, letters string, values func(bits uint64) float64) *netlist.Net {
	t.Helper()
	nodes := []string{"0", "a", "b", "c", "d", "e", "f"}
	bits := scatter(3*count, seed)
	var l []api.Element
	for i := range count {
		kind, wires, v := bits[3*i]>>20, bits[3*i+1]>>20, values(bits[3*i+2])
		a := int(wires % 7)
		b := (a + 1 + int(wires/7%6)) % 7
		line := string(letters[kind%uint64(len(letters))]) + strconv.Itoa(i) + " " + nodes[a] + " " + nodes[b]
		switch {
		case strings.IndexByte("GE", line[0]) >= 0:
			line += " " + nodes[wires/42%7] + " " + nodes[wires/294%7]
		case strings.IndexByte("IV", line[0]) >= 0:
			line += " " + strconv.Itoa(int(wires/42%61)-30)
		}
		if strings.IndexByte("RLCP", line[0]) < 0 && kind&(1<<30) != 0 {
			v = -v
		}
		l = append(l, element(line, v))
	}
	return must(t, l...)
}

// The examples of the chapter, and the right sides of those of the whole.

func TestExamplesOfPhasors(t *testing.T) {
	for _, c := range []struct {
		e    api.Element
		want complex128
		err  api.Errno
	}{
		{element("I1 a 0 6", 2), complex(0, 2), api.OK},
		{element("V1 a 0", minus0), complex(minus0, minus0), api.OK},
		{element("R1 a 0", 1), 0, api.ErrArg},
		{element("V1 a a", 1), 0, api.ErrArg},
	} {
		if s, err := source.Phasor(c.e); err != c.err || !sameNumber(s, c.want) {
			t.Errorf("Phasor of %v: %v %d; want %v %d", c.e, s, err, c.want, c.err)
		}
	}
}

func TestExamplesOfRight(t *testing.T) {
	for s, want := range map[string][]complex128{
		"I1 a b 2, R1 a 0 1, R2 b 0 1, V1 c 0 3 12, R3 c 0 1": {-2, 2, 0, -3},
		"R1 a b 2, R2 b 0 4, V1 a 0 6":                        {0, 0, 6},
		"L1 a 0 500m, C1 a 0 250m, I1 0 a 1":                  {1},
		"V1 in 0 10, R1 in out 4, R2 out 0 4, P1 out 0 50":    {0, 0, 10},
	} {
		n := mustParse(t, s)
		if l := mustRight(t, n); !slices.Equal(l, want) {
			t.Errorf("Right of %s: %v; want %v", s, l, want)
		}
		hold(t, n)
	}
	refusedAs(t, must(t, element("I1 0 a", 0x1p1023), element("I2 0 a", 0x1p1023), element("R1 a 0", 1)), api.Fault{Err: api.ErrOver, At: 1})
}

func TestExamplesOfDriven(t *testing.T) {
	n := mustParse(t, "P1 a b 50, R1 b 0 1")
	if l := mustDriven(t, n, "P1"); !same(l, []complex128{1, -1}) {
		t.Errorf("Driven of P1: %v", l)
	}
	if l, f := source.Driven(n, "R1"); f != (api.Fault{Err: api.ErrMissing, At: -1}) || len(l) != 0 {
		t.Errorf("Driven of R1: %v %v", l, f)
	}
	if l := mustDriven(t, mustParse(t, "V1 in 0 10, R1 in out 4, R2 out 0 4, P1 out 0 50"), "P1"); !same(l, []complex128{0, 1, 0}) {
		t.Errorf("Driven of P1 behind a Voltage: %v", l)
	}
}

// P19.1: Phasor.

func TestPhasorOfEachPhase(t *testing.T) {
	values := []float64{0, minus0, 1, -1, 3, -0.1, least, -least, 3 * least, 0x1p-1022, greatest, -greatest, 0x1p1023, 1e300, math.Pi}
	phases := []int{math.MaxInt, math.MinInt, math.MaxInt - 1, math.MinInt + 1, 1 << 40, -1 << 40, 24_000_000, 24_000_001}
	for k := -100; k <= 100; k++ {
		phases = append(phases, k)
	}
	for _, v := range values {
		for _, k := range phases {
			for _, line := range []string{"I1 a b", "V1 0 b", "Vx_0 a 0", "I1 00 0"} {
				e := element(line, v)
				e.Phase = k
				want := phasorOf(v, k)
				s, err := source.Phasor(e)
				if err != api.OK || !sameNumber(s, complex(want.re, want.im)) || !sameNumber(s, turns.Phasor(v, k)) {
					t.Fatalf("Phasor of %v: %v %d; want %v", e, s, err, want)
				}
			}
		}
	}
}

// What of an element is refused, and what of it first: value.Check tells it, of any kind; a kind that is no source's comes behind it all.
func TestPhasorRefuses(t *testing.T) {
	with := func(e api.Element, change func(e *api.Element)) api.Element {
		change(&e)
		return e
	}
	ampere, wire, transfer := element("I1 a b 3", 1), element("R1 a b", 1), element("G1 a b c d", 1)
	for i, c := range []struct {
		e    api.Element
		want api.Errno
	}{
		{api.Element{}, api.ErrArg},
		{with(ampere, func(e *api.Element) { e.Kind = 0 }), api.ErrArg},
		{with(ampere, func(e *api.Element) { e.Kind = api.Port + 1 }), api.ErrArg},
		{with(ampere, func(e *api.Element) { e.Kind = 255 }), api.ErrArg},
		{with(ampere, func(e *api.Element) { e.Kind, e.Name, e.Value = 255, "", nan }), api.ErrArg},
		{with(ampere, func(e *api.Element) { e.Name = "" }), api.ErrName},
		{with(ampere, func(e *api.Element) { e.Name = "I" }), api.ErrName},
		{with(ampere, func(e *api.Element) { e.Name = "V1" }), api.ErrName},
		{with(ampere, func(e *api.Element) { e.Kind = api.Voltage }), api.ErrName},
		{with(ampere, func(e *api.Element) { e.Name, e.A, e.B = "I12345678901234567", "b", "b" }), api.ErrName},
		{with(ampere, func(e *api.Element) { e.A = "" }), api.ErrName},
		{with(ampere, func(e *api.Element) { e.B = "B" }), api.ErrName},
		{with(ampere, func(e *api.Element) { e.A, e.Value = "a b", inf }), api.ErrName},
		{with(ampere, func(e *api.Element) { e.A, e.Value = "b", nan }), api.ErrArg},
		{with(ampere, func(e *api.Element) { e.C = "c" }), api.ErrArg},
		{with(ampere, func(e *api.Element) { e.D, e.Value = "c", inf }), api.ErrArg},
		{with(ampere, func(e *api.Element) { e.Value = nan }), api.ErrNumber},
		{with(ampere, func(e *api.Element) { e.Value = inf }), api.ErrNumber},
		{with(ampere, func(e *api.Element) { e.Value = -inf }), api.ErrNumber},
		{with(wire, func(e *api.Element) {}), api.ErrArg},
		{with(wire, func(e *api.Element) { e.Name = "I1" }), api.ErrName},
		{with(wire, func(e *api.Element) { e.Value = nan }), api.ErrNumber},
		{with(wire, func(e *api.Element) { e.Value = -1 }), api.ErrArg},
		{with(wire, func(e *api.Element) { e.Phase, e.Value = 1, nan }), api.ErrArg},
		{with(transfer, func(e *api.Element) {}), api.ErrArg},
		{with(transfer, func(e *api.Element) { e.D = "" }), api.ErrName},
		{with(transfer, func(e *api.Element) { e.Value = -inf }), api.ErrNumber},
		{element("L1 a b", 1), api.ErrArg}, {element("C1 a b", 1), api.ErrArg}, {element("P1 a b", 1), api.ErrArg}, {element("E1 a b c d", 1), api.ErrArg},
	} {
		s, err := source.Phasor(c.e)
		if err != c.want || s != 0 {
			t.Errorf("%d: Phasor of %v: %v %d; want %d", i, c.e, s, err, c.want)
		}
		if check := value.Check(c.e); check != api.OK && check != err {
			t.Errorf("%d: Phasor of %v: %d; value.Check tells %d", i, c.e, err, check)
		}
	}
}

// P19.2: Right.

// TestEveryPairOfElements goes through all nets of one and of two elements among the ground and two nodes.
func TestEveryPairOfElements(t *testing.T) {
	var lines []string
	nodes := []string{"0", "a", "b"}
	for _, a := range nodes {
		for _, b := range nodes {
			if a == b {
				continue
			}
			for _, letter := range "RLCIVP" {
				lines = append(lines, string(letter)+"x "+a+" "+b)
			}
			for _, phase := range []string{"1", "6", "12", "-5"} {
				lines = append(lines, "Ix "+a+" "+b+" "+phase, "Vx "+a+" "+b+" "+phase)
			}
			for _, c := range nodes {
				lines = append(lines, "Gx "+a+" "+b+" "+c+" b", "Ex "+a+" "+b+" a "+c)
			}
		}
	}
	for _, first := range lines {
		e := element(first, 3)
		hold(t, must(t, e))
		for _, second := range lines {
			o := element(second, 0.1)
			o.Name = o.Name[:1] + "y"
			hold(t, must(t, e, o))
		}
	}
}

func TestMingledNets(t *testing.T) {
	for seed := range uint64(600) {
		count := 1 + int(seed%60)
		hold(t, mingled(t, count, seed+1000, "IIIIVRGEP", near))
		hold(t, mingled(t, count, seed+2000, "IIIIILCPR", near))
	}
	// Of the greatest powers of two: here and there they are over.
	over := 0
	for seed := range uint64(600) {
		far := func(bits uint64) float64 {
			return math.Ldexp(1+float64(bits>>12)*0x1p-52, int(bits%8)+1016)
		}
		n := mingled(t, 1+int(seed%40), seed+3000, "IIIIVRP", far)
		hold(t, n)
		if _, f := source.Right(n); f != (api.Fault{}) {
			over++
		}
	}
	if over < 100 || over > 500 {
		t.Errorf("%d of 600 nets are over", over)
	}
}

// The greatest nets: all nodes, all branches, all elements.
func TestGreatestNets(t *testing.T) {
	node := func(i int) string { return "n" + strconv.Itoa(i%api.MaxNodes) }
	var l []api.Element
	for i := range api.MaxElements {
		line := strconv.Itoa(i) + " " + node(i) + " " + node(7*i+1)
		switch {
		case i < api.MaxNodes && i%2 == 0:
			l = append(l, element("V"+strconv.Itoa(i)+" "+node(i)+" 0 "+strconv.Itoa(i), float64(i)))
		case i < api.MaxNodes:
			l = append(l, element("E"+line+" "+node(5*i)+" "+node(3*i+2), 1/float64(i)))
		case node(i) == node(7*i+1):
			l = append(l, element("I"+strconv.Itoa(i)+" 0 "+node(i), 1))
		case i%5 == 0:
			l = append(l, element("P"+line, 1/float64(i)))
		default:
			l = append(l, element("I"+line+" "+strconv.Itoa(-i), 1/float64(i)))
		}
	}
	n := must(t, l...)
	if n.Order() != api.MaxOrder || len(n.Nodes()) != api.MaxNodes {
		t.Fatalf("the order %d, %d nodes", n.Order(), len(n.Nodes()))
	}
	hold(t, n)
	l[0], l[api.MaxElements-1] = element("I0 0 n0", greatest), element("I255 0 n0", greatest)
	refusedAs(t, must(t, l...), api.Fault{Err: api.ErrOver, At: api.MaxElements - 1})
}

// The numbers stand in the order of the nodes, whatever their names, then of the branches, wherever these stand in the net.
func TestPlacesOfNumbers(t *testing.T) {
	n := mustParse(t, "E1 c 0 b a 2, I1 a z 4, V1 z 0 9, R2 m 0 0.5, V2 0 a 1 6, I2 m c 16 12, P1 z m 1, P2 0 b 1")
	for port, want := range map[string][]complex128{
		"":   {-16, 0, -4, 4, 16, 0, 9, 1i}, // the right side itself; the nodes are c, b, a, z, m, the branches E1, V1, V2
		"P1": {0, 0, 0, 1, -1, 0, 0, 0},
		"P2": {0, -1, 0, 0, 0, 0, 0, 0},
	} {
		got := mustRight(t, n)
		if port != "" {
			got = mustDriven(t, n, port)
		}
		if !slices.Equal(got, want) {
			t.Errorf("of the port %q: %v; want %v", port, got, want)
		}
	}
	hold(t, n)
}

// A Voltage's number is its phasor, not a sum with it, and its sign shows: a nought's too.
func TestVoltagesStandThemselves(t *testing.T) {
	for _, v := range []float64{0, minus0, 1, -1, least, -least, greatest, -greatest} {
		for phase := -30; phase <= 30; phase++ {
			e := element("V1 a b", v)
			e.Phase = phase
			want := phasorOf(v, phase)
			for _, l := range [][]api.Element{{e}, {element("V0 a 0", 1), e}, {element("I1 b a", 3), e, element("E9 a 0 a 0", 1)}} {
				n := must(t, l...)
				at, _ := n.Branch("V1")
				if got := mustRight(t, n); !sameNumber(got[len(n.Nodes())+at], complex(want.re, want.im)) {
					t.Fatalf("Right of\n%s%v; want %v", n.Print(), got, want)
				}
				hold(t, n)
			}
		}
	}
}

// A Current's numbers begin with +0: no nought of theirs is -0, but where what is taken off takes them there.
func TestSignsOfNoughts(t *testing.T) {
	for _, v := range []float64{0, minus0} {
		for phase := range 24 {
			e := element("I1 a b", v)
			e.Phase = phase
			if l := mustRight(t, must(t, e)); !same(l, []complex128{0, 0}) {
				t.Errorf("Right of %v: %v", e, l)
			}
		}
	}
	// What cancels leaves +0.
	for _, v := range []float64{2, -2, 0.1, greatest, least} {
		n := must(t, element("I1 a b 1", v), element("I2 b a 1", v))
		if l := mustRight(t, n); !same(l, []complex128{0, 0}) {
			t.Errorf("Right of two Currents of %v: %v", v, l)
		}
	}
	// What is rounded to nought keeps its sign within the phasor; a sum with +0 doesn't tell it.
	e := element("I1 a b 5", -least)
	if s, _ := source.Phasor(e); !sameNumber(s, complex(minus0, -least)) {
		t.Errorf("Phasor of %v: %v", e, s)
	}
	if l := mustRight(t, must(t, e)); !same(l, []complex128{complex(0, least), complex(0, -least)}) {
		t.Errorf("Right of %v: %v", e, l)
	}
}

// The sums at each place go in the order of the elements.
func TestOrderOfSums(t *testing.T) {
	for _, c := range []struct {
		values []float64
		want   float64 // what comes in at b
	}{
		{[]float64{1, 0x1p-53, 0x1p-53}, 1}, {[]float64{0x1p-53, 1, 0x1p-53}, 1}, {[]float64{0x1p-53, 0x1p-53, 1}, 1 + 0x1p-52},
		{[]float64{0x1p53, 1, -0x1p53}, 0}, {[]float64{0x1p53, -0x1p53, 1}, 1}, {[]float64{1, 0x1p53, -0x1p53}, 0},
		{[]float64{greatest, -greatest, greatest}, greatest}, {[]float64{greatest, 0x1p969, 0x1p969}, greatest},
	} {
		for phase := 0; phase < 24; phase += 6 {
			var l []api.Element
			for i, v := range c.values {
				e := element("I"+strconv.Itoa(i)+" a b", v)
				e.Phase = phase
				l = append(l, element("R"+strconv.Itoa(i)+" c a", 1), e)
			}
			n := must(t, l...) // the nodes are c, a, b
			want := turns.Phasor(c.want, phase)
			got := mustRight(t, n)
			if got[0] != 0 || got[1] != -want || got[2] != want {
				t.Errorf("Right of\n%s%v; want %v", n.Print(), got, want)
			}
			hold(t, n)
			// Which end a current comes in at shows by the sign alone.
			l[3].A, l[3].B, l[3].Value = "b", "a", -l[3].Value
			if turned := mustRight(t, must(t, l...)); !same(turned, got) {
				t.Errorf("turned about: %v; %v", turned, got)
			}
		}
	}
}

// P19.2: ErrOver, at the first element behind which it is so.
func TestOver(t *testing.T) {
	great := func(line string) api.Element { return element(line, greatest) }
	low := func(line string) api.Element { return element(line, -greatest) }
	for i, l := range [][]api.Element{
		{great("I1 0 a"), great("I2 0 a")}, {great("I1 a 0"), great("I2 a 0")}, {great("I1 a b"), great("I2 a 0")}, {great("I1 a b"), great("I2 0 b")},
		{great("I1 b a"), great("I2 c a")}, {great("I1 a b"), low("I2 b a")}, {low("I1 a 0"), low("I2 a 0")}, {low("I1 0 a"), low("I2 b a")},
		{great("I1 a b 6"), great("I2 a 0 6")}, {great("I1 0 b 18"), great("I2 a b 18")}, {great("I1 0 b 12"), low("I2 0 b 0")}, {great("I1 a 0 6"), great("I2 a 0 4")},
		{great("I1 a 0 1"), great("I2 a 0 -1")}, {great("I1 a 0 5"), great("I2 a 0 7")}, {great("I1 a 0"), element("I2 a 0", 0x1p970)},
	} {
		refusedAs(t, must(t, l...), api.Fault{Err: api.ErrOver, At: 1})
		hold(t, must(t, l...))
		// It is the first such element, whatever stands behind it, and wherever it stands itself.
		behind := append(slices.Clone(l), low("I8 0 a"), low("I7 a b"), great("V8 a 0"), great("I9 0 a"))
		refusedAs(t, must(t, behind...), api.Fault{Err: api.ErrOver, At: 1})
		ahead := slices.Concat([]api.Element{element("R1 a b", 1), great("V1 e 0"), great("I7 x y"), great("P1 x y")}, l)
		refusedAs(t, must(t, ahead...), api.Fault{Err: api.ErrOver, At: 5})
		between := []api.Element{l[0], great("V1 a 0"), great("C1 a b"), element("I7 a b", 1), l[1]}
		refusedAs(t, must(t, between...), api.Fault{Err: api.ErrOver, At: 4})
		if t.Failed() {
			t.Fatalf("the net %d", i)
		}
	}
}

// What a sum comes to is asked, not how great its terms are; and not what flows into the ground.
func TestNotOver(t *testing.T) {
	great := func(line string) api.Element { return element(line, greatest) }
	for _, l := range [][]api.Element{
		{great("I1 a 0"), great("I2 0 a"), great("I3 a 0")}, {great("I1 a 0"), great("I2 b 0"), great("I3 c 0")}, {great("I1 0 a"), great("I2 0 b"), great("I3 0 c")},
		{great("V1 a 0"), great("V2 a 0"), great("V3 a 0")}, {great("V1 a 0"), great("I1 a 0")}, {great("R1 a 0"), great("R2 a 0"), great("G1 a 0 a 0"), great("G2 a 0 a 0"), great("E1 a 0 a 0")},
		{great("I1 a 0"), element("I2 a 0", 0x1p969)}, {great("I1 a 0"), great("I2 a 0 6")}, {great("I1 a b"), great("I2 b a"), great("I3 a b 6"), great("I4 b a 6")},
		{great("P1 a b"), great("P2 a b"), great("C1 a 0"), great("L1 a 0")}, {great("I1 a 0 3"), great("I2 0 a 4")},
		{element("R1 a 0", least), element("L1 a 0", least)}, // over is what stamp tells, not this layer
	} {
		mustRight(t, must(t, l...))
		hold(t, must(t, l...))
	}
}

// P19.3: Driven.

func TestDrivenOfEachPort(t *testing.T) {
	n := mustParse(t, "P1 a 0 1, P2 0 a 2, P3 a b 3, P4 b a 4, R1 c a 1, Px c 0 1, V1 c 0 1, I1 a b 7")
	for port, want := range map[string][]complex128{
		"P1": {1, 0, 0, 0}, "P2": {-1, 0, 0, 0}, "P3": {1, -1, 0, 0}, "P4": {-1, 1, 0, 0}, "Px": {0, 0, 1, 0},
	} {
		if l := mustDriven(t, n, port); !same(l, want) {
			t.Errorf("Driven of %s: %v; want %v", port, l, want)
		}
	}
	hold(t, n)
}

func TestDrivenRefuses(t *testing.T) {
	n := mustParse(t, "P1 a b 50, R1 b 0 1, L1 b 0 1, C1 b 0 1, I1 b 0 1, V1 b 0 1, G1 a 0 b 0 1, E1 c 0 a 0 1")
	for _, port := range []string{"", "P", "P2", "p1", "P1 ", " P1", "P11", "P1\x00", "a", "0", "b", "R1", "L1", "C1", "I1", "V1", "G1", "E1", "\xff", strings.Repeat("P", 1<<20)} {
		if l, f := source.Driven(n, port); f != (api.Fault{Err: api.ErrMissing, At: -1}) || len(l) != 0 {
			t.Errorf("Driven of %.20q: %v %v", port, l, f)
		}
	}
	if l, f := source.Driven(must(t), "P1"); f != (api.Fault{Err: api.ErrMissing, At: -1}) || len(l) != 0 {
		t.Errorf("Driven of P1 of no elements: %v %v", l, f)
	}
}

// What is no net is refused ahead of all else.
func TestNoNet(t *testing.T) {
	none := api.Fault{Err: api.ErrNil, At: -1}
	for _, n := range []*netlist.Net{nil, {}, new(netlist.Net)} {
		if l, f := source.Right(n); f != none || len(l) != 0 {
			t.Errorf("Right of no net: %v %v", l, f)
		}
		for _, port := range []string{"", "P1", "R1", "0"} {
			if l, f := source.Driven(n, port); f != none || len(l) != 0 {
				t.Errorf("Driven of %q of no net: %v %v", port, l, f)
			}
		}
	}
	if l := mustRight(t, must(t)); len(l) != 0 {
		t.Errorf("Right of no elements: %v", l)
	}
}

// P19.4: what follows.

// equalOpposites tells whether numbers are equal to the opposites of others.
func equalOpposites(a, b []complex128) bool {
	return slices.EqualFunc(a, b, func(y, z complex128) bool { return real(y) == -real(z) && imag(y) == -imag(z) })
}

func TestOpposites(t *testing.T) {
	for seed := range uint64(300) {
		n := mingled(t, 1+int(seed%50), seed+1, "IIIVVRGEP", near)
		want := mustRight(t, n)
		var less, turned []api.Element
		for _, e := range n.Elements() {
			other, late := e, e
			if e.Kind == api.Current || e.Kind == api.Voltage {
				other.Value, late.Phase = -e.Value, e.Phase+12
			}
			less, turned = append(less, other), append(turned, late)
		}
		for _, l := range [][]api.Element{less, turned} {
			if got := mustRight(t, must(t, l...)); !equalOpposites(got, want) {
				t.Fatalf("Right of\n%s%v; the other way about %v", n.Print(), want, got)
			}
		}
	}
}

// Elements' names, and nodes' names but for their order, show in no number; the values of what is no source neither.
func TestNamesAndOtherKindsShowNowhere(t *testing.T) {
	nodes := map[string]string{"0": "0", "": "", "a": "z", "b": "00", "c": "a", "d": "_", "e": "b", "f": "abcdefghijklmnop"}
	for seed := range uint64(200) {
		n := mingled(t, 1+int(seed%30), seed+1, "RLCIIVVGEP", near)
		want := mustRight(t, n)
		var renamed, other, fewer []api.Element
		for i, e := range n.Elements() {
			o := e
			o.Name = e.Name[:1] + "x" + strconv.Itoa(1000-i)
			o.A, o.B, o.C, o.D = nodes[e.A], nodes[e.B], nodes[e.C], nodes[e.D]
			renamed = append(renamed, o)
			if e.Kind != api.Current && e.Kind != api.Voltage {
				e.Value = []float64{greatest, least, 7}[(i+int(seed))%3]
			}
			other = append(other, e)
			if e.Kind == api.Current || e.Kind == api.Voltage {
				fewer = append(fewer, e)
			}
		}
		for _, l := range [][]api.Element{renamed, other} {
			if got := mustRight(t, must(t, l...)); !same(got, want) {
				t.Fatalf("Right of\n%s%v; of\n%s%v", n.Print(), want, must(t, l...).Print(), got)
			}
		}
		// Of the sources alone each number is, by name, what it was.
		less := must(t, fewer...)
		rows, got := rowsOf(n.Elements()), mustRight(t, less)
		for i, row := range rowsOf(less.Elements()) {
			if !sameNumber(got[i], want[slices.Index(rows, row)]) {
				t.Fatalf("Right of\n%sat %s: %v", less.Print(), row, got[i])
			}
		}
	}
}

// Driven does not hang on values, and has at most two numbers that are not nought.
func TestDrivenHangsOnNoValues(t *testing.T) {
	for seed := range uint64(200) {
		n := mingled(t, 1+int(seed%30), seed+1, "RLCIVGEPPP", near)
		var other []api.Element
		for i, e := range n.Elements() {
			e.Value = []float64{greatest, least, 7}[(i+int(seed))%3]
			if e.Kind == api.Current || e.Kind == api.Voltage {
				e.Value, e.Phase = greatest, 0
			}
			other = append(other, e)
		}
		over := must(t, append(slices.Clone(other), element("Ihigh 0 high", greatest), element("Ihigher 0 high", greatest))...)
		if _, f := source.Right(over); f.Err != api.ErrOver {
			t.Fatalf("not over:\n%s%v", over.Print(), f)
		}
		for _, e := range n.Elements() {
			if e.Kind != api.Port {
				continue
			}
			l := mustDriven(t, n, e.Name)
			if len(slices.DeleteFunc(slices.Clone(l), func(z complex128) bool { return z == 0 })) > 2 {
				t.Fatalf("Driven of %s: %v", e.Name, l)
			}
			if got := mustDriven(t, must(t, other...), e.Name); !same(got, l) {
				t.Fatalf("Driven of %s: %v; with other values %v", e.Name, l, got)
			}
			mustDriven(t, over, e.Name)
		}
	}
}

// DOC.md's rules: new memory, nothing that was handed in changed.

// spoil writes over a list, and over its spare room.
func spoil(l []complex128) {
	all := l[:cap(l)]
	for i := range all {
		all[i] = complex(nan, -7)
	}
}

func TestAnswersAreNewMemory(t *testing.T) {
	n := mustParse(t, "I1 a b 2, V1 b 0 4, E1 c 0 a b 2, P1 a c 50")
	text, right, driven := n.Print(), mustRight(t, n), mustDriven(t, n, "P1")
	for range 3 {
		r, d := mustRight(t, n), mustDriven(t, n, "P1")
		if !slices.Equal(r, []complex128{-2, 2, 0, 4, 0}) || !slices.Equal(d, []complex128{1, 0, -1, 0, 0}) {
			t.Fatalf("another time: %v, %v", r, d)
		}
		spoil(r)
		spoil(d)
	}
	if !slices.Equal(right, []complex128{-2, 2, 0, 4, 0}) || !slices.Equal(driven, []complex128{1, 0, -1, 0, 0}) {
		t.Errorf("what was told ahead was changed: %v, %v", right, driven)
	}
	if n.Print() != text || !slices.Equal(n.Nodes(), []string{"a", "b", "c"}) || !slices.Equal(n.Branches(), []string{"V1", "E1"}) || n.Order() != 5 {
		t.Errorf("the net was changed: %s", n.Print())
	}
}

// P1: the same again, side by side.
func TestCallsSideBySide(t *testing.T) {
	n := mingled(t, 40, 5, "RLCIIVGEP", near)
	over := must(t, element("I1 0 a", greatest), element("I2 0 a", greatest), element("P1 a 0", 1))
	want := mustRight(t, n)
	var group sync.WaitGroup
	for range 8 {
		group.Go(func() {
			for range 50 {
				l, f := source.Right(n)
				_, bad := source.Right(over)
				d, ok := source.Driven(over, "P1")
				s, err := source.Phasor(element("V1 a 0 6", 2))
				if f != (api.Fault{}) || !same(l, want) || bad != (api.Fault{Err: api.ErrOver, At: 1}) || ok != (api.Fault{}) || !same(d, []complex128{1}) || s != 2i || err != api.OK {
					t.Errorf("side by side: %v %v %v %v %v %v %d", l, f, bad, d, ok, s, err)
				}
				spoil(l)
				spoil(d)
			}
		})
	}
	group.Wait()
}
