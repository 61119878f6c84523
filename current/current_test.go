package current_test

import (
	"math"
	"math/big"
	"slices"
	"strconv"
	"strings"
	"sync"
	"testing"

	"gridwork/api"
	"gridwork/current"
	"gridwork/netlist"
	"gridwork/phasor"
)

const (
	least    = 0x1p-1074
	greatest = math.MaxFloat64
)

var (
	inf    = math.Inf(1)
	nan    = math.NaN()
	minus0 = math.Copysign(0, -1)
)

// The chapter's words, worked out apart from the program: of names, one operation after the other.

// The operations, each in a function of its own that is laid into none: nothing can be joined there.

//go:noinline
func plus(a, b float64) float64 { return a + b }

//go:noinline
func less(a, b float64) float64 { return a - b }

//go:noinline
func times(a, b float64) float64 { return a * b }

//go:noinline
func over(a, b float64) float64 { return a / b }

func difference(a, b complex128) complex128 {
	return complex(less(real(a), real(b)), less(imag(a), imag(b)))
}

func product(a, b complex128) complex128 {
	p, q, c, d := real(a), imag(a), real(b), imag(b)
	return complex(less(times(p, c), times(q, d)), plus(times(p, d), times(q, c)))
}

// opposite has both sign bits turned.
func opposite(z complex128) complex128 {
	turned := func(x float64) float64 { return math.Float64frombits(math.Float64bits(x) ^ 1<<63) }
	return complex(turned(real(z)), turned(imag(z)))
}

func finite(z complex128) bool {
	s := real(z) - real(z) + imag(z) - imag(z) // what is not finite is not 0 less itself
	return s == 0
}

// isBranch tells whether an element is a Voltage or an Amplifier.
func isBranch(e api.Element) bool { return e.Name[0] == 'V' || e.Name[0] == 'E' }

// nodesOf are the names of the nodes, as they first stand.
func nodesOf(l []api.Element) []string {
	var nodes []string
	for _, e := range l {
		for _, node := range []string{e.A, e.B, e.C, e.D} {
			if node != "" && node != "0" && !slices.Contains(nodes, node) {
				nodes = append(nodes, node)
			}
		}
	}
	return nodes
}

// numbersOf are the volts and the amperes of a solution that fits, by the names of the nodes and of the branches.
func numbersOf(l []api.Element, s api.Solution) map[string]complex128 {
	by := map[string]complex128{}
	for i, node := range nodesOf(l) {
		by[node] = s.Volts[i]
	}
	at := 0
	for _, e := range l {
		if isBranch(e) {
			by[e.Name] = s.Amps[at]
			at++
		}
	}
	return by
}

// cosineOf is chapter 4's cosine of steps from 0 to 23, all of them written out.
func cosineOf(k int) float64 {
	c := []float64{1, math.Float64frombits(0x3feee8dd4748bf15), math.Float64frombits(0x3febb67ae8584caa), math.Float64frombits(0x3fe6a09e667f3bcd), 0.5, math.Float64frombits(0x3fd0907dc1930690), 0}
	all := []float64{
		c[0], c[1], c[2], c[3], c[4], c[5], c[6], -c[5], -c[4], -c[3], -c[2], -c[1],
		-c[0], -c[1], -c[2], -c[3], -c[4], -c[5], c[6], c[5], c[4], c[3], c[2], c[1],
	}
	return all[k]
}

// phasorOf is a size times the root of a phase, part by part.
func phasorOf(size float64, phase int) complex128 {
	k := (phase%24 + 24) % 24
	return complex(times(size, cosineOf(k)), times(size, cosineOf((k+18)%24)))
}

// admittanceOf is what chapter 17 tells of an R, L, C or P that may be.
func admittanceOf(e api.Element, omega float64) (complex128, api.Errno) {
	switch {
	case omega != omega || math.IsInf(omega, 0):
		return 0, 5
	case omega <= 0:
		return 0, 2
	}
	p := times(omega, e.Value)
	y := complex(0, p)
	switch e.Name[0] {
	case 'R', 'P':
		y = complex(over(1, e.Value), 0)
	case 'L':
		y = complex(0, -over(1, p))
		if math.IsInf(p, 0) {
			return 0, 6
		}
	}
	if !finite(y) {
		return 0, 6
	}
	return y, 0
}

// flowOf is what flows through an element, or its error.
func flowOf(by map[string]complex128, omega float64, e api.Element) (complex128, api.Errno) {
	var z complex128
	switch e.Name[0] {
	case 'I':
		z = phasorOf(e.Value, e.Phase)
	case 'V', 'E':
		z = by[e.Name]
	case 'G':
		z = product(complex(e.Value, 0), difference(by[e.C], by[e.D]))
	default:
		y, err := admittanceOf(e, omega)
		if err != 0 {
			return 0, err
		}
		z = product(y, difference(by[e.A], by[e.B]))
	}
	if !finite(z) {
		return 0, 6
	}
	return z, 0
}

// againstOf tells what P21.1 has against a solution of a net, whatever is asked of it.
func againstOf(l []api.Element, s api.Solution) api.Errno {
	branches := 0
	for _, e := range l {
		if isBranch(e) {
			branches++
		}
	}
	if len(s.Volts) != len(nodesOf(l)) || len(s.Amps) != branches {
		return 4
	}
	for _, z := range slices.Concat(s.Volts, s.Amps) {
		if !finite(z) {
			return 5
		}
	}
	return 0
}

// throughOf is what the chapter says of Through.
func throughOf(l []api.Element, s api.Solution, name string) (complex128, api.Errno) {
	if err := againstOf(l, s); err != 0 {
		return 0, err
	}
	for _, e := range l {
		if e.Name == name {
			return flowOf(numbersOf(l, s), s.Omega, e)
		}
	}
	return 0, 10
}

// allOf is what the chapter says of All.
func allOf(l []api.Element, s api.Solution) ([]complex128, api.Errno) {
	if err := againstOf(l, s); err != 0 {
		return nil, err
	}
	var all []complex128
	for _, e := range l {
		z, err := flowOf(numbersOf(l, s), s.Omega, e)
		if err != 0 {
			return nil, err
		}
		all = append(all, z)
	}
	return all, 0
}

// sumOf is a sum of reals, with the error of each addition, as chapter 1 has it.
func sumOf(l []float64) (float64, []float64) {
	sum := 0.0
	var errs []float64
	for _, x := range l {
		s := plus(sum, x)
		t := less(s, sum)
		errs = append(errs, plus(less(sum, less(s, t)), less(x, t)))
		sum = s
	}
	return sum, errs
}

// atOf is what the chapter says of At.
func atOf(l []api.Element, s api.Solution, node string) (api.Sum, api.Errno) {
	if err := againstOf(l, s); err != 0 {
		return api.Sum{}, err
	}
	if node != "0" && !slices.Contains(nodesOf(l), node) {
		return api.Sum{}, 10
	}
	var at api.Sum
	var re, im []float64
	for _, e := range l {
		if e.A != node && e.B != node {
			continue
		}
		z, err := flowOf(numbersOf(l, s), s.Omega, e)
		if err != 0 {
			return api.Sum{}, err
		}
		if e.B == node {
			z = opposite(z)
		}
		at.Terms, re, im = append(at.Terms, z), append(re, real(z)), append(im, imag(z))
	}
	at.Re, at.ErrsRe = sumOf(re)
	at.Im, at.ErrsIm = sumOf(im)
	return at, 0
}

// must gives what is told without a fault.
func must[T any](answer T, f api.Fault) T {
	if f != (api.Fault{}) {
		panic("refused: " + f.Err.Error() + " at " + strconv.Itoa(f.At))
	}
	return answer
}

// allowed gives what is told without an error.
func allowed[T any](answer T, err api.Errno) T {
	return must(answer, api.Fault{Err: err})
}

// sameReal tells whether two reals have the same bits, or both are NaN.
func sameReal(a, b float64) bool {
	return math.Float64bits(a) == math.Float64bits(b) || a != a && b != b
}

func sameNumber(a, b complex128) bool {
	return sameReal(real(a), real(b)) && sameReal(imag(a), imag(b))
}

func sameList(a, b []complex128) bool { return slices.EqualFunc(a, b, sameNumber) }

// sameSum tells whether two sums are the same.
func sameSum(a, b api.Sum) bool {
	return sameList(a.Terms, b.Terms) && sameReal(a.Re, b.Re) && sameReal(a.Im, b.Im) && slices.EqualFunc(a.ErrsRe, b.ErrsRe, sameReal) && slices.EqualFunc(a.ErrsIm, b.ErrsIm, sameReal)
}

// sameSolution tells whether two solutions are the same.
func sameSolution(a, b api.Solution) bool {
	return sameReal(a.Omega, b.Omega) && sameList(a.Volts, b.Volts) && sameList(a.Amps, b.Amps)
}

// element makes an element of a line's words, but for its value; a phase stands last.
func element(line string, v float64) api.Element {
	words := strings.Fields(line)
	e := api.Element{Name: words[0], A: words[1], B: words[2], Value: v}
	e.Kind = api.Kind(1 + strings.IndexByte("RLCIVGEP", e.Name[0]))
	switch len(words) {
	case 4:
		e.Phase, _ = strconv.Atoi(words[3])
	case 5:
		e.C, e.D = words[3], words[4]
	}
	return e
}

// netOf gives the net of elements that make one.
func netOf(t *testing.T, l ...api.Element) *netlist.Net {
	t.Helper()
	n, f := netlist.Of(l)
	if n == nil || f != (api.Fault{}) {
		t.Fatalf("Of %v: %v", l, f)
	}
	return n
}

// parsed gives the net of a text that is one's, its lines parted by commas.
func parsed(t *testing.T, s string) *netlist.Net {
	t.Helper()
	n, f := netlist.Parse(strings.ReplaceAll(s, ", ", "\n"))
	if n == nil || f != (api.Fault{}) {
		t.Fatalf("Parse(%.60q): %v", s, f)
	}
	return n
}

// cloned is a solution in memory of its own.
func cloned(s api.Solution) api.Solution {
	return api.Solution{Omega: s.Omega, Volts: slices.Clone(s.Volts), Amps: slices.Clone(s.Amps)}
}

// hold holds what the three calls tell of a net and a solution against the chapter's words, and tells All's error.
func hold(t *testing.T, n *netlist.Net, s api.Solution) api.Errno {
	t.Helper()
	l, kept := n.Elements(), cloned(s)
	all, err := current.All(n, s)
	if want, bad := allOf(l, kept); err != bad || !sameList(all, want) {
		t.Fatalf("All of %v of\n%s%v %d; want %v %d", kept, n.Print(), all, err, want, bad)
	}
	for _, name := range append(namesOf(l), "", "0", "a", "R", "X9", "r1") {
		z, e := current.Through(n, s, name)
		if want, bad := throughOf(l, kept, name); e != bad || !sameNumber(z, want) {
			t.Fatalf("Through %q of %v of\n%s%v %d; want %v %d", name, kept, n.Print(), z, e, want, bad)
		}
	}
	for _, node := range append(nodesOf(l), "0", "", "00", "zz", "R1") {
		at, e := current.At(n, s, node)
		if want, bad := atOf(l, kept, node); e != bad || !sameSum(at, want) {
			t.Fatalf("At %q of %v of\n%s%v %d; want %v %d", node, kept, n.Print(), at, e, want, bad)
		}
	}
	if !sameSolution(s, kept) || !slices.Equal(n.Elements(), l) {
		t.Fatalf("%v of\n%sbecame %v", kept, n.Print(), s)
	}
	return err
}

// namesOf are the names of elements.
func namesOf(l []api.Element) []string {
	var names []string
	for _, e := range l {
		names = append(names, e.Name)
	}
	return names
}

// refusedAs holds that all three calls refuse a net and a solution, and tell nothing with it.
func refusedAs(t *testing.T, n *netlist.Net, s api.Solution, name, node string, want api.Errno) {
	t.Helper()
	if z, err := current.Through(n, s, name); err != want || !sameNumber(z, 0) {
		t.Errorf("Through %q of %v of\n%s%v %d; want %d", name, s, n.Print(), z, err, want)
	}
	if all, err := current.All(n, s); err != want || len(all) != 0 {
		t.Errorf("All of %v of\n%s%v %d; want %d", s, n.Print(), all, err, want)
	}
	if at, err := current.At(n, s, node); err != want || !noSum(at) {
		t.Errorf("At %q of %v of\n%s%v %d; want %d", node, s, n.Print(), at, err, want)
	}
}

// noSum tells whether a sum is the zero one.
func noSum(s api.Sum) bool { return sameSum(s, api.Sum{}) }

// scatter gives whole numbers of 64 bits, always the same ones.
func scatter(n int, seed uint64) []uint64 {
	var all []uint64
	for range n {
		seed ^= seed << 13
		seed ^= seed >> 7
		seed ^= seed << 17
		all = append(all, seed)
	}
	return all
}

// sized makes reals of mingled bits, of both signs, from a power of two on, of so many powers.
func sized(from, powers int) func(bits uint64) float64 {
	return func(bits uint64) float64 {
		x := math.Ldexp(1+float64(bits>>12)*0x1p-52, from+int(bits%uint64(powers)))
		if bits&(1<<11) != 0 {
			return -x
		}
		return x
	}
}

// near is a real from 2^-8 to 2^8 in size with mingled bits.
func near(bits uint64) float64 { return sized(-8, 16)(bits) }

// mingled gives a net of so many elements among the ground and six nodes, with values that a function makes of mingled bits, and phases up to 30 steps either way.
func mingled(t *testing.T, count int, seed uint64, letters string, values func(bits uint64) float64) *netlist.Net {
	t.Helper()
	nodes := []string{"0", "a", "b", "c", "d", "e", "f"}
	bits := scatter(3*count, seed)
	var l []api.Element
	for i := range count {
		kind, wires, v := bits[3*i]>>20, bits[3*i+1]>>20, values(bits[3*i+2])
		a := int(wires % 7)
		b := (a + 1 + int(wires/7%6)) % 7
		line := string(letters[kind%uint64(len(letters))]) + strconv.Itoa(i) + " " + nodes[a] + " " + nodes[b]
		switch {
		case strings.IndexByte("GE", line[0]) >= 0:
			line += " " + nodes[wires/42%7] + " " + nodes[wires/294%7]
		case strings.IndexByte("IV", line[0]) >= 0:
			line += " " + strconv.Itoa(int(wires/42%61)-30)
		}
		if strings.IndexByte("RLCP", line[0]) >= 0 {
			v = math.Abs(v)
		}
		l = append(l, element(line, v))
	}
	return netOf(t, l...)
}

// joined gives a net with a Resistor more from each of its nodes to the ground.
func joined(t *testing.T, n *netlist.Net, v float64) *netlist.Net {
	t.Helper()
	l := n.Elements()
	for i, node := range n.Nodes() {
		l = append(l, element("Rj"+strconv.Itoa(i)+" "+node+" 0", v))
	}
	return netOf(t, l...)
}

// anySolution gives a solution that fits a net, of numbers that a function makes of mingled bits.
func anySolution(n *netlist.Net, omega float64, seed uint64, values func(bits uint64) float64) api.Solution {
	s := api.Solution{Omega: omega}
	nodes := len(n.Nodes())
	for i, bits := range scatter(n.Order(), seed+1) {
		z := complex(values(bits), values(bits*0x9e3779b97f4a7c15))
		if i < nodes {
			s.Volts = append(s.Volts, z)
		} else {
			s.Amps = append(s.Amps, z)
		}
	}
	return s
}

// The examples of the chapter, and those of the whole.

// dividing is the chapter's net, with its solution.
func dividing(t *testing.T) (*netlist.Net, api.Solution) {
	t.Helper()
	n := parsed(t, "R1 a b 2, R2 b 0 4, V1 a 0 6")
	return n, must(phasor.Solve(n, 1))
}

func TestExamples(t *testing.T) {
	n, s := dividing(t)
	if !slices.Equal(s.Volts, []complex128{6, 4}) || !slices.Equal(s.Amps, []complex128{-1}) {
		t.Fatalf("the solution: %v", s)
	}
	for name, want := range map[string]complex128{"R1": 1, "R2": 1, "V1": -1} {
		if z, err := current.Through(n, s, name); z != want || err != api.OK {
			t.Errorf("Through %s: %v %d", name, z, err)
		}
	}
	if z, err := current.Through(n, s, "X"); !sameNumber(z, 0) || err != api.ErrMissing {
		t.Errorf("Through X: %v %d", z, err)
	}
	if all, err := current.All(n, s); !slices.Equal(all, []complex128{1, 1, -1}) || err != api.OK {
		t.Errorf("All: %v %d", all, err)
	}
	for node, want := range map[string][]complex128{"a": {1, -1}, "b": {-1, 1}, "0": {-1, 1}} {
		at, err := current.At(n, s, node)
		if err != api.OK || !slices.Equal(at.Terms, want) || at.Re != 0 || at.Im != 0 || !slices.Equal(at.ErrsRe, []float64{0, 0}) || !slices.Equal(at.ErrsIm, []float64{0, 0}) {
			t.Errorf("At %s: %v %d", node, at, err)
		}
	}
	hold(t, n, s)
}

func TestExamplesOfErrors(t *testing.T) {
	n, s := dividing(t)
	refusedAs(t, n, api.Solution{Omega: 1, Volts: s.Volts}, "R1", "a", api.ErrShape)
	refusedAs(t, n, api.Solution{Omega: 1, Volts: []complex128{6, complex(nan, 0)}, Amps: s.Amps}, "R1", "a", api.ErrNumber)
	refusedAs(t, nil, s, "R1", "a", api.ErrNil)
	if api.OK != 0 || api.ErrNil != 1 || api.ErrArg != 2 || api.ErrShape != 4 || api.ErrNumber != 5 || api.ErrOver != 6 || api.ErrMissing != 10 {
		t.Error("the numbers of the errors")
	}
}

// P21.2: what flows through an element.

// Of each kind, worked out by hand.
func TestEachKind(t *testing.T) {
	n := parsed(t, "R1 a b 4, P1 a b 2, L1 a b 4, C1 a b 8, I1 a b 3 6, V1 a b 7, G1 a b c d -3, E1 a b c d 5, R2 b 0 1, R3 0 b 1, G2 c 0 0 d 2, G3 c d a a 9, I2 b 0 -5 12, G4 0 d b 0 500m")
	s := api.Solution{Omega: 0.5, Volts: []complex128{complex(9, -2), complex(1, 6), complex(4, 4), complex(-1, 2)}, Amps: []complex128{complex(20, 30), complex(-40, 50)}}
	// a less b is (8, -8), c less d is (5, 2).
	want := map[string]complex128{
		"R1": complex(2, -2), "P1": complex(4, -4), "L1": complex(-4, -4), "C1": complex(32, 32), "I1": complex(0, 3), "V1": complex(20, 30), "G1": complex(-15, -6), "E1": complex(-40, 50),
		"R2": complex(1, 6), "R3": complex(-1, -6), "G2": complex(2, -4), "G3": 0, "I2": 5, "G4": complex(0.5, 3),
	}
	all := allowed(current.All(n, s))
	for i, e := range n.Elements() {
		z, err := current.Through(n, s, e.Name)
		if err != api.OK || z != want[e.Name] || all[i] != z {
			t.Errorf("Through %s: %v %d, in All %v; want %v", e.Name, z, err, all[i], want[e.Name])
		}
	}
	for node, want := range map[string][]complex128{
		"a": {complex(2, -2), complex(4, -4), complex(-4, -4), complex(32, 32), complex(0, 3), complex(20, 30), complex(-15, -6), complex(-40, 50)},
		"b": {complex(-2, 2), complex(-4, 4), complex(4, 4), complex(-32, -32), complex(0, -3), complex(-20, -30), complex(15, 6), complex(40, -50), complex(1, 6), complex(1, 6), 5},
		"c": {complex(2, -4), 0},
		"d": {0, complex(-0.5, -3)},
		"0": {complex(-1, -6), complex(-1, -6), complex(-2, 4), -5, complex(0.5, 3)},
	} {
		at, err := current.At(n, s, node)
		if err != api.OK || !slices.Equal(at.Terms, want) {
			t.Errorf("At %s: %v %d; want %v", node, at, err, want)
		}
		var sum complex128
		for _, z := range want {
			sum += z
		}
		if noughts := make([]float64, len(want)); complex(at.Re, at.Im) != sum || !slices.Equal(at.ErrsRe, noughts) || !slices.Equal(at.ErrsIm, noughts) {
			t.Errorf("At %s: %v; the sum is %v, without errors", node, at, sum)
		}
	}
	hold(t, n, s)
}

// TestEveryPairOfElements goes through all nets of one and of two elements among the ground and two nodes.
func TestEveryPairOfElements(t *testing.T) {
	var lines []string
	nodes := []string{"0", "a", "b"}
	for _, a := range nodes {
		for _, b := range nodes {
			if a == b {
				continue
			}
			for _, letter := range "RLCIVP" {
				lines = append(lines, string(letter)+"x "+a+" "+b)
			}
			lines = append(lines, "Ix "+a+" "+b+" 5", "Vx "+a+" "+b+" -8")
			for _, c := range nodes {
				lines = append(lines, "Gx "+a+" "+b+" "+c+" b", "Ex "+a+" "+b+" a "+c)
			}
		}
	}
	for i, first := range lines {
		e := element(first, 3)
		n := netOf(t, e)
		hold(t, n, anySolution(n, 1.5, uint64(i), near))
		for k, second := range lines {
			o := element(second, 0.1)
			o.Name = o.Name[:1] + "y"
			n := netOf(t, e, o)
			if err := hold(t, n, anySolution(n, 0.75, uint64(k), near)); err != api.OK {
				t.Fatalf("All of\n%s%d", n.Print(), err)
			}
		}
	}
}

// Noughts of both signs, the least and the greatest reals, in all parts of two nodes' volts.
func TestEdgesOfVolts(t *testing.T) {
	reals := []float64{0, minus0, 1, -3, least, 0x1p-600, greatest, -greatest}
	nets := []*netlist.Net{
		netOf(t, element("R1 a b", 3), element("V1 b a", 1)), netOf(t, element("P1 0 a", 0.3), element("R1 b 0", 0x1p1000)), netOf(t, element("L1 a b", 7), element("G1 a 0 b 0", minus0)),
		netOf(t, element("C1 a b", 0.1), element("E1 a 0 b 0", 1)), netOf(t, element("G1 a b a b", 0.7), element("G2 b a b a", 0)), netOf(t, element("C1 a 0", least), element("L1 b 0", 0x1p1000), element("I1 a b 12", minus0)),
	}
	seen := map[api.Errno]int{}
	for i := range len(reals) * len(reals) * len(reals) * len(reals) {
		z := complex(reals[i%8], reals[i/8%8])
		y := complex(reals[i/64%8], reals[i/512%8])
		for _, n := range nets {
			s := api.Solution{Omega: 0.25, Volts: []complex128{z, y}}
			for range n.Branches() {
				s.Amps = append(s.Amps, complex(imag(y), real(z)))
			}
			seen[hold(t, n, s)]++
		}
	}
	if seen[api.OK] < 1000 || seen[api.ErrOver] < 1000 || len(seen) != 2 {
		t.Errorf("how often each is told: %v", seen)
	}
}

func TestMingledNets(t *testing.T) {
	solvable, seen := 0, map[api.Errno]int{}
	for seed := range uint64(300) {
		count, omega := 1+int(seed%30), math.Abs(near(seed*0x9e3779b97f4a7c15))
		for _, letters := range []string{"RLCIVGEP", "RLCIIRLCPRLCV", "GGGGII", "RREI"} {
			n := joined(t, mingled(t, count, seed+1000, letters, near), math.Abs(near(seed)))
			hold(t, n, anySolution(n, omega, seed, near))
			seen[hold(t, n, anySolution(n, omega, seed, sized(-1074, 2098)))]++
			seen[hold(t, n, anySolution(n, omega, seed, sized(1000, 20)))]++
			if s, f := phasor.Solve(n, omega); f == (api.Fault{}) {
				solvable++
				if err := hold(t, n, s); err != api.OK {
					t.Fatalf("All of %v of\n%s%d", s, n.Print(), err)
				}
			}
		}
	}
	if solvable < 800 || seen[api.OK] < 100 || seen[api.ErrOver] < 100 {
		t.Errorf("%d of 1200 nets are not refused; how often each is told: %v", solvable, seen)
	}
}

// Of values of all sizes admittances and currents are over here and there, or rounded to nought; so are sums.
func TestMingledNetsOfAllSizes(t *testing.T) {
	seen, sums := map[api.Errno]int{}, 0
	for seed := range uint64(300) {
		for _, values := range []func(bits uint64) float64{sized(-1000, 2000), sized(500, 500), sized(1017, 7), sized(-1026, 24)} {
			for _, volts := range []func(bits uint64) float64{near, sized(-1074, 2098), sized(-1074, 60), sized(1018, 6)} {
				for _, letters := range []string{"RLCIVGEP", "RP", "LC", "VEI", "G"} {
					n := mingled(t, 1+int(seed%6), seed+5000, letters, values)
					s := anySolution(n, 0.3, seed, volts)
					seen[hold(t, n, s)]++
					for _, node := range append(n.Nodes(), "0") {
						if at, err := current.At(n, s, node); err == api.OK && !finite(complex(at.Re, at.Im)) {
							sums++
						}
					}
				}
			}
		}
	}
	if seen[api.OK] < 1000 || seen[api.ErrOver] < 1000 || sums < 100 || len(seen) != 2 {
		t.Errorf("how often each is told: %v; sums that are over: %d", seen, sums)
	}
}

// The greatest nets: all nodes, all branches, all elements.
func TestGreatestNets(t *testing.T) {
	node := func(i int) string { return "n" + strconv.Itoa(i%api.MaxNodes) }
	for _, branches := range []int{0, 7, api.MaxOrder - api.MaxNodes} {
		var l []api.Element
		for i := range api.MaxElements {
			number := strconv.Itoa(i)
			v, wires := 1+1/float64(i+1), number+" "+node(i)+" "+node(7*i+1)
			switch {
			case i < branches && i%3 == 0:
				l = append(l, element("V"+number+" "+node(i)+" 0 "+number, v))
			case i < branches:
				l = append(l, element("E"+number+" "+node(i)+" 0 "+node(i+5)+" 0", v/4))
			case i < 2*api.MaxNodes || node(i) == node(7*i+1):
				l = append(l, element("R"+number+" 0 "+node(i), v))
			case i%6 == 5:
				l = append(l, element("G"+wires+" "+node(i+2)+" "+node(3*i), -v))
			case i%6 == 4:
				l = append(l, element("I"+wires+" "+number, v))
			default:
				l = append(l, element(string("RLCP"[i%6])+wires, v))
			}
		}
		n := netOf(t, l...)
		if len(n.Nodes()) != api.MaxNodes || len(n.Branches()) != branches || len(n.Elements()) != api.MaxElements {
			t.Fatalf("the order %d, %d elements", n.Order(), len(n.Elements()))
		}
		if err := hold(t, n, anySolution(n, 0.3, 9, near)); err != api.OK {
			t.Fatalf("with %d branches: %d", branches, err)
		}
		// A last element may be what is wrong.
		l[api.MaxElements-1] = element("R255 n0 n31", least)
		s := anySolution(n, 0.3, 9, near)
		n = netOf(t, l...)
		if err := hold(t, n, s); err != api.ErrOver {
			t.Fatalf("with %d branches: %d", branches, err)
		}
	}
	// All elements may be joined to one node.
	var star []api.Element
	for i := range api.MaxElements {
		wires := strconv.Itoa(i) + " hub n" + strconv.Itoa(i%(api.MaxNodes-1))
		if i%2 != 0 {
			wires = strconv.Itoa(i) + " n" + strconv.Itoa(i%(api.MaxNodes-1)) + " hub"
		}
		star = append(star, element(string("RLCIP"[i%5])+wires, 1/float64(i+3)))
	}
	n := netOf(t, star...)
	s := anySolution(n, 0.3, 9, near)
	hold(t, n, s)
	if at := allowed(current.At(n, s, "hub")); len(at.Terms) != api.MaxElements || len(at.ErrsRe) != api.MaxElements || len(at.ErrsIm) != api.MaxElements {
		t.Errorf("%d terms at the hub", len(at.Terms))
	}
}

// A net of no elements: nothing flows in it, not even into the ground.
func TestNoElements(t *testing.T) {
	n := netOf(t)
	for _, omega := range []float64{1, 0, -1, nan, inf} {
		s := api.Solution{Omega: omega}
		hold(t, n, s)
		if all, err := current.All(n, s); err != api.OK || len(all) != 0 {
			t.Errorf("All: %v %d", all, err)
		}
		if at, err := current.At(n, s, "0"); err != api.OK || !noSum(at) {
			t.Errorf("At the ground: %v %d", at, err)
		}
		if z, err := current.Through(n, s, "R1"); err != api.ErrMissing || z != 0 {
			t.Errorf("Through R1: %v %d", z, err)
		}
	}
	refusedAs(t, n, api.Solution{Omega: 1, Volts: []complex128{1}}, "R1", "0", api.ErrShape)
	refusedAs(t, n, api.Solution{Omega: 1, Amps: []complex128{1}}, "R1", "0", api.ErrShape)
}

// P21.3: what a node's currents sum to.

// C and D of a Transfer and of an Amplifier take no current: neither what flows there nor what is wrong with it shows at them.
func TestNodesThatAreOnlyLookedAt(t *testing.T) {
	n := netOf(t, element("G1 a 0 c d", 0x1p1000), element("E1 a 0 d c", 2), element("R1 a 0", least))
	for _, omega := range []float64{1, 0, nan} {
		s := api.Solution{Omega: omega, Volts: []complex128{1, complex(0x1p1000, 0), 0}, Amps: []complex128{5}}
		for _, node := range []string{"c", "d"} {
			if at, err := current.At(n, s, node); err != api.OK || !noSum(at) {
				t.Errorf("At %s: %v %d", node, at, err)
			}
		}
		hold(t, n, s)
		if at, err := current.At(n, s, "a"); err != api.ErrOver || !noSum(at) {
			t.Errorf("At a: %v %d", at, err)
		}
	}
}

// Errors of additions, worked out by hand.
func TestErrorsOfAdditions(t *testing.T) {
	n := parsed(t, "R1 a 0 1, I1 a 0 1, R2 0 a 1, I2 0 a 1, R3 b 0 1")
	s := api.Solution{Omega: 1, Volts: []complex128{complex(0x1p-60, 0x1p-1074), 0}}
	at := allowed(current.At(n, s, "a"))
	tiny := complex(0x1p-60, 0x1p-1074)
	if !slices.Equal(at.Terms, []complex128{tiny, 1, tiny, -1}) || at.Re != 0 || !slices.Equal(at.ErrsRe, []float64{0, 0x1p-60, 0x1p-60, 0}) || at.Im != 0x1p-1073 || !slices.Equal(at.ErrsIm, make([]float64, 4)) {
		t.Errorf("At a: %v", at)
	}
	at = allowed(current.At(n, s, "0"))
	if !slices.Equal(at.Terms, []complex128{-tiny, -1, -tiny, 1, 0}) || at.Re != 0 || !slices.Equal(at.ErrsRe, []float64{0, -0x1p-60, -0x1p-60, 0, 0}) || at.Im != -0x1p-1073 || !slices.Equal(at.ErrsIm, make([]float64, 5)) {
		t.Errorf("At the ground: %v", at)
	}
}

// A sum begins at +0; terms keep the signs of their noughts.
func TestSignsOfNoughts(t *testing.T) {
	n := parsed(t, "V1 a b 1, V2 b a 1")
	s := api.Solution{Omega: 1, Volts: []complex128{0, 0}, Amps: []complex128{complex(0, minus0), complex(minus0, 0)}}
	for node, want := range map[string][]complex128{"a": {complex(0, minus0), complex(0, minus0)}, "b": {complex(minus0, 0), complex(minus0, 0)}} {
		at, err := current.At(n, s, node)
		if err != api.OK || !sameList(at.Terms, want) || !sameReal(at.Re, 0) || !sameReal(at.Im, 0) {
			t.Errorf("At %s: %v %d; want %v", node, at, err, want)
		}
	}
	if all := allowed(current.All(n, s)); !sameList(all, s.Amps) {
		t.Errorf("All: %v", all)
	}
	hold(t, n, s)
}

// A sum that is over is told as the operations tell it: no current is over.
func TestSumsThatAreOver(t *testing.T) {
	n := netOf(t, element("I1 a 0", 0x1p1023), element("I2 a 0", 0x1p1023), element("I3 0 a", 0x1p1023), element("I4 b 0 6", greatest), element("I5 b 0 6", -greatest), element("I6 b 0 6", greatest))
	s := api.Solution{Omega: 1, Volts: []complex128{0, 0}}
	at, err := current.At(n, s, "a")
	if err != api.OK || !slices.Equal(at.Terms, []complex128{0x1p1023, 0x1p1023, -0x1p1023}) || at.Re != inf || at.ErrsRe[0] != 0 || !math.IsNaN(at.ErrsRe[1]) || at.Im != 0 {
		t.Errorf("At a: %v %d", at, err)
	}
	at, err = current.At(n, s, "b")
	if err != api.OK || at.Im != greatest || !slices.Equal(at.ErrsIm, []float64{0, 0, 0}) || at.Re != 0 {
		t.Errorf("At b: %v %d", at, err)
	}
	hold(t, n, s)
}

// What is solved exactly sums to nought at each node, C and D left out.
func TestNodesOfASolvedNet(t *testing.T) {
	n := parsed(t, "E1 c 0 b a 2, R1 z c 1, V1 a 0 9, G1 0 b z 0 250m, V2 m 0 -4, R2 m z 1, R3 b 0 2, I1 a 0 7, P1 m a 1")
	s := must(phasor.Solve(n, 1))
	if !slices.Equal(s.Volts, []complex128{-40, -11, 9, -22, -4}) || !slices.Equal(s.Amps, []complex128{18, -20, -5}) {
		t.Fatalf("the solution: %v", s)
	}
	if all := allowed(current.All(n, s)); !slices.Equal(all, []complex128{18, 18, -20, -5.5, -5, 18, -5.5, 7, -13}) {
		t.Errorf("All: %v", all)
	}
	for _, node := range append(n.Nodes(), "0") {
		at, err := current.At(n, s, node)
		if noughts := make([]float64, len(at.Terms)); err != api.OK || len(at.Terms) < 2 || at.Re != 0 || at.Im != 0 || !slices.Equal(at.ErrsRe, noughts) || !slices.Equal(at.ErrsIm, noughts) {
			t.Errorf("At %s: %v %d", node, at, err)
		}
	}
}

// P21.1: what is refused, and what of it first.

// rich is a net with elements of all kinds, and a solution that fits it.
func rich(t *testing.T) (*netlist.Net, api.Solution) {
	t.Helper()
	n := parsed(t, "V1 a 0 6, R1 a b 2, L1 b c 3, C1 c 0 1, I1 0 c 2 7, E1 d 0 b c 2, G1 d b a c 500m, P1 d b 50, V2 0 e -1 5, R2 e c 3")
	return n, must(phasor.Solve(n, 1.5))
}

// What is no net is refused ahead of all else.
func TestNoNet(t *testing.T) {
	for _, n := range []*netlist.Net{nil, {}, new(netlist.Net)} {
		for _, s := range []api.Solution{{}, {Omega: 1}, {Omega: nan}, {Omega: 1, Volts: []complex128{1}}, {Volts: []complex128{complex(nan, 0)}}, {Volts: []complex128{}, Amps: []complex128{}}} {
			for _, name := range []string{"", "0", "a", "R1"} {
				refusedAs(t, n, s, name, name, api.ErrNil)
			}
		}
	}
}

// What does not fit is refused ahead of numbers that are not finite, of names that are missing, of omegas that may not be.
func TestSolutionsThatDoNotFit(t *testing.T) {
	n, _ := rich(t)
	nodes, branches := len(n.Nodes()), len(n.Branches())
	for volts := range nodes + 3 {
		for amps := range branches + 3 {
			for _, z := range []complex128{0, complex(nan, 0)} {
				for _, omega := range []float64{1.5, 0, nan} {
					s := api.Solution{Omega: omega, Volts: append(slices.Repeat([]complex128{z}, volts), 7, 8)[:volts], Amps: append(slices.Repeat([]complex128{z}, amps), 7, 8)[:amps]}
					hold(t, n, s)
					if volts == nodes && amps == branches {
						continue
					}
					for _, name := range []string{"V1", "R1", "X9", ""} {
						for _, node := range []string{"0", "a", "zz", ""} {
							refusedAs(t, n, s, name, node, api.ErrShape)
						}
					}
				}
			}
		}
	}
	for _, s := range []api.Solution{{}, {Omega: nan}, {Volts: make([]complex128, nodes+branches)}, {Amps: make([]complex128, nodes+branches)}, {Volts: make([]complex128, branches), Amps: make([]complex128, nodes)}, {Volts: make([]complex128, 70000)}} {
		refusedAs(t, n, s, "V1", "0", api.ErrShape)
	}
}

// A number that is not finite is refused wherever it stands, whatever is asked.
func TestNumbersThatAreNotFinite(t *testing.T) {
	n, good := rich(t)
	bad := []complex128{complex(nan, 0), complex(0, nan), complex(inf, 1), complex(-1, -inf), complex(-inf, inf), complex(inf, nan), complex(nan, nan)}
	for at := range n.Order() {
		for _, z := range bad {
			s := cloned(good)
			if at < len(s.Volts) {
				s.Volts[at] = z
			} else {
				s.Amps[at-len(s.Volts)] = z
			}
			for _, omega := range []float64{1.5, 0, nan} {
				s.Omega = omega
				hold(t, n, s)
				for _, name := range []string{"V1", "R1", "G1", "I1", "X9"} {
					for _, node := range []string{"0", "a", "e", "zz"} {
						refusedAs(t, n, s, name, node, api.ErrNumber)
					}
				}
			}
		}
	}
	// The greatest numbers may be.
	n = parsed(t, "R1 a 0 1, V1 a 0 1")
	s := api.Solution{Omega: 1, Volts: []complex128{complex(greatest, -greatest)}, Amps: []complex128{complex(-greatest, greatest)}}
	if at, err := current.At(n, s, "a"); err != api.OK || !slices.Equal(at.Terms, []complex128{s.Volts[0], s.Amps[0]}) || at.Re != 0 || at.Im != 0 {
		t.Errorf("At a: %v %d", at, err)
	}
	hold(t, n, s)
}

// Which names Through knows, and which nodes At.
func TestNamesThatAreAsked(t *testing.T) {
	n, s := rich(t)
	for name, want := range map[string][2]api.Errno{
		"0": {10, 0}, "a": {10, 0}, "e": {10, 0}, "V1": {0, 10}, "V2": {0, 10}, "E1": {0, 10}, "R1": {0, 10}, "L1": {0, 10}, "C1": {0, 10}, "I1": {0, 10}, "G1": {0, 10}, "P1": {0, 10},
		"": {10, 10}, "00": {10, 10}, "A": {10, 10}, "f": {10, 10}, " a": {10, 10}, "a ": {10, 10}, "v1": {10, 10}, "V": {10, 10}, "V3": {10, 10}, "X9": {10, 10}, "\xff": {10, 10},
		strings.Repeat("a", 1<<16): {10, 10}, "V1\x00": {10, 10}, "0\x00": {10, 10},
	} {
		if z, err := current.Through(n, s, name); err != want[0] || err != api.OK && z != 0 {
			t.Errorf("Through %.20q: %v %d", name, z, err)
		}
		if at, err := current.At(n, s, name); err != want[1] || err != api.OK && !noSum(at) {
			t.Errorf("At %.20q: %v %d", name, at, err)
		}
	}
	// The node 00 is not the ground.
	n = parsed(t, "R1 00 0 1, R2 00 0 1, I1 0 00 5, R3 a 0 1")
	at, err := current.At(n, api.Solution{Omega: 1, Volts: []complex128{3, 1}}, "00")
	if err != api.OK || !slices.Equal(at.Terms, []complex128{3, 3, -5}) || at.Re != 1 {
		t.Errorf("At 00: %v %d", at, err)
	}
}

// What is missing is told ahead of what is wrong with omega or with the currents.
func TestWhatIsMissing(t *testing.T) {
	n := netOf(t, element("R1 a 0", least), element("G1 a 0 a 0", 0x1p1000), element("C1 a 0", 1))
	for _, omega := range []float64{1, 0, minus0, -1, nan, inf} {
		s := api.Solution{Omega: omega, Volts: []complex128{0x1p1000}}
		if z, err := current.Through(n, s, "R2"); err != api.ErrMissing || z != 0 {
			t.Errorf("Through R2 at %v: %v %d", omega, z, err)
		}
		if at, err := current.At(n, s, "b"); err != api.ErrMissing || !noSum(at) {
			t.Errorf("At b at %v: %v %d", omega, at, err)
		}
		hold(t, n, s)
	}
}

// Omega is asked of Resistors, coils, capacitors and ports alone.
func TestOmegas(t *testing.T) {
	n := parsed(t, "I1 a b 2 3, V1 a 0 1, E1 b 0 a 0 2, G1 c 0 a b 3, R1 c d 2, L1 c d 2, C1 c d 2, P1 c d 2")
	s := anySolution(n, 0, 5, near)
	for omega, want := range map[float64]api.Errno{nan: 5, inf: 5, -inf: 5, 0: 2, minus0: 2, -1: 2, -least: 2, -greatest: 2, 1: 0, 0x1p-500: 0, 0x1p500: 0} {
		s.Omega = omega
		hold(t, n, s)
		for _, name := range []string{"I1", "V1", "E1", "G1"} {
			if _, err := current.Through(n, s, name); err != api.OK {
				t.Errorf("Through %s at %v: %d", name, omega, err)
			}
		}
		for _, name := range []string{"R1", "L1", "C1", "P1"} {
			if z, err := current.Through(n, s, name); err != want || err != api.OK && !sameNumber(z, 0) {
				t.Errorf("Through %s at %v: %v %d; want %d", name, omega, z, err, want)
			}
		}
		for _, node := range []string{"a", "b", "0"} {
			if at, err := current.At(n, s, node); err != api.OK || len(at.Terms) < 2 {
				t.Errorf("At %s at %v: %v %d", node, omega, at, err)
			}
		}
		for _, node := range []string{"c", "d"} {
			if at, err := current.At(n, s, node); err != want || err != api.OK && !noSum(at) {
				t.Errorf("At %s at %v: %v %d; want %d", node, omega, at, err, want)
			}
		}
		if all, err := current.All(n, s); err != want || err != api.OK && len(all) != 0 {
			t.Errorf("All at %v: %v %d; want %d", omega, all, err, want)
		}
	}
}

// Of several elements the first one's error is told; of one element its admittance's ahead of its current's.
func TestWhatIsToldFirst(t *testing.T) {
	for _, c := range []struct {
		name  string
		omega float64
		want  api.Errno
		lines []api.Element
	}{
		{"a resistor, then a current that is over", 0, 2, []api.Element{element("R1 a 0", 1), element("G1 a 0 a b", 0x1p1023)}},
		{"a current that is over, then a resistor", 0, 6, []api.Element{element("G1 a 0 a b", 0x1p1023), element("R1 a 0", 1)}},
		{"a coil behind what may be", nan, 5, []api.Element{element("I1 a 0", 1), element("V1 a 0", 1), element("G2 a 0 b b", 1), element("L1 a 0", 1), element("G1 a 0 a b", 0x1p1023)}},
		{"a port whose current would be over", -1, 2, []api.Element{element("P1 a b", 0x1p-100)}},
		{"a resistor that has no admittance", inf, 5, []api.Element{element("R1 a b", least)}},
		{"a resistor that has no admittance at an omega that may be", 1, 6, []api.Element{element("R1 a b", least)}},
		{"a capacitor that has none", 0x1p1000, 6, []api.Element{element("C1 a b", 0x1p1000)}},
		{"a coil that has none", least, 6, []api.Element{element("L1 a b", 0.5)}},
		{"a coil whose product is over", 0x1p1000, 6, []api.Element{element("L1 a b", 0x1p1000)}},
		{"a resistor with a current that is over", 1, 6, []api.Element{element("R1 a b", 0x1p-100)}},
	} {
		l := append(c.lines, element("Vx b 0", 1))
		n := netOf(t, l...)
		s := api.Solution{Omega: c.omega}
		for range n.Nodes() {
			s.Volts = append(s.Volts, complex(0x1p1000, -0x1p1000))
		}
		at, _ := n.Place("b")
		s.Volts[at] = 0
		s.Amps = make([]complex128, len(n.Branches()))
		hold(t, n, s)
		if all, err := current.All(n, s); err != c.want || len(all) != 0 {
			t.Errorf("%s: All: %v %d; want %d", c.name, all, err, c.want)
		}
		if sum, err := current.At(n, s, "a"); err != c.want || !noSum(sum) {
			t.Errorf("%s: At a: %v %d; want %d", c.name, sum, err, c.want)
		}
	}
}

// A difference of volts that is over makes a current that is none, be it times a nought.
func TestDifferencesThatAreOver(t *testing.T) {
	n := netOf(t, element("G1 a 0 a b", 0), element("C1 a b", least), element("R1 a b", greatest), element("G2 c 0 a a", 1), element("V1 a b", 1))
	s := api.Solution{Omega: 0.25, Volts: []complex128{greatest, -greatest, 1}, Amps: []complex128{2}}
	for name, want := range map[string]api.Errno{"G1": 6, "C1": 6, "R1": 6, "G2": 0, "V1": 0} {
		if z, err := current.Through(n, s, name); err != want || err != api.OK && !sameNumber(z, 0) {
			t.Errorf("Through %s: %v %d; want %d", name, z, err, want)
		}
	}
	for node, want := range map[string]api.Errno{"a": 6, "b": 6, "0": 6, "c": 0} {
		if at, err := current.At(n, s, node); err != want || err != api.OK && !noSum(at) {
			t.Errorf("At %s: %v %d; want %d", node, at, err, want)
		}
	}
	hold(t, n, s)
}

// P21.4 (P4): what follows.

// exact is the sum of reals, as real numbers.
func exact(l []float64) *big.Float {
	sum := new(big.Float).SetPrec(4096)
	for _, x := range l {
		sum.Add(sum, new(big.Float).SetPrec(4096).SetFloat64(x))
	}
	return sum
}

// bounded tells whether no number, and no sum on the way, is above 2^1022 in size.
func bounded(l []float64) bool {
	sum := 0.0
	for _, x := range l {
		sum += x
		if !(math.Abs(x) <= 0x1p1022 && math.Abs(sum) <= 0x1p1022) {
			return false
		}
	}
	return true
}

func TestSumsWithTheirErrors(t *testing.T) {
	checked, rounded := 0, 0
	for seed := range uint64(400) {
		for _, values := range []func(bits uint64) float64{near, sized(-500, 1000), sized(-1074, 80), sized(1005, 14)} {
			for _, letters := range []string{"RLCIVGEP", "IVE"} {
				n := mingled(t, 5+int(seed%60), seed+77, letters, near)
				if letters == "IVE" {
					n = mingled(t, 5+int(seed%20), seed+77, letters, values)
				}
				s := anySolution(n, 2, seed, values)
				for _, node := range append(n.Nodes(), "0") {
					at, err := current.At(n, s, node)
					if err != api.OK {
						continue
					}
					for i, part := range []func(z complex128) float64{func(z complex128) float64 { return real(z) }, func(z complex128) float64 { return imag(z) }} {
						var terms []float64
						for _, z := range at.Terms {
							terms = append(terms, part(z))
						}
						sum, errs := at.Re, at.ErrsRe
						if i == 1 {
							sum, errs = at.Im, at.ErrsIm
						}
						if !bounded(terms) {
							continue
						}
						checked++
						if slices.ContainsFunc(errs, func(x float64) bool { return x != 0 }) {
							rounded++
						}
						if len(errs) != len(terms) || exact(terms).Cmp(exact(append(slices.Clone(errs), sum))) != 0 {
							t.Fatalf("At %s of %v of\n%s%v", node, s, n.Print(), at)
						}
					}
				}
			}
		}
	}
	if checked < 10000 || rounded < 5000 {
		t.Errorf("%d sums, %d of them rounded", checked, rounded)
	}
}

// Elements the other way round have opposite currents, where these hang on the volts over them.
func TestElementsTheOtherWayRound(t *testing.T) {
	for seed := range uint64(200) {
		n := mingled(t, 1+int(seed%20), seed+9, "RLCP", sized(-300, 600))
		l := n.Elements()
		for _, e := range n.Elements() {
			e.Name, e.A, e.B = e.Name+"x", e.B, e.A
			l = append(l, e)
		}
		both := netOf(t, l...)
		s := anySolution(both, 1.3, seed, sized(-300, 600))
		for _, e := range n.Elements() {
			z, err := current.Through(both, s, e.Name)
			y, bad := current.Through(both, s, e.Name+"x")
			if err != bad || z != -y {
				t.Fatalf("Through %s of %v of\n%s%v %d; the other way round %v %d", e.Name, s, both.Print(), z, err, y, bad)
			}
		}
	}
}

// Elements' names, and nodes' names but for their order, show in no number (P9).
func TestNamesShowNowhere(t *testing.T) {
	nodes := map[string]string{"0": "0", "": "", "a": "z", "b": "00", "c": "a", "d": "_", "e": "b", "f": "abcdefghijklmnop"}
	for seed := range uint64(200) {
		n := mingled(t, 1+int(seed%30), seed+1, "RLCIIVVGEP", near)
		s := anySolution(n, 0.7, seed, near)
		var renamed []api.Element
		for i, e := range n.Elements() {
			e.Name = e.Name[:1] + "x" + strconv.Itoa(1000-i)
			e.A, e.B, e.C, e.D = nodes[e.A], nodes[e.B], nodes[e.C], nodes[e.D]
			renamed = append(renamed, e)
		}
		other := netOf(t, renamed...)
		all := allowed(current.All(n, s))
		if got := allowed(current.All(other, s)); !sameList(got, all) {
			t.Fatalf("All of\n%s%v; of\n%s%v", n.Print(), all, other.Print(), got)
		}
		for i, e := range n.Elements() {
			z, err := current.Through(n, s, e.Name)
			y, bad := current.Through(other, s, renamed[i].Name)
			if err != api.OK || bad != api.OK || !sameNumber(z, all[i]) || !sameNumber(y, z) {
				t.Fatalf("Through %s of\n%s%v; through %s %v", e.Name, n.Print(), z, renamed[i].Name, y)
			}
		}
		for _, node := range append(n.Nodes(), "0") {
			at := allowed(current.At(n, s, node))
			if got := allowed(current.At(other, s, nodes[node])); !sameSum(got, at) {
				t.Fatalf("At %s of\n%s%v; at %s %v", node, n.Print(), at, nodes[node], got)
			}
		}
	}
}

// DOC.md's rules: new memory, nothing that was handed in changed.

// spoil writes over a list, and over its spare room.
func spoil[T any](l []T, with T) {
	all := l[:cap(l)]
	for i := range all {
		all[i] = with
	}
}

func TestAnswersAreNewMemory(t *testing.T) {
	n, s := rich(t)
	text := n.Print()
	s.Volts, s.Amps = append(slices.Clone(s.Volts), 5, 6)[:len(s.Volts)], append(slices.Clone(s.Amps), 7)[:len(s.Amps)]
	volts, amps, kept := slices.Clone(s.Volts[:len(s.Volts)+2]), slices.Clone(s.Amps[:len(s.Amps)+1]), cloned(s)
	want, sum := allowed(allOf(n.Elements(), s)), allowed(atOf(n.Elements(), s, "c"))
	if len(sum.Terms) != 4 {
		t.Fatalf("At c: %v", sum)
	}
	for range 3 {
		all, at, again := allowed(current.All(n, s)), allowed(current.At(n, s, "c")), allowed(current.At(n, s, "c"))
		if !sameList(all, want) || !sameSum(at, sum) || !sameSum(again, sum) {
			t.Fatalf("another time: %v; %v", all, at)
		}
		spoil(all, complex(nan, 3))
		spoil(at.Terms, complex(nan, 3))
		if at.Terms = sum.Terms; !sameSum(at, sum) {
			t.Fatalf("the errors stand in the terms' room: %v", at)
		}
		spoil(at.ErrsRe, nan)
		if at.ErrsRe = sum.ErrsRe; !sameSum(at, sum) {
			t.Fatalf("the errors of im stand in the room of those of re: %v", at)
		}
		spoil(at.ErrsIm, nan)
		if at.ErrsIm = sum.ErrsIm; !sameSum(at, sum) || !sameSum(again, sum) {
			t.Fatalf("what was told was changed: %v, %v", at, again)
		}
		if !sameSolution(s, kept) || !sameList(s.Volts[:len(volts)], volts) || !sameList(s.Amps[:len(amps)], amps) || n.Print() != text {
			t.Fatalf("what was handed in was changed: %v\n%s", s, n.Print())
		}
	}
	all, at := allowed(current.All(n, s)), allowed(current.At(n, s, "c"))
	spoil(s.Volts, complex(nan, 3))
	spoil(s.Amps, complex(nan, 3))
	if !sameList(all, want) || !sameSum(at, sum) {
		t.Error("a solution was kept")
	}
	refusedAs(t, n, s, "R1", "c", api.ErrNumber)
	// What was refused shows nowhere later on.
	if all, err := current.All(n, kept); err != api.OK || !sameList(all, want) {
		t.Errorf("All: %v %d", all, err)
	}
}

// There are as many errors as terms, of each part.
func TestListsOfASum(t *testing.T) {
	n, s := rich(t)
	for _, node := range append(n.Nodes(), "0") {
		at := allowed(current.At(n, s, node))
		if len(at.ErrsRe) != len(at.Terms) || len(at.ErrsIm) != len(at.Terms) {
			t.Errorf("At %s: %v", node, at)
		}
	}
}

// P1: the same again, side by side.
func TestCallsSideBySide(t *testing.T) {
	n, s := rich(t)
	want, sum := allowed(allOf(n.Elements(), s)), allowed(atOf(n.Elements(), s, "c"))
	var group sync.WaitGroup
	for range 8 {
		group.Go(func() {
			for range 40 {
				all, err := current.All(n, s)
				at, bad := current.At(n, s, "c")
				z, worse := current.Through(n, s, "L1")
				if err != api.OK || bad != api.OK || worse != api.OK || !sameList(all, want) || !sameSum(at, sum) || !sameNumber(z, want[2]) {
					t.Errorf("side by side: %v %d; %v %d; %v %d", all, err, at, bad, z, worse)
				}
				spoil(all, 9)
				spoil(at.Terms, 9)
				spoil(at.ErrsRe, 9)
				spoil(at.ErrsIm, 9)
			}
		})
	}
	group.Wait()
}
