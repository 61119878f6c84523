package graph_test

import (
	"fmt"
	"slices"
	"strings"
	"sync"
	"testing"

	"gridwork/api"
	"gridwork/graph"
	"gridwork/netlist"
)

// The document's words, worked out apart from the program: of names, by going through all elements anew for each question.

// joining tells whether an element joins, by its name's letter.
func joining(e api.Element) bool {
	return strings.IndexByte("RLCVEP", e.Name[0]) >= 0
}

// branching tells whether an element is a Voltage or an Amplifier.
func branching(e api.Element) bool {
	return strings.IndexByte("VE", e.Name[0]) >= 0
}

// only gives the elements for which something holds.
func only(l []api.Element, holds func(api.Element) bool) []api.Element {
	var some []api.Element
	for _, e := range l {
		if holds(e) {
			some = append(some, e)
		}
	}
	return some
}

// nodesOf are the nodes that elements name, in their order, the ground ahead of all.
func nodesOf(l []api.Element) []string {
	all := []string{"0"}
	for _, e := range l {
		used := []string{e.A, e.B}
		if strings.IndexByte("GE", e.Name[0]) >= 0 {
			used = append(used, e.C, e.D)
		}
		for _, node := range used {
			if !slices.Contains(all, node) {
				all = append(all, node)
			}
		}
	}
	return all
}

// reached are the nodes to which one comes from a node by going along elements, each of which joins.
func reached(from string, l []api.Element) []string {
	all := []string{from}
	for grown := true; grown; {
		grown = false
		for _, e := range l {
			a, b := slices.Contains(all, e.A), slices.Contains(all, e.B)
			if a != b {
				all, grown = append(all, e.A, e.B), true
			}
		}
	}
	return all
}

// together tells whether two nodes hang together by elements, each of which joins.
func together(a, b string, l []api.Element) bool {
	return slices.Contains(reached(a, l), b)
}

// partsOf is what P16.1 says.
func partsOf(l []api.Element) [][]string {
	var all [][]string
	nodes := nodesOf(l)
	for _, node := range nodes {
		with := reached(node, only(l, joining))
		var part []string
		for _, other := range nodes {
			if slices.Contains(with, other) {
				part = append(part, other)
			}
		}
		if part[0] == node {
			all = append(all, part)
		}
	}
	return all
}

// groundedOf is what P16.2 says.
func groundedOf(l []api.Element) api.Fault {
	for place, node := range nodesOf(l)[1:] {
		if !together("0", node, only(l, joining)) {
			return api.Fault{Err: 11, At: place}
		}
	}
	return api.Fault{}
}

// taken are the elements of which P16.3 speaks.
func taken(l []api.Element) []api.Element {
	var some []api.Element
	for _, e := range only(l, joining) {
		if !together(e.A, e.B, some) {
			some = append(some, e)
		}
	}
	return some
}

// wayOf are the names of a tree's elements from one node to another that hangs together with it: at each node the one without which the two do not.
func wayOf(from, to string, tree []api.Element) []string {
	if from == to {
		return nil
	}
	for i, e := range tree {
		others := slices.Delete(slices.Clone(tree), i, i+1)
		if e.A != from && e.B != from || together(from, to, others) {
			continue
		}
		next := e.A
		if next == from {
			next = e.B
		}
		return append([]string{e.Name}, wayOf(next, to, others)...)
	}
	panic("no way from " + from + " to " + to)
}

// loopsOf is what P16.4 says.
func loopsOf(l []api.Element) [][]string {
	tree := taken(l)
	var all [][]string
	for _, e := range only(l, joining) {
		if !slices.Contains(tree, e) {
			all = append(all, append([]string{e.Name}, wayOf(e.B, e.A, tree)...))
		}
	}
	return all
}

// voltLoopsOf is what P16.5 says.
func voltLoopsOf(l []api.Element) bool {
	volts := only(l, branching)
	for i, e := range volts {
		if together(e.A, e.B, volts[:i]) {
			return true
		}
	}
	return false
}

func namesOf(l []api.Element) []string {
	var names []string
	for _, e := range l {
		names = append(names, e.Name)
	}
	return names
}

// alike tells whether two lists of lists are the same (nil and empty are).
func alike(a, b [][]string) bool {
	return slices.EqualFunc(a, b, func(x, y []string) bool { return slices.Equal(x, y) })
}

// lists makes lists of a text: parted by semicolons, their names by blanks.
func lists(s string) [][]string {
	if s == "" {
		return nil
	}
	var all [][]string
	for part := range strings.SplitSeq(s, ";") {
		all = append(all, strings.Fields(part))
	}
	return all
}

// must gives the net of elements that make one.
func must(t *testing.T, l []api.Element) *netlist.Net {
	t.Helper()
	n, f := netlist.Of(l)
	if n == nil || f != (api.Fault{}) {
		t.Fatalf("Of: %v", f)
	}
	return n
}

// mustParse gives the net of a text that is one's.
func mustParse(t *testing.T, s string) *netlist.Net {
	t.Helper()
	n, f := netlist.Parse(s)
	if n == nil || f != (api.Fault{}) {
		t.Fatalf("Parse(%.60q): %v", s, f)
	}
	return n
}

// hold holds all that is told of a net against the document's words (P16.1 to P16.5), and what follows.
func hold(t *testing.T, n *netlist.Net) {
	t.Helper()
	l := n.Elements()
	if got, want := graph.Parts(n), partsOf(l); !alike(got, want) {
		t.Fatalf("Parts of\n%s%q; want %q", n.Print(), got, want)
	}
	if got, want := graph.Grounded(n), groundedOf(l); got != want {
		t.Fatalf("Grounded of\n%s%v; want %v", n.Print(), got, want)
	}
	if got, want := graph.Tree(n), namesOf(taken(l)); !slices.Equal(got, want) {
		t.Fatalf("Tree of\n%s%q; want %q", n.Print(), got, want)
	}
	if got, want := graph.Loops(n), loopsOf(l); !alike(got, want) {
		t.Fatalf("Loops of\n%s%q; want %q", n.Print(), got, want)
	}
	if got, want := graph.VoltLoops(n), voltLoopsOf(l); got != want {
		t.Fatalf("VoltLoops of\n%s%v; want %v", n.Print(), got, want)
	}
	holdCounts(t, n)
	for _, loop := range graph.Loops(n) {
		holdLoop(t, n, loop)
	}
}

// holdCounts holds the first sentence of P16.6, by what the program itself tells.
func holdCounts(t *testing.T, n *netlist.Net) {
	t.Helper()
	tree, loops := len(graph.Tree(n)), len(graph.Loops(n))
	if nodes, parts := len(n.Nodes())+1, len(graph.Parts(n)); tree != nodes-parts {
		t.Fatalf("%d in the tree, %d nodes, %d parts:\n%s", tree, nodes, parts, n.Print())
	}
	if all := len(only(n.Elements(), joining)); loops != all-tree {
		t.Fatalf("%d loops, %d that join, %d in the tree:\n%s", loops, all, tree, n.Print())
	}
}

// holdLoop goes round a loop: from its first element's B by the tree's to its A, and no node is met twice (P16.4, P16.6).
func holdLoop(t *testing.T, n *netlist.Net, loop []string) {
	t.Helper()
	tree := graph.Tree(n)
	first, _ := n.Find(loop[0])
	at := first.B
	met := []string{at}
	for _, name := range loop[1:] {
		e, ok := n.Find(name)
		switch {
		case ok && e.A == at:
			at = e.B
		case ok && e.B == at:
			at = e.A
		default:
			t.Fatalf("%q goes not on from %s by %s:\n%s", loop, at, name, n.Print())
		}
		if slices.Contains(met, at) || !slices.Contains(tree, name) {
			t.Fatalf("%q meets %s twice, or %s is not in the tree:\n%s", loop, at, name, n.Print())
		}
		met = append(met, at)
	}
	if at != first.A || slices.Contains(tree, loop[0]) || slices.Contains(loop[1:], loop[0]) {
		t.Fatalf("%q is none:\n%s", loop, n.Print())
	}
}

// element gives an element of a letter's kind that may be.
func element(letter byte, number int, a, b, c, d string) api.Element {
	e := api.Element{Kind: api.Kind(1 + strings.IndexByte("RLCIVGEP", letter)), Name: fmt.Sprintf("%c%d", letter, number), A: a, B: b, Value: 47}
	if letter == 'G' || letter == 'E' {
		e.C, e.D = c, d
	}
	return e
}

// node gives the name of the node that stands so many places from the ground.
func node(i int) string {
	if i == 0 {
		return "0"
	}
	return fmt.Sprintf("n%d", i)
}

// numbers gives whole numbers from 0 to below n, without end, always the same ones.
func numbers(seed uint64) func(n int) int {
	return func(n int) int {
		seed ^= seed << 13
		seed ^= seed >> 7
		seed ^= seed << 17
		return int(seed >> 11 % uint64(n))
	}
}

// mingled gives a net of so many elements of some letters' kinds, between so many nodes and the ground; of branches as many as may be.
func mingled(t *testing.T, pick func(n int) int, letters string, elements, nodes int) *netlist.Net {
	t.Helper()
	var l []api.Element
	volts := 0
	for i := range elements {
		a, b := pick(nodes+1), pick(nodes)
		if b >= a {
			b++
		}
		letter := letters[pick(len(letters))]
		if letter == 'V' || letter == 'E' {
			if volts++; volts > 64-nodes {
				letter = 'R'
			}
		}
		l = append(l, element(letter, i, node(a), node(b), node(pick(nodes+1)), node(pick(nodes+1))))
	}
	return must(t, l)
}

const (
	letters = "RLCIVGEP"
	example = "V1 a 0 10\nR1 a b 1\nC1 b 0 1\nR2 b 0 1\nI1 c d 1\nR3 d c 1\nR4 c d 1\n"
)

func TestNumbers(t *testing.T) {
	if api.ErrNil != 1 || api.ErrGround != 11 || api.MaxNodes != 32 || api.MaxElements != 256 || api.MaxOrder != 64 {
		t.Error(api.ErrNil, api.ErrGround, api.MaxNodes, api.MaxElements, api.MaxOrder)
	}
	for i, letter := range []byte(letters) {
		if e := element(letter, 1, "a", "b", "c", "d"); e.Kind != api.Kind(i+1) {
			t.Error(e)
		}
	}
}

func TestExamples(t *testing.T) {
	n := mustParse(t, example)
	if got := graph.Parts(n); !alike(got, lists("0 a b; c d")) {
		t.Errorf("%q", got)
	}
	if got := graph.Grounded(n); got != (api.Fault{Err: 11, At: 2}) || n.Nodes()[2] != "c" {
		t.Error(got)
	}
	if got := graph.Tree(n); !slices.Equal(got, []string{"V1", "R1", "R3"}) {
		t.Errorf("%q", got)
	}
	if got := graph.Loops(n); !alike(got, lists("C1 V1 R1; R2 V1 R1; R4 R3")) {
		t.Errorf("%q", got)
	}
	if graph.VoltLoops(n) || !graph.VoltLoops(mustParse(t, example+"V2 a 0 1\n")) {
		t.Error("VoltLoops")
	}
	hold(t, n)
	hold(t, mustParse(t, example+"V2 a 0 1\n"))
}

// What is told of some nets, worked out by hand.
func TestByHand(t *testing.T) {
	for _, c := range []struct {
		text, parts string
		fault       api.Fault
		tree, loops string
		volts       bool
	}{
		{"", "0", api.Fault{}, "", "", false},
		{"* nothing\n", "0", api.Fault{}, "", "", false},
		{"R1 a 0 1", "0 a", api.Fault{}, "R1", "", false},
		{"R1 0 a 1", "0 a", api.Fault{}, "R1", "", false},
		{"R1 a b 1", "0;a b", api.Fault{Err: 11, At: 0}, "R1", "", false},
		{"I1 a 0 1", "0;a", api.Fault{Err: 11, At: 0}, "", "", false},
		{"G1 a b c d 1", "0;a;b;c;d", api.Fault{Err: 11, At: 0}, "", "", false},
		{"E1 a 0 c d 1", "0 a;c;d", api.Fault{Err: 11, At: 1}, "E1", "", false},
		{"E1 a 0 a 0 1\nE2 b a 0 b 1", "0 a b", api.Fault{}, "E1 E2", "", false},
		{"R1 a 0 1\nR2 0 00 1\nR3 a 00 1", "0 a 00", api.Fault{}, "R1 R2", "R3 R2 R1", false},
		{"R1 00 a 1\nR2 a 000 1", "0;00 a 000", api.Fault{Err: 11, At: 0}, "R1 R2", "", false},
		{"R1 a b 1\nR2 c 0 1\nR3 c b 1", "0 a b c", api.Fault{}, "R1 R2 R3", "", false},
		{"R1 a b 1\nR2 c d 1\nR3 e 0 1\nR4 b d 1", "0 e;a b c d", api.Fault{Err: 11, At: 0}, "R1 R2 R3 R4", "", false},
		{"R1 a 0 1\nI1 z y 1\nR2 y a 1\nI2 x z 1", "0 a y;z;x", api.Fault{Err: 11, At: 1}, "R1 R2", "", false},
		{"R1 a b 1\nR2 b c 1\nR3 c d 1\nR4 a d 1\nR5 d a 1", "0;a b c d", api.Fault{Err: 11, At: 0}, "R1 R2 R3", "R4 R3 R2 R1;R5 R1 R2 R3", false},
		{"V1 a 0 1\nV2 a 0 1", "0 a", api.Fault{}, "V1", "V2 V1", true},
		{"V1 a 0 1\nV2 0 a 1", "0 a", api.Fault{}, "V1", "V2 V1", true},
		{"V1 a 0 1\nV2 b a 1\nR1 b 0 1\nE1 0 b a b 1", "0 a b", api.Fault{}, "V1 V2", "R1 V1 V2;E1 V2 V1", true},
		{"V1 a 0 1\nR1 b a 1\nV2 b 0 1", "0 a b", api.Fault{}, "V1 R1", "V2 V1 R1", false},
		{"R1 a 0 1\nP1 a 0 1\nL1 a 0 1\nC1 a 0 1\nV1 a 0 1", "0 a", api.Fault{}, "R1", "P1 R1;L1 R1;C1 R1;V1 R1", false},
		{"I1 a 0 1\nI2 a 0 1\nG1 a 0 a 0 1\nG2 a 0 a 0 1\nR1 a 0 1\nI3 a 0 1", "0 a", api.Fault{}, "R1", "", false},
	} {
		n := mustParse(t, c.text)
		parts, fault, tree, loops, volts := graph.Parts(n), graph.Grounded(n), graph.Tree(n), graph.Loops(n), graph.VoltLoops(n)
		if !alike(parts, lists(c.parts)) || fault != c.fault || !slices.Equal(tree, strings.Fields(c.tree)) || !alike(loops, lists(c.loops)) || volts != c.volts {
			t.Errorf("%q: %q, %v, %q, %q, %v", c.text, parts, fault, tree, loops, volts)
		}
		hold(t, n)
	}
}

// Each kind, joining a node to the ground, two nodes, and a second time: six join, two do not.
func TestEachKind(t *testing.T) {
	for _, letter := range []byte(letters) {
		joined := letter != 'I' && letter != 'G'
		one := must(t, []api.Element{element(letter, 1, "a", "0", "a", "0")})
		if got := graph.Grounded(one) == (api.Fault{}); got != joined {
			t.Errorf("%c: %v", letter, got)
		}
		if got := len(graph.Tree(one)) == 1; got != joined {
			t.Errorf("%c: %v", letter, got)
		}
		hold(t, one)
		for _, other := range []byte(letters) {
			two := must(t, []api.Element{element(letter, 1, "a", "b", "a", "b"), element(other, 2, "b", "a", "0", "0")})
			both := joined && other != 'I' && other != 'G'
			if got := len(graph.Loops(two)) == 1; got != both {
				t.Errorf("%c, %c: %v", letter, other, got)
			}
			volts := (letter == 'V' || letter == 'E') && (other == 'V' || other == 'E')
			if got := graph.VoltLoops(two); got != volts {
				t.Errorf("%c, %c: %v", letter, other, got)
			}
			hold(t, two)
		}
	}
}

// All nets of up to four elements of these kinds between four nodes, the ground among them.
func TestAllSmallNets(t *testing.T) {
	var choice []api.Element
	for _, letter := range []byte("RVI") {
		for _, ends := range []string{"a0", "0a", "ab", "b0", "bc", "ca", "0c"} {
			choice = append(choice, element(letter, 0, ends[:1], ends[1:], "", ""))
		}
	}
	choice = append(choice, element('E', 0, "b", "a", "d", "0"), element('G', 0, "c", "0", "b", "d"))
	var l []api.Element
	var lay func(left int)
	lay = func(left int) {
		hold(t, must(t, l))
		if left == 0 {
			return
		}
		for _, e := range choice {
			e.Name = fmt.Sprintf("%c%d", e.Name[0], len(l))
			l = append(l, e)
			lay(left - 1)
			l = l[:len(l)-1]
		}
	}
	lay(3)
	choice = slices.DeleteFunc(choice, func(e api.Element) bool { return e.Name[0] == 'I' || e.A == "0" })
	lay(4)
}

func TestMingledNets(t *testing.T) {
	pick := numbers(88172645463325252)
	for _, some := range []string{letters, "R", "VE", "RI", "IG", "LCPV", "RRRVEG"} {
		for range 60 {
			nodes := 1 + pick(32)
			hold(t, mingled(t, pick, some, pick(2*nodes+3), nodes))
		}
	}
}

// The greatest nets: as many elements, nodes and branches as may be.
func TestGreatNets(t *testing.T) {
	pick := numbers(362436069)
	for range 3 {
		hold(t, mingled(t, pick, letters, 256, 32))
		hold(t, mingled(t, pick, "RLCPIG", 256, 32))
	}
	var same []api.Element
	for i := range 256 {
		same = append(same, element('R', i, "a", "0", "", ""))
	}
	n := must(t, same)
	hold(t, n)
	if loops := graph.Loops(n); len(loops) != 255 || !slices.Equal(loops[254], []string{"R255", "R0"}) {
		t.Errorf("%q", loops)
	}
	volts := []api.Element{element('R', 99, "n32", "n31", "", "")}
	for i := range 31 {
		volts = append(volts, element('V', i, node(i+1), node(i), "", ""))
	}
	if n = must(t, volts); graph.VoltLoops(n) {
		t.Error("a row of volts")
	}
	hold(t, n)
	n = must(t, append(volts, element('E', 31, "0", "n31", "n1", "n1")))
	if !graph.VoltLoops(n) || n.Order() != 64 {
		t.Error("a ring of volts")
	}
	hold(t, n)
}

// row gives elements that join so many nodes one behind the other, from the ground on.
func row(n int) []api.Element {
	var l []api.Element
	for i := range n {
		a, b := node(i), node(i+1)
		if i%2 == 1 {
			a, b = b, a
		}
		l = append(l, element("RLCP"[i%4], i, a, b, "", ""))
	}
	return l
}

// A loop goes from its first element's B to its A, whichever way the tree's elements lie.
func TestLoopsGoFromBToA(t *testing.T) {
	for n := 2; n <= 32; n++ {
		names := namesOf(row(n))
		on := must(t, append(row(n), element('P', 99, node(n), "0", "", "")))
		if got := graph.Loops(on); !alike(got, [][]string{append([]string{"P99"}, names...)}) {
			t.Errorf("%d: %q", n, got)
		}
		hold(t, on)
		slices.Reverse(names)
		back := must(t, append(row(n), element('V', 99, "0", node(n), "", "")))
		if got := graph.Loops(back); !alike(got, [][]string{append([]string{"V99"}, names...)}) {
			t.Errorf("%d: %q", n, got)
		}
		hold(t, back)
	}
}

// A loop leaves out what hangs on its nodes beside it, on either side of the way.
func TestLoopsGoAlongTheWayAlone(t *testing.T) {
	n := mustParse(t, "R9 b x 1\nR8 x y 1\nR1 a b 1\nR7 a z 1\nR2 b c 1\nR6 b w 1\nR3 c 0 1\nR5 c v 1\nR4 a 0 1\n")
	if got := graph.Loops(n); !alike(got, lists("R4 R3 R2 R1")) {
		t.Errorf("%q", got)
	}
	hold(t, n)
}

// A loop is told as the whole tree has it, which also what stands behind its first element does not change.
func TestLoopsBesideOthers(t *testing.T) {
	n := mustParse(t, "R1 a b 1\nR2 b a 1\nR3 b 0 1\nR4 0 a 1\nR5 c d 1\nR6 d 0 1\nR7 c a 1\nR8 d b 1\n")
	if got := graph.Loops(n); !alike(got, lists("R2 R1;R4 R1 R3;R7 R1 R3 R6 R5;R8 R3 R6")) {
		t.Errorf("%q", got)
	}
	hold(t, n)
}

// The parts stand by their first nodes in the net's order, not by names, nor as elements join them.
func TestOrderOfParts(t *testing.T) {
	for text, want := range map[string]string{
		"R1 z y 1\nR2 x w 1\nR3 w y 1\nR4 v 0 1":               "0 v;z y x w",
		"I1 z y 1\nI2 b a 1\nR1 a y 1\nR2 z b 1":               "0;z b;y a",
		"G1 d c b a 1\nR1 a 0 1\nR2 c b 1":                     "0 a;d;c b",
		"R1 9 8 1\nR2 7 6 1\nR3 1 0 1\nR4 8 1 1\nC1 5 7 1":     "0 9 8 1;7 6 5",
		"I1 0 e 1\nE1 d c b a 1\nI2 a 0 1\nV1 b e 1\nP1 e a 1": "0;e b a;d c",
	} {
		n := mustParse(t, text)
		if got := graph.Parts(n); !alike(got, lists(want)) {
			t.Errorf("%q: %q; want %q", text, got, want)
		}
		hold(t, n)
	}
}

// Each place that a node without the ground may have, as the only one and as the first of all behind it.
func TestGroundedAtEachPlace(t *testing.T) {
	for at := range 32 {
		for _, alone := range []bool{true, false} {
			var l []api.Element
			for i := range 32 {
				letter := byte('R')
				if i == at || i > at && !alone {
					letter = 'I'
				}
				l = append(l, element(letter, i, "0", node(i+1), "", ""))
			}
			n := must(t, l)
			if got := graph.Grounded(n); got != (api.Fault{Err: 11, At: at}) {
				t.Errorf("%d: %v", at, got)
			}
			hold(t, n)
		}
	}
	if got := graph.Grounded(must(t, row(32))); got != (api.Fault{}) {
		t.Error(got)
	}
}

// P16.6: elements that join nothing show by the nodes that they name alone.
func TestWhatJoinsNothing(t *testing.T) {
	pick := numbers(521288629)
	for range 200 {
		nodes := 1 + pick(12)
		n := mingled(t, pick, letters, pick(3*nodes), nodes)
		less := must(t, only(n.Elements(), joining))
		if !slices.Equal(graph.Tree(n), graph.Tree(less)) || !alike(graph.Loops(n), graph.Loops(less)) || graph.VoltLoops(n) != graph.VoltLoops(less) {
			t.Fatalf("without what joins nothing otherwise:\n%s", n.Print())
		}
		more := n
		for i, name := range n.Nodes() { // all of which have stood already
			for _, e := range []api.Element{element('I', 900+i, "0", name, "", ""), element('G', 900+i, name, "0", name, n.Nodes()[0])} {
				more, _ = more.With(e)
			}
		}
		if told(more) != told(n) {
			t.Fatalf("with what joins nothing otherwise:\n%s", n.Print())
		}
	}
}

// told is all that is told of a net, as a text.
func told(n *netlist.Net) string {
	return fmt.Sprintf("%q %v %q %q %v", graph.Parts(n), graph.Grounded(n), graph.Tree(n), graph.Loops(n), graph.VoltLoops(n))
}

// Other names of nodes and elements change nothing but the names that are told; other values and phases change nothing.
func TestNamesShowNowhere(t *testing.T) {
	pick := numbers(123456789)
	for range 100 {
		nodes := 1 + pick(12)
		n := mingled(t, pick, "RLCPIVEG", pick(3*nodes), nodes)
		l := n.Elements()
		names := map[string]string{"": "", "0": "0"}
		for i, name := range n.Nodes() {
			names[name] = fmt.Sprintf("%c_%d", 'a'+(25-i), i)
		}
		var swap []string
		for i := range l {
			e := &l[i]
			old := e.Name
			e.A, e.B, e.C, e.D = names[e.A], names[e.B], names[e.C], names[e.D]
			e.Name = fmt.Sprintf("%c%02d", old[0], len(l)-i)
			e.Value = 3
			if old[0] == 'I' || old[0] == 'V' {
				e.Phase = -5
			}
			swap = append(swap, fmt.Sprintf("%q", old), fmt.Sprintf("%q", e.Name))
		}
		for old, name := range names {
			swap = append(swap, fmt.Sprintf("%q", old), fmt.Sprintf("%q", name))
		}
		if got, want := told(must(t, l)), strings.NewReplacer(swap...).Replace(told(n)); got != want {
			t.Fatalf("%s\n%s; want %s", n.Print(), got, want)
		}
	}
}

// A net that is nil, or that netlist did not make, is none; one of no elements is a net.
func TestNetsThatAreNone(t *testing.T) {
	var none *netlist.Net
	refused, _ := netlist.Parse("X")
	for _, n := range []*netlist.Net{nil, none, {}, new(netlist.Net), refused} {
		if got := graph.Grounded(n); got != (api.Fault{Err: 1, At: -1}) {
			t.Error("Grounded", got)
		}
		if parts, tree, loops := graph.Parts(n), graph.Tree(n), graph.Loops(n); len(parts) != 0 || len(tree) != 0 || len(loops) != 0 {
			t.Errorf("%q, %q, %q", parts, tree, loops)
		}
		if graph.VoltLoops(n) {
			t.Error("VoltLoops")
		}
	}
	one := mustParse(t, "R1 a 0 1")
	less, err := one.Without("R1")
	if err != api.OK {
		t.Fatal(err)
	}
	for _, n := range []*netlist.Net{must(t, nil), must(t, []api.Element{}), mustParse(t, ""), less} {
		if got := graph.Grounded(n); got != (api.Fault{}) {
			t.Error("Grounded", got)
		}
		if parts, tree, loops := graph.Parts(n), graph.Tree(n), graph.Loops(n); !alike(parts, lists("0")) || len(tree) != 0 || len(loops) != 0 {
			t.Errorf("%q, %q, %q", parts, tree, loops)
		}
		if graph.VoltLoops(n) {
			t.Error("VoltLoops")
		}
	}
}

// Nets are told of by what they have, whichever function made them; a copy of one is one.
func TestNetsOfEachMaker(t *testing.T) {
	want := told(mustParse(t, example))
	more, f := mustParse(t, strings.TrimSuffix(example, "R4 c d 1\n")).With(element('R', 4, "c", "d", "", ""))
	if f != (api.Fault{}) {
		t.Fatal(f)
	}
	less, err := mustParse(t, example+"E5 d 0 x y 1\n").Without("E5")
	if err != api.OK {
		t.Fatal(err)
	}
	other := *more
	for i, n := range []*netlist.Net{must(t, more.Elements()), more, less, &other} {
		if got := told(n); got != want {
			t.Errorf("%d: %s; want %s", i, got, want)
		}
	}
}

// spoil writes over a list, its spare room too.
func spoil(l []string) {
	l = l[:cap(l)]
	for i := range l {
		l[i] = "spoilt"
	}
}

// holdNew holds that lists of one answer share no memory: what is written into one shows in no other.
func holdNew(t *testing.T, got, want [][]string) {
	t.Helper()
	for i := range got {
		spoil(got[i])
		for j := i + 1; j < len(got); j++ {
			if !slices.Equal(got[j], want[j]) {
				t.Fatalf("%d shows in %d: %q", i, j, got[j])
			}
		}
	}
	room := got[:cap(got)]
	for i := range room {
		spoil(room[i])
		room[i] = []string{"spoilt"}
	}
}

func TestWhatIsHandedBackIsNew(t *testing.T) {
	pick := numbers(1013904223)
	all := []*netlist.Net{mustParse(t, example), must(t, nil), must(t, row(32)), mustParse(t, "R1 a 0 1")}
	for range 40 {
		all = append(all, mingled(t, pick, letters, pick(60), 1+pick(20)))
	}
	for _, n := range all {
		text, nodes, want := n.Print(), n.Nodes(), told(n)
		parts, tree, loops := graph.Parts(n), graph.Tree(n), graph.Loops(n)
		holdNew(t, graph.Parts(n), parts)
		holdNew(t, graph.Loops(n), loops)
		spoil(graph.Tree(n))
		if !alike(parts, partsOf(n.Elements())) || !slices.Equal(tree, namesOf(taken(n.Elements()))) || !alike(loops, loopsOf(n.Elements())) {
			t.Fatalf("answers share memory: %q, %q, %q", parts, tree, loops)
		}
		if n.Print() != text || !slices.Equal(n.Nodes(), nodes) || told(n) != want {
			t.Fatalf("the net has changed:\n%s", n.Print())
		}
		hold(t, n)
	}
}

// Nothing is kept and nothing changed: whoever asks, however often, is told the same.
func TestCallsAreCalmAndTellTheSame(t *testing.T) {
	pick := numbers(1664525)
	var all []*netlist.Net
	var want, texts []string
	for range 30 {
		n := mingled(t, pick, letters, pick(80), 1+pick(30))
		all, want, texts = append(all, n), append(want, told(n)), append(texts, n.Print())
	}
	all, want, texts = append(all, nil), append(want, told(nil)), append(texts, "")
	var wait sync.WaitGroup
	for range 4 {
		wait.Go(func() {
			for range 3 {
				for i, n := range all {
					if got := told(n); got != want[i] || n.Print() != texts[i] {
						t.Errorf("%s; want %s", got, want[i])
					}
				}
			}
		})
	}
	wait.Wait()
}
