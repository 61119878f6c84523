package netlist_test

import (
	"fmt"
	"math"
	"math/big"
	"regexp"
	"slices"
	"strconv"
	"strings"
	"sync"
	"testing"

	"gridwork/api"
	"gridwork/netlist"
	"gridwork/quantity"
	"gridwork/tokens"
	"gridwork/value"
)

const (
	maxElements = 256
	maxNodes    = 32
	maxOrder    = 64
	maxName     = 16
)

var (
	inf    = math.Inf(1)
	nan    = math.NaN()
	minus0 = math.Copysign(0, -1)
)

// The document's words, worked out apart from the program: of whole lists, by going through them anew for each question.

// nodesOf are a list's nodes, in their order.
func nodesOf(l []api.Element) []string {
	var all []string
	for _, e := range l {
		used := []string{e.A, e.B}
		if strings.IndexByte("GE", e.Name[0]) >= 0 {
			used = append(used, e.C, e.D)
		}
		for _, node := range used {
			if node != "0" && !slices.Contains(all, node) {
				all = append(all, node)
			}
		}
	}
	return all
}

// branchesOf are the names of a list's branches, in their order.
func branchesOf(l []api.Element) []string {
	var all []string
	for _, e := range l {
		if strings.IndexByte("VE", e.Name[0]) >= 0 {
			all = append(all, e.Name)
		}
	}
	return all
}

// judged is what P15.1 says of a list.
func judged(l []api.Element) api.Fault {
	if len(l) > maxElements {
		return api.Fault{Err: api.ErrLong, At: -1}
	}
	for i, e := range l {
		if err := value.Check(e); err != api.OK {
			return api.Fault{Err: err, At: i}
		}
		for _, ahead := range l[:i] {
			if ahead.Name == e.Name {
				return api.Fault{Err: api.ErrThere, At: i}
			}
		}
	}
	if n := len(nodesOf(l)); n > maxNodes || n+len(branchesOf(l)) > maxOrder {
		return api.Fault{Err: api.ErrLong, At: -1}
	}
	return api.Fault{}
}

// sorts are the document's table of lines, by letter.
func sorts() map[byte]string {
	return map[byte]string{'R': "two", 'L': "two", 'C': "two", 'P': "two", 'I': "source", 'V': "source", 'G': "four", 'E': "four"}
}

// kindOf is a letter's kind, as the document numbers them; 0, if it is none's.
func kindOf(letter byte) api.Kind {
	return api.Kind(1 + strings.IndexByte("RLCIVGEP", letter))
}

var phasePattern = regexp.MustCompile(`^(0|-?[1-9][0-9]*)$`)

// phaseOf is what the document says of PHASE. (Where an int has fewer than 64 bits, it is what an int holds.)
func phaseOf(s string) (int, bool) {
	if !phasePattern.MatchString(s) {
		return 0, false
	}
	x, _ := new(big.Int).SetString(s, 10)
	if !x.IsInt64() || x.Int64() > math.MaxInt || x.Int64() < math.MinInt {
		return 0, false
	}
	return int(x.Int64()), true
}

// lineOf is what P15.2 says of one line's words.
func lineOf(w []string) (api.Element, api.Errno) {
	sort, ok := sorts()[w[0][0]]
	if !ok {
		return api.Element{}, api.ErrName
	}
	fits := map[string][]int{"two": {4}, "source": {4, 5}, "four": {6}}[sort]
	if !slices.Contains(fits, len(w)) {
		return api.Element{}, api.ErrShape
	}
	e := api.Element{Kind: kindOf(w[0][0]), Name: w[0], A: w[1], B: w[2]}
	at := 3
	if sort == "four" {
		e.C, e.D, at = w[3], w[4], 5
	}
	x, f := quantity.Parse(w[at])
	if f.Err != api.OK {
		return api.Element{}, f.Err
	}
	e.Value = x
	if len(w) == 5 {
		if e.Phase, ok = phaseOf(w[4]); !ok {
			return api.Element{}, api.ErrArg
		}
	}
	return e, api.OK
}

// parsed is what P15.2 says of a text: the elements, or the fault.
func parsed(s string) ([]api.Element, api.Fault) {
	cut, f := tokens.Cut(s)
	if f != (api.Fault{}) {
		return nil, f
	}
	var l []api.Element
	var lines []int
	for n, words := range cut {
		var w []string
		for _, t := range words {
			w = append(w, t.Text)
		}
		if w == nil {
			continue
		}
		e, err := lineOf(w)
		if err != api.OK {
			return nil, api.Fault{Err: err, At: n}
		}
		l, lines = append(l, e), append(lines, n)
	}
	if f := judged(l); f.Err != api.OK {
		if f.At != -1 {
			f.At = lines[f.At]
		}
		return nil, f
	}
	return l, api.Fault{}
}

// printed is what P15.3 says of elements.
func printed(l []api.Element) string {
	s := ""
	for _, e := range l {
		x, _ := quantity.Print(e.Value)
		s += e.Name + " " + e.A + " " + e.B
		if strings.IndexByte("GE", e.Name[0]) >= 0 {
			s += " " + e.C + " " + e.D
		}
		s += " " + x
		if e.Phase != 0 {
			s += fmt.Sprintf(" %d", e.Phase)
		}
		s += "\n"
	}
	return s
}

// alike tells whether two lists have the same elements.
func alike(a, b []api.Element) bool {
	return slices.EqualFunc(a, b, value.Same)
}

// show tells a little of a list: the whole might be long.
func show(l []api.Element) string {
	return fmt.Sprintf("%d elements, %.120s", len(l), fmt.Sprintf("%.20v", l))
}

// scatter gives whole numbers all over the place, always the same ones.
func scatter(n int, seed uint64) []uint64 {
	var all []uint64
	for range n {
		seed ^= seed << 13
		seed ^= seed >> 7
		seed ^= seed << 17
		all = append(all, seed)
	}
	return all
}

// sound gives an element of a letter's kind that may be.
func sound(letter byte, number int, a, b string) api.Element {
	e := api.Element{Kind: kindOf(letter), Name: string(rune(letter)) + strconv.Itoa(number), A: a, B: b, Value: 47}
	if sorts()[letter] == "four" {
		e.C, e.D = a, b
	}
	return e
}

// rowOf gives so many elements of a letter's kind, each of which joins a node of its own to the ground.
func rowOf(letter byte, from, n int) []api.Element {
	var l []api.Element
	for i := range n {
		l = append(l, sound(letter, from+i, fmt.Sprintf("n%d", from+i), "0"))
	}
	return l
}

const letters = "RLCIVGEP"

// example is a net with an element of each kind.
const example = "R1 a b 4.7k\nV1 a 0 10 6\nC1 b 0 100n\nI2 0 c -1.5 -3\nG1 c 0 a b 2\nP1 c b 50\nL9 c d 1m\nE1 d 0 c 0 -2\n"

func exampleList() []api.Element {
	return []api.Element{
		{Kind: 1, Name: "R1", A: "a", B: "b", Value: 4700},
		{Kind: 5, Name: "V1", A: "a", B: "0", Value: 10, Phase: 6},
		{Kind: 3, Name: "C1", A: "b", B: "0", Value: 1e-7},
		{Kind: 4, Name: "I2", A: "0", B: "c", Value: -1.5, Phase: -3},
		{Kind: 6, Name: "G1", A: "c", B: "0", C: "a", D: "b", Value: 2},
		{Kind: 8, Name: "P1", A: "c", B: "b", Value: 50},
		{Kind: 2, Name: "L9", A: "c", B: "d", Value: 0.001},
		{Kind: 7, Name: "E1", A: "d", B: "0", C: "c", D: "0", Value: -2},
	}
}

// must gives the net of elements that make one.
func must(t *testing.T, l []api.Element) *netlist.Net {
	t.Helper()
	n, f := netlist.Of(l)
	if n == nil || f != (api.Fault{}) {
		t.Fatalf("Of(%s): %v", show(l), f)
	}
	return n
}

// mustParse gives the net of a text that is one's.
func mustParse(t *testing.T, s string) *netlist.Net {
	t.Helper()
	n, f := netlist.Parse(s)
	if n == nil || f != (api.Fault{}) {
		t.Fatalf("Parse(%.40q): %v", s, f)
	}
	return n
}

// asked are names that are asked of a net: those that its elements have, and others.
func asked(l []api.Element) []string {
	all := []string{"", "0", "00", "a", "A", "R", "R1", "r1", "n1", "V1", "x", "\x00", "\xff", "ä", " a", "a ", "0 ", strings.Repeat("a", 17), strings.Repeat("R", 1<<16)}
	for _, e := range l {
		all = append(all, e.Name, e.A, e.B, e.C, e.D, e.Name+"_")
	}
	slices.Sort(all)
	return slices.Compact(all)
}

// holdNet holds all that a net tells (P15.3, P15.4) against its elements.
func holdNet(t *testing.T, n *netlist.Net, l []api.Element) {
	t.Helper()
	nodes, branches := nodesOf(l), branchesOf(l)
	if got := n.Elements(); !alike(got, l) {
		t.Fatalf("Elements: %s; want %s", show(got), show(l))
	}
	if got := n.Nodes(); !slices.Equal(got, nodes) {
		t.Fatalf("Nodes of %s: %q; want %q", show(l), got, nodes)
	}
	if got := n.Branches(); !slices.Equal(got, branches) {
		t.Fatalf("Branches of %s: %q; want %q", show(l), got, branches)
	}
	if got := n.Order(); got != len(nodes)+len(branches) {
		t.Fatalf("Order of %s: %d", show(l), got)
	}
	if got := n.Print(); got != printed(l) {
		t.Fatalf("Print of %s: %.60q; want %.60q", show(l), got, printed(l))
	}
	for _, s := range asked(l) {
		holdAsked(t, n, l, s)
	}
}

// holdAsked holds what a net tells of a name.
func holdAsked(t *testing.T, n *netlist.Net, l []api.Element, s string) {
	t.Helper()
	place := slices.Index(nodesOf(l), s)
	if at, ok := n.Place(s); ok != (place >= 0) || at != max(place, 0) {
		t.Fatalf("Place(%.40q) of %s: %d, %v", s, show(l), at, ok)
	}
	branch := slices.Index(branchesOf(l), s)
	if at, ok := n.Branch(s); ok != (branch >= 0) || at != max(branch, 0) {
		t.Fatalf("Branch(%.40q) of %s: %d, %v", s, show(l), at, ok)
	}
	var want api.Element
	found := slices.IndexFunc(l, func(e api.Element) bool { return e.Name == s })
	if found >= 0 {
		want = l[found]
	}
	if e, ok := n.Find(s); ok != (found >= 0) || !value.Same(e, want) {
		t.Fatalf("Find(%.40q) of %s: %v, %v", s, show(l), e, ok)
	}
}

// holdBack holds P15.6 of a net.
func holdBack(t *testing.T, n *netlist.Net, l []api.Element) {
	t.Helper()
	text := n.Print()
	back, f := netlist.Parse(text)
	if back == nil || f != (api.Fault{}) {
		t.Fatalf("Parse(%.60q), which was printed: %v", text, f)
	}
	same := func(a, b api.Element) bool { return value.Same(a, b) || a == b && a.Value == 0 }
	if got := back.Elements(); !slices.EqualFunc(got, l, same) {
		t.Fatalf("Parse(%.60q): %s; want %s", text, show(got), show(l))
	}
	if again := back.Print(); again != text {
		t.Fatalf("%.60q is printed as %.60q", text, again)
	}
}

// hold holds Of against the document's words, and all of the net that it gives.
func hold(t *testing.T, l []api.Element) api.Fault {
	t.Helper()
	want := judged(l)
	n, f := netlist.Of(l)
	if f != want || (n == nil) != (want != api.Fault{}) {
		t.Fatalf("Of(%s): %v; want %v", show(l), f, want)
	}
	if n != nil {
		holdNet(t, n, l)
		holdBack(t, n, l)
	}
	return f
}

// holdText holds Parse against the document's words, and all of the net that it gives.
func holdText(t *testing.T, s string) api.Fault {
	t.Helper()
	l, want := parsed(s)
	n, f := netlist.Parse(s)
	if f != want || (n == nil) != (want != api.Fault{}) {
		t.Fatalf("Parse(%.80q): %v; want %v", s, f, want)
	}
	if n != nil {
		holdNet(t, n, l)
		holdBack(t, n, l)
	}
	return f
}

// The errors and limits are the document's.

func TestNumbers(t *testing.T) {
	if api.MaxElements != maxElements || api.MaxNodes != maxNodes || api.MaxOrder != maxOrder || api.MaxName != maxName {
		t.Error(api.MaxElements, api.MaxNodes, api.MaxOrder, api.MaxName)
	}
	for want, e := range map[int]api.Errno{1: api.ErrNil, 2: api.ErrArg, 3: api.ErrLong, 4: api.ErrShape, 8: api.ErrName, 9: api.ErrThere, 10: api.ErrMissing} {
		if int(e) != want {
			t.Error(e, want)
		}
	}
}

// P15.1

func TestOfExamples(t *testing.T) {
	l := exampleList()
	if f := hold(t, l); f != (api.Fault{}) {
		t.Error(f)
	}
	n := must(t, l)
	if !slices.Equal(n.Nodes(), []string{"a", "b", "c", "d"}) || !slices.Equal(n.Branches(), []string{"V1", "E1"}) || n.Order() != 6 || n.Print() != example {
		t.Errorf("%q, %q, %d, %q", n.Nodes(), n.Branches(), n.Order(), n.Print())
	}
	two := rowOf('R', 1, 2)
	two[1].Name = ""
	if f := hold(t, two); f != (api.Fault{Err: value.Check(two[1]), At: 1}) || f.Err != 8 {
		t.Error(f)
	}
}

func TestOfNone(t *testing.T) {
	for _, l := range [][]api.Element{nil, {}, make([]api.Element, 0, 9)} {
		if f := hold(t, l); f != (api.Fault{}) {
			t.Error(f)
		}
		n := must(t, l)
		if len(n.Elements()) != 0 || len(n.Nodes()) != 0 || len(n.Branches()) != 0 || n.Order() != 0 || n.Print() != "" {
			t.Errorf("%v, %v, %v, %d, %q", n.Elements(), n.Nodes(), n.Branches(), n.Order(), n.Print())
		}
		more, f := n.With(sound('V', 1, "a", "0"))
		if f != (api.Fault{}) {
			t.Fatal(f)
		}
		holdNet(t, more, []api.Element{sound('V', 1, "a", "0")})
	}
}

// faulty are elements that may not be, one of each sort that value.Check tells of.
func faulty(number int) []api.Element {
	var all []api.Element
	change := func(letter byte, change func(e *api.Element)) {
		e := sound(letter, number, "a", "0")
		change(&e)
		all = append(all, e)
	}
	change('R', func(e *api.Element) { e.Kind = 0 })
	change('R', func(e *api.Element) { e.Kind = 9 })
	change('R', func(e *api.Element) { e.Kind = api.Coil })
	change('R', func(e *api.Element) { e.Name = "" })
	change('R', func(e *api.Element) { e.Name = "r1" })
	change('V', func(e *api.Element) { e.Name = "V" })
	change('V', func(e *api.Element) { e.A = "" })
	change('L', func(e *api.Element) { e.B = "A" })
	change('G', func(e *api.Element) { e.C = "" })
	change('E', func(e *api.Element) { e.D = "\n" })
	change('C', func(e *api.Element) { e.A = "0" })
	change('E', func(e *api.Element) { e.B = "a" })
	change('P', func(e *api.Element) { e.C = "c" })
	change('I', func(e *api.Element) { e.D = "d" })
	change('R', func(e *api.Element) { e.Phase = 1 })
	change('G', func(e *api.Element) { e.Phase = -1 })
	change('V', func(e *api.Element) { e.Value = inf })
	change('I', func(e *api.Element) { e.Value = nan })
	change('E', func(e *api.Element) { e.Value = -inf })
	change('R', func(e *api.Element) { e.Value = 0 })
	change('L', func(e *api.Element) { e.Value = minus0 })
	change('C', func(e *api.Element) { e.Value = -1 })
	change('P', func(e *api.Element) { e.Value = -inf })
	return append(all, api.Element{})
}

func TestOfTellsWhatCheckTells(t *testing.T) {
	for at := range 6 {
		for _, e := range faulty(99) {
			l := exampleList()[:6]
			l[at] = e
			if f := hold(t, l); f != (api.Fault{Err: value.Check(e), At: at}) || f.Err == api.OK {
				t.Errorf("%v at %d: %v", e, at, f)
			}
		}
	}
}

func TestOfTellsANameThatIsThere(t *testing.T) {
	for first := range 8 {
		for second := first + 1; second < 8; second++ {
			l := exampleList()
			l[second] = l[first]
			if f := hold(t, l); f != (api.Fault{Err: 9, At: second}) {
				t.Errorf("%d, %d: %v", first, second, f)
			}
			// It is the name alone that counts.
			l[second].A, l[second].B, l[second].Value = "x", "y", 3
			if f := hold(t, l); f != (api.Fault{Err: 9, At: second}) {
				t.Errorf("%d, %d, changed: %v", first, second, f)
			}
		}
	}
	for _, names := range [][]string{{"R1", "R10"}, {"R10", "R1"}, {"R1", "R01"}, {"R_", "R__"}, {"R1", "Ra"}} {
		a, b := sound('R', 1, "a", "0"), sound('R', 1, "a", "0")
		a.Name, b.Name = names[0], names[1]
		if f := hold(t, []api.Element{a, b}); f != (api.Fault{}) {
			t.Errorf("%q: %v", names, f)
		}
	}
	// A node may have the name that an element has behind its letter, and two kinds the same one behind theirs.
	if f := hold(t, []api.Element{sound('R', 1, "1", "r1"), sound('L', 1, "1", "r1"), sound('V', 1, "v1", "1")}); f != (api.Fault{}) {
		t.Error(f)
	}
}

// Two faults: the first element's is told; of one element that of Check ahead of the name; those of elements ahead of the limits behind them; that of the number of elements ahead of all.
func TestOfTellsTheFirstFault(t *testing.T) {
	for _, e := range faulty(99) {
		twice := append(exampleList(), exampleList()[0])
		if f := hold(t, append(twice, e)); f != (api.Fault{Err: 9, At: 8}) {
			t.Errorf("%v behind: %v", e, f)
		}
		if f := hold(t, append(exampleList(), e, exampleList()[0])); f != (api.Fault{Err: value.Check(e), At: 8}) {
			t.Errorf("%v ahead: %v", e, f)
		}
		for _, other := range faulty(98) {
			if f := hold(t, append(exampleList(), e, other)); f != (api.Fault{Err: value.Check(e), At: 8}) {
				t.Errorf("%v, %v: %v", e, other, f)
			}
		}
		if f := hold(t, append(rowOf('R', 200, 40), e)); f != (api.Fault{Err: value.Check(e), At: 40}) {
			t.Errorf("%v behind too many nodes: %v", e, f)
		}
		if f := hold(t, append([]api.Element{e}, rowOf('R', 200, 256)...)); f != (api.Fault{Err: 3, At: -1}) {
			t.Errorf("%v ahead of too many elements: %v", e, f)
		}
	}
	bad := sound('R', 47, "a", "a") // a name that is there, and nodes that may not be
	if f := hold(t, []api.Element{sound('R', 47, "a", "b"), bad}); f != (api.Fault{Err: 2, At: 1}) {
		t.Error(f)
	}
	if f := hold(t, append(rowOf('R', 1, 40), sound('R', 1, "a", "0"))); f != (api.Fault{Err: 9, At: 40}) {
		t.Error(f)
	}
	if f := hold(t, append(rowOf('R', 1, 256), sound('R', 1, "a", "0"))); f != (api.Fault{Err: 3, At: -1}) {
		t.Error(f)
	}
}

// many gives so many resistors between two nodes.
func many(n int) []api.Element {
	var l []api.Element
	for i := range n {
		l = append(l, sound('R', i, "a", "0"))
	}
	return l
}

func TestOfManyElements(t *testing.T) {
	for n, want := range map[int]api.Fault{255: {}, 256: {}, 257: {Err: 3, At: -1}, 258: {Err: 3, At: -1}, 5000: {Err: 3, At: -1}} {
		if f := hold(t, many(n)); f != want {
			t.Errorf("%d: %v", n, f)
		}
	}
	if f := hold(t, make([]api.Element, 257)); f != (api.Fault{Err: 3, At: -1}) {
		t.Error(f)
	}
	if f := hold(t, make([]api.Element, 256)); f != (api.Fault{Err: 2, At: 0}) {
		t.Error(f)
	}
}

func TestOfManyNodes(t *testing.T) {
	for _, letter := range []byte(letters) {
		for n := 30; n <= 34; n++ {
			want := api.Fault{}
			if n > 32 {
				want = api.Fault{Err: 3, At: -1}
			}
			if f := hold(t, rowOf(letter, 1, n)); f != want {
				t.Errorf("%c, %d nodes: %v", letter, n, f)
			}
		}
	}
	// The 33rd node, at each of the places that an element has for one; and the ground, which is none, at each.
	for _, change := range []func(e *api.Element, node string){
		func(e *api.Element, node string) { e.A = node },
		func(e *api.Element, node string) { e.B = node },
		func(e *api.Element, node string) { e.C = node },
		func(e *api.Element, node string) { e.D = node },
	} {
		for _, letter := range []byte("GE") {
			e := sound(letter, 99, "n1", "n2")
			change(&e, "0")
			if f := hold(t, append(rowOf('R', 1, 32), e)); f != (api.Fault{}) {
				t.Errorf("%v: %v", e, f)
			}
			change(&e, "00")
			if f := hold(t, append(rowOf('R', 1, 32), e)); f != (api.Fault{Err: 3, At: -1}) {
				t.Errorf("%v: %v", e, f)
			}
			if f := hold(t, append(rowOf('R', 1, 31), e)); f != (api.Fault{}) {
				t.Errorf("%v: %v", e, f)
			}
		}
	}
}

func TestOfManyBranches(t *testing.T) {
	for _, letter := range []byte(letters) {
		branch := letter == 'V' || letter == 'E'
		for _, nodes := range []int{1, 2, 16, 31, 32} {
			for order := 62; order <= 67; order++ {
				l := rowOf('R', 100, nodes)
				for i := range order - nodes {
					l = append(l, sound(letter, i, "n100", "0"))
				}
				want := api.Fault{}
				if branch && order > 64 {
					want = api.Fault{Err: 3, At: -1}
				}
				if f := hold(t, l); f != want {
					t.Errorf("%c, %d nodes, %d in all: %v", letter, nodes, order, f)
				}
			}
		}
	}
	mixed := append(rowOf('V', 1, 20), rowOf('E', 1, 20)...) // the nodes of both are the same
	for _, more := range []int{4, 5} {
		l := append(slices.Clone(mixed), rowOf('E', 21, more/2)...)
		for i := range more - more/2*2 {
			l = append(l, sound('V', 90+i, "n1", "0"))
		}
		hold(t, l)
	}
}

func TestOrderOfNodesAndBranches(t *testing.T) {
	for _, c := range []struct{ text, nodes, branches string }{
		{"R1 b a 1", "b a", ""},
		{"R1 0 a 1\nR2 b 0 1", "a b", ""},
		{"E1 d c b a 1", "d c b a", "E1"},
		{"G1 d 0 b d 1\nR1 a b 1", "d b a", ""},
		{"E1 0 d 0 0 1\nV1 a d 1", "d a", "E1 V1"},
		{"V2 a 0 1\nE1 b 0 a 0 1\nV1 c 0 1\nI1 c 0 1\nE0 d 0 a a 1", "a b c d", "V2 E1 V1 E0"},
		{"R1 z y 1\nR2 y x 1\nR3 x z 1\nR4 00 z 1", "z y x 00", ""},
		{"G1 a b c d 1\nG2 d c b a 1\nG3 e 0 f 0 1", "a b c d e f", ""},
	} {
		n := mustParse(t, c.text)
		if got := strings.Join(n.Nodes(), " "); got != c.nodes {
			t.Errorf("%q: %q; want %q", c.text, got, c.nodes)
		}
		if got := strings.Join(n.Branches(), " "); got != c.branches {
			t.Errorf("%q: %q; want %q", c.text, got, c.branches)
		}
		holdText(t, c.text)
	}
}

// P15.2

func TestParseOfExamples(t *testing.T) {
	n := mustParse(t, "R1 a b 4.7k\nV1 a 0 10 6\nC1 b 0 100n\n")
	if !alike(n.Elements(), exampleList()[:3]) || !slices.Equal(n.Nodes(), []string{"a", "b"}) || !slices.Equal(n.Branches(), []string{"V1"}) || n.Order() != 3 {
		t.Errorf("%v", n.Elements())
	}
	if at, ok := n.Place("b"); at != 1 || !ok {
		t.Error(at, ok)
	}
	if at, ok := n.Place("0"); at != 0 || ok {
		t.Error(at, ok)
	}
	n = mustParse(t, "* a remark\n\nE1 a 0 b c -2")
	if !alike(n.Elements(), []api.Element{{Kind: 7, Name: "E1", A: "a", B: "0", C: "b", D: "c", Value: -2}}) {
		t.Errorf("%v", n.Elements())
	}
	for s, want := range map[string]api.Fault{
		"X1 a b 1":             {Err: 8, At: 0},
		"R1 a b":               {Err: 4, At: 0},
		"R1 a b 1 2":           {Err: 4, At: 0},
		"R1 a b x":             {Err: 150, At: 0},
		"I1 a b 1 03":          {Err: 2, At: 0},
		"R1 a a 1":             {Err: 2, At: 0},
		"R1 a b 1\nR1 b c 1":   {Err: 9, At: 1},
		"":                     {},
		"\n":                   {},
		"* x\n ; y\n\n \t\r\n": {},
		example:                {},
	} {
		if f := holdText(t, s); f != want {
			t.Errorf("Parse(%.40q): %v; want %v", s, f, want)
		}
	}
	if !alike(mustParse(t, example).Elements(), exampleList()) {
		t.Errorf("%v", mustParse(t, example).Elements())
	}
}

// Each first byte that a word may have, at the head of lines of each length.
func TestParseOfEachLetterAndLength(t *testing.T) {
	for b := range 256 {
		for count := range 9 {
			words := []string{string([]byte{byte(b)}) + "1", "a", "b", "1", "2", "3", "4", "5", "6"}
			s := strings.Join(words[:count+1], " ")
			holdText(t, s)
			holdText(t, "\n"+s+"\n")
		}
	}
	for letter, lengths := range map[byte][]int{'R': {4}, 'L': {4}, 'C': {4}, 'P': {4}, 'I': {4, 5}, 'V': {4, 5}, 'G': {6}, 'E': {6}} {
		for count := 1; count < 9; count++ {
			s := strings.Join([]string{string(rune(letter)) + "1", "a", "b", "3", "4", "5", "6", "7"}[:count], " ")
			f := holdText(t, s)
			if want := slices.Contains(lengths, count); want != (f == api.Fault{}) || !want && f != (api.Fault{Err: 4, At: 0}) {
				t.Errorf("%q: %v", s, f)
			}
		}
	}
}

func TestParseOfPhases(t *testing.T) {
	top := strconv.Itoa(math.MaxInt)
	low := strconv.Itoa(math.MinInt)
	next := func(s string) string { // one farther from 0, by its last digit, which is no 9
		return s[:len(s)-1] + string(s[len(s)-1]+1)
	}
	for s, want := range map[string]int{"0": 0, "1": 1, "-1": -1, "9": 9, "10": 10, "-10": -10, "23": 23, "24": 24, "-24": -24, "1000000000": 1000000000, top: math.MaxInt, low: math.MinInt} {
		for _, letter := range "IV" {
			text := string(letter) + "1 a b 1 " + s
			if f := holdText(t, text); f != (api.Fault{}) {
				t.Fatalf("%q: %v", text, f)
			}
			if e, _ := mustParse(t, text).Find(string(letter) + "1"); e.Phase != want {
				t.Errorf("%q: %d", text, e.Phase)
			}
		}
	}
	for _, s := range []string{
		"-0", "+0", "00", "01", "-01", "+1", "--1", "-", "+", "1.0", "1.", ".1", "1e1", "1k", "0x1", "0b1", "1_0", "1_000", "_1", "x", "1x", "1-", "1,0", "-a", "0-", "-00",
		next(top), next(low), "9223372036854775808", "-9223372036854775809", "18446744073709551616", "18446744073709551617", "36893488147419103233", strings.Repeat("1", 80), "-" + strings.Repeat("9", 79), strings.Repeat("0", 80), "0000000000000000000001",
	} {
		for _, letter := range "IV" {
			text := "R1 a 0 1\n" + string(letter) + "1 a b 1 " + s
			if f := holdText(t, text); f != (api.Fault{Err: 2, At: 1}) {
				t.Errorf("%q: %v", text, f)
			}
		}
	}
}

func TestParseOfValues(t *testing.T) {
	for _, c := range []struct {
		text string
		err  api.Errno
	}{
		{"x", 150}, {"-", 150}, {".", 150}, {"1e", 150}, {"4k7", 150}, {"+1", 150}, {"NaN", 150}, {"Inf", 150}, {"0x1", 150}, {"1K", 150},
		{"1e309", 6}, {"-1e999", 6}, {"1e308k", 6},
		{strings.Repeat("1", 65), 3}, {strings.Repeat("x", 65), 3}, {strings.Repeat("0", 80), 3},
		{strings.Repeat("0", 63) + "1", 0}, {"1", 0}, {"1e3k", 0}, {".5", 0}, {"5.", 0}, {"4.7k", 0}, {"1e308", 0},
	} {
		for _, letter := range []byte(letters) {
			middle := " a b "
			if sorts()[letter] == "four" {
				middle = " a b c d "
			}
			for _, behind := range []string{"", "\n", " * x", "\r\nR9 a 0 1"} {
				s := "\n* x\n" + string(rune(letter)) + "1" + middle + c.text + behind
				want := api.Fault{}
				if c.err != 0 {
					want = api.Fault{Err: c.err, At: 2}
				}
				if f := holdText(t, s); f != want {
					t.Errorf("%.60q: %v; want %v", s, f, want)
				}
			}
		}
	}
	for s, want := range map[string]float64{"-0": minus0, "0": 0, "-1e-400": minus0, "1e-400": 0, "-2.5": -2.5} {
		e, ok := mustParse(t, "V1 a 0 "+s).Find("V1")
		if !ok || math.Float64bits(e.Value) != math.Float64bits(want) {
			t.Errorf("%q: %v", s, e.Value)
		}
	}
	for _, s := range []string{"0", "-0", "-1", "1e-400"} {
		if f := holdText(t, "\nR1 a 0 "+s); f != (api.Fault{Err: 2, At: 1}) {
			t.Errorf("%q: %v", s, f)
		}
	}
}

// wrongLines are lines with a fault, by what is told of it, in the order in which a line is looked at.
func wrongLines() []struct {
	text string
	err  api.Errno
} {
	return []struct {
		text string
		err  api.Errno
	}{
		{"X1 a b 1", 8}, {"r1 a b 1", 8}, {"1 a b 1", 8}, {"X", 8}, {"!", 8}, {"x y z", 8}, {"X1 a b x x x x x x", 8},
		{"R", 4}, {"R1 a b", 4}, {"R1 a b 1 x", 4}, {"RX A A", 4}, {"V1 a b x x x", 4}, {"G1 a b c x", 4}, {"E1 a b c d x 2", 4},
		{"R1 a b x", 150}, {"RX A A x", 150}, {"V1 a b x 03", 150}, {"I1 a b 1e309 03", 6}, {"G1 a b c d " + strings.Repeat("1", 65), 3},
		{"V1 a b 1 03", 2}, {"VX A A 1 x", 2},
	}
}

// Of's own faults are told only where no line has one of those ahead, however far down that stands.
func TestParseTellsLinesAheadOfElements(t *testing.T) {
	of := []struct {
		text string
		err  api.Errno
	}{
		{"R a b 1", 8}, {"RX a b 1", 8}, {"R1 A b 1", 8}, {"R1 a B 1", 8}, {"E1 a b C d 1", 8}, {"G1 a b c - 1", 8}, {"R1 a a 1", 2}, {"R1 a b -1", 2}, {"L1 a b 0", 2}, {"R7 a b 1", 9}, {"R12345678901234567 a b 1", 8},
	}
	lead := "R7 a 0 1\n* x\n\n"
	for _, o := range of {
		if f := holdText(t, lead+o.text); f != (api.Fault{Err: o.err, At: 3}) {
			t.Errorf("%q: %v", o.text, f)
		}
		if f := holdText(t, lead+"\n;\nR8 a 0 1\n\n\n"+o.text+"\nR8 a 0 1"); f != (api.Fault{Err: o.err, At: 8}) {
			t.Errorf("%q: %v", o.text, f)
		}
		for _, p := range of {
			if f := holdText(t, lead+o.text+"\n\n"+p.text); f != (api.Fault{Err: o.err, At: 3}) {
				t.Errorf("%q, %q: %v", o.text, p.text, f)
			}
		}
		for _, w := range wrongLines() {
			if f := holdText(t, lead+o.text+"\n\n"+w.text+"\n"+o.text); f != (api.Fault{Err: w.err, At: 5}) {
				t.Errorf("%q, %.40q: %v", o.text, w.text, f)
			}
		}
	}
	for _, w := range wrongLines() {
		if f := holdText(t, w.text); f != (api.Fault{Err: w.err, At: 0}) {
			t.Errorf("%.40q: %v", w.text, f)
		}
		for _, v := range wrongLines() {
			if f := holdText(t, lead+w.text+"\n"+v.text); f != (api.Fault{Err: w.err, At: 3}) {
				t.Errorf("%.40q, %.40q: %v", w.text, v.text, f)
			}
		}
		// What tokens.Cut refuses is told ahead of all lines.
		if f := holdText(t, w.text+"\n\n\x00"); f != (api.Fault{Err: 240, At: 2}) {
			t.Errorf("%.40q: %v", w.text, f)
		}
		if f := holdText(t, w.text+"\n"+strings.Repeat("a", 81)); f != (api.Fault{Err: 3, At: 1}) {
			t.Errorf("%.40q: %v", w.text, f)
		}
		if f := holdText(t, w.text+strings.Repeat(" ", 1<<16)); f != (api.Fault{Err: 3, At: -1}) {
			t.Errorf("%.40q: %v", w.text, f)
		}
		// A line's fault is told ahead of there being too many elements, or nodes.
		if f := holdText(t, printed(many(300))+w.text); f != (api.Fault{Err: w.err, At: 300}) {
			t.Errorf("%.40q: %v", w.text, f)
		}
		if f := holdText(t, printed(rowOf('R', 1, 40))+w.text); f != (api.Fault{Err: w.err, At: 40}) {
			t.Errorf("%.40q: %v", w.text, f)
		}
	}
}

// Where Of tells of no element, Parse tells of no line.
func TestParseOfTooMuch(t *testing.T) {
	for _, l := range [][]api.Element{many(257), many(300), rowOf('R', 1, 33), rowOf('V', 1, 33), append(rowOf('R', 1, 32), rowOf('E', 1, 32)...)} {
		want := judged(l)
		for _, s := range []string{printed(l), "\n\n" + printed(l), strings.ReplaceAll(printed(l), "\n", "\n\n*\n")} {
			if f := holdText(t, s); f != want {
				t.Errorf("%.40q: %v; want %v", s, f, want)
			}
		}
	}
	if f := holdText(t, printed(many(256))); f != (api.Fault{}) {
		t.Error(f)
	}
	if f := holdText(t, printed(rowOf('R', 1, 33))); f != (api.Fault{Err: 3, At: -1}) {
		t.Error(f)
	}
	// A name that is there, behind more nodes than there may be; and behind more elements, where it isn't told.
	if f := holdText(t, "\n"+printed(rowOf('R', 1, 33))+"R1 a 0 1"); f != (api.Fault{Err: 9, At: 34}) {
		t.Error(f)
	}
	if f := holdText(t, "\n"+printed(many(256))+"R1 a 0 1"); f != (api.Fault{Err: 3, At: -1}) {
		t.Error(f)
	}
}

// mingled gives texts made of lines all over the place; the more often a line is wrong the greater is spite.
func mingled(n int, seed uint64, spite uint64) []string {
	nodes := []string{"0", "a", "b", "c", "d", "00", "n_1", "x"}
	values := []string{"1", "4.7k", "100n", "0.5", "1e3", "2M", ".5", "3.", "1e-300"}
	wrong := []string{"", "*", "\t* x\n", ";", "A", "-1", "0", "x", "1e999", "R1", "\n", "03", "-0", " ", "b c", strings.Repeat("1", 66)}
	var all []string
	for _, bits := range scatter(n, seed) {
		var b strings.Builder
		for i, more := range scatter(int(bits%14), bits|1) {
			pick := func(of []string) string {
				more = scatter(1, more)[0]
				if more>>7%spite == 0 {
					return wrong[more>>40%uint64(len(wrong))]
				}
				return of[more>>20%uint64(len(of))]
			}
			letter := letters[more>>33%8]
			words := []string{string(rune(letter)) + strconv.Itoa(i), nodes[more>>40%4], nodes[4+more>>44%4]}
			if sorts()[letter] == "four" {
				words = append(words, pick(nodes), pick(nodes))
			}
			words = append(words, pick(values))
			if sorts()[letter] == "source" && more>>50%2 == 0 {
				words = append(words, pick([]string{"0", "1", "-5", "24", "1000"}))
			}
			blank := pick([]string{" ", "  ", "\t", " \r"})
			b.WriteString(strings.Join(words, blank) + pick([]string{"\n", "\n\n", "\r\n", " * load\n", ";\xff\n", "\n * \n"}))
		}
		all = append(all, b.String())
	}
	return all
}

func TestParseOfMinglings(t *testing.T) {
	counts := map[api.Errno]int{}
	for _, s := range append(mingled(3000, 15, 200), mingled(1500, 16, 20)...) {
		counts[holdText(t, s).Err]++
	}
	if counts[0] < 1500 || counts[0] > 4400 || counts[4] < 30 || counts[150] < 30 || counts[2] < 10 {
		t.Errorf("too few of one sort: %v", counts)
	}
}

func TestParseOfAnyBytes(t *testing.T) {
	const bytes = "RLCIVGEPXr 0123ab\n\n   *;-.k\t"
	for _, bits := range scatter(4000, 4) {
		var b strings.Builder
		for _, more := range scatter(int(bits%60), bits|1) {
			b.WriteByte(bytes[more>>9%uint64(len(bytes))])
		}
		holdText(t, b.String())
	}
	for _, bits := range scatter(500, 5) {
		b := []byte{}
		for _, more := range scatter(int(bits%40), bits|1) {
			b = append(b, byte(more>>11))
		}
		holdText(t, string(b))
	}
}

// P15.3

func TestPrintOfExamples(t *testing.T) {
	for _, c := range []struct{ text, want string }{
		{"R1 a b 4.7k\nV1 a 0 10 6\nC1 b 0 100n", "R1 a b 4.7k\nV1 a 0 10 6\nC1 b 0 100n\n"},
		{"", ""},
		{"* x\n\n", ""},
		{"V1 a 0 1 0", "V1 a 0 1\n"},
		{"V1 a 0 1", "V1 a 0 1\n"},
		{"I1 a 0 1 -7", "I1 a 0 1 -7\n"},
		{"I1 a 0 0 0", "I1 a 0 0\n"},
		{"V1 a 0 -0", "V1 a 0 -0\n"},
		{" R1\ta\rb  4700*x", "R1 a b 4.7k\n"},
		{"G1 a b c d 0.001\n\n\nE1 a b 0 0 -1000", "G1 a b c d 1m\nE1 a b 0 0 -1k\n"},
		{"P1 a 0 1e20", "P1 a 0 1e20\n"},
	} {
		if got := mustParse(t, c.text).Print(); got != c.want {
			t.Errorf("%q is printed as %q; want %q", c.text, got, c.want)
		}
	}
}

func TestPrintOfAnyValue(t *testing.T) {
	reals := []float64{0, minus0, 1, -1, 0.1, 1e15, 1e-15, 5e-324, -5e-324, math.MaxFloat64, -math.MaxFloat64, 0x1p-1022, 123456.789, 1.0 / 3, 999.9, 1e-16, 9.999999999999999e14}
	for _, bits := range scatter(400, 88) {
		if x := math.Float64frombits(bits); x-x == 0 {
			reals = append(reals, x)
		}
	}
	for _, x := range reals {
		var l []api.Element
		for i, letter := range []byte(letters) {
			e := sound(letter, i, "a", "0")
			e.Value = x
			if value.Check(e) == api.OK {
				l = append(l, e)
			}
		}
		if f := hold(t, l); f != (api.Fault{}) || len(l) < 4 {
			t.Errorf("%v: %v", x, f)
		}
	}
}

func TestPrintOfAnyPhase(t *testing.T) {
	for _, steps := range []int{0, 1, -1, 6, 24, -24, 100, math.MaxInt, math.MinInt, math.MaxInt32, math.MinInt32} {
		for _, letter := range []byte("IV") {
			e := sound(letter, 1, "a", "0")
			e.Phase = steps
			want := string(rune(letter)) + "1 a 0 47"
			if steps != 0 {
				want += " " + strconv.Itoa(steps)
			}
			if got := must(t, []api.Element{e}).Print(); got != want+"\n" {
				t.Errorf("%q; want %q", got, want)
			}
			hold(t, []api.Element{e})
		}
	}
}

// The longest net's text may be read: it is shorter than a text may be.
func TestPrintOfTheLongestNet(t *testing.T) {
	var l []api.Element
	for i := range maxElements {
		letter := "GI"[i%2]
		node := func(k int) string { return fmt.Sprintf("node_%011d", k%maxNodes) }
		e := sound(letter, 0, node(i), node(i+1))
		e.Name = fmt.Sprintf("%c%015d", letter, i)
		e.Value = -2.2250738585072014e-308
		if letter == 'I' {
			e.Phase = math.MinInt
		} else {
			e.C, e.D = node(i+2), node(i+3)
		}
		l = append(l, e)
	}
	if f := hold(t, l); f != (api.Fault{}) {
		t.Error(f)
	}
}

// P15.4

func TestAskedOfExamples(t *testing.T) {
	n := mustParse(t, example)
	for node, want := range map[string]int{"a": 0, "b": 1, "c": 2, "d": 3} {
		if at, ok := n.Place(node); at != want || !ok {
			t.Errorf("Place(%q): %d, %v", node, at, ok)
		}
	}
	for _, node := range []string{"0", "", "x", "R1", "A", "V1", "00"} {
		if at, ok := n.Place(node); at != 0 || ok {
			t.Errorf("Place(%q): %d, %v", node, at, ok)
		}
	}
	for name, want := range map[string]int{"V1": 0, "E1": 1} {
		if at, ok := n.Branch(name); at != want || !ok {
			t.Errorf("Branch(%q): %d, %v", name, at, ok)
		}
	}
	for _, name := range []string{"R1", "I2", "G1", "P1", "L9", "C1", "a", "0", "", "V2", "v1"} {
		if at, ok := n.Branch(name); at != 0 || ok {
			t.Errorf("Branch(%q): %d, %v", name, at, ok)
		}
	}
	for _, want := range exampleList() {
		if e, ok := n.Find(want.Name); e != want || !ok {
			t.Errorf("Find(%q): %v, %v", want.Name, e, ok)
		}
	}
	for _, name := range []string{"a", "0", "", "R2", "r1", "R1 ", "R"} {
		if e, ok := n.Find(name); e != (api.Element{}) || ok {
			t.Errorf("Find(%q): %v, %v", name, e, ok)
		}
	}
}

// nets gives lists of elements that make a net, all over the place.
func nets(t *testing.T, n int, seed uint64) [][]api.Element {
	t.Helper()
	var all [][]api.Element
	for _, bits := range scatter(n, seed) {
		var l []api.Element
		for i, more := range scatter(int(bits%40), bits|1) {
			letter := letters[more>>3%8]
			node := func(shift int) string {
				return []string{"0", "a", "b", "c", "d", "e", "0_", "f", "g", "h", "00"}[more>>shift%11]
			}
			e := api.Element{Kind: kindOf(letter), Name: fmt.Sprintf("%c%d_%d", letter, i, more>>58), A: node(10), B: node(20), Value: math.Ldexp(float64(more>>11), int(more%200)-150)}
			switch sorts()[letter] {
			case "four":
				e.C, e.D, e.Value = node(30), node(40), -e.Value
			case "source":
				e.Phase = int(more>>34) - 1<<29
				if more>>60%4 == 0 {
					e.Value, e.Phase = minus0, 0
				}
			}
			if e.A == e.B {
				e.B = "z"
			}
			l = append(l, e)
		}
		if judged(l) == (api.Fault{}) {
			all = append(all, l)
		}
	}
	if len(all) < n/2 {
		t.Fatalf("%d of %d make a net: too few", len(all), n)
	}
	return all
}

func TestOfAnyNets(t *testing.T) {
	for _, l := range nets(t, 300, 1) {
		hold(t, l)
	}
}

// P15.5

func TestWithOfExamples(t *testing.T) {
	n := mustParse(t, example)
	more, f := n.With(sound('R', 7, "x", "0"))
	if f != (api.Fault{}) || more.Order() != 7 || n.Order() != 6 {
		t.Error(f)
	}
	for _, e := range exampleList() {
		for _, e := range []api.Element{e, {Kind: e.Kind, Name: e.Name, A: "p", B: "q", C: e.C, D: e.D, Value: 3}} {
			if more, f := n.With(e); more != nil || f != (api.Fault{Err: 9, At: 8}) {
				t.Errorf("With(%v): %v", e, f)
			}
		}
	}
	holdNet(t, n, exampleList())
}

func TestWithIsOfOfOneMore(t *testing.T) {
	lists := append(nets(t, 80, 2), nil, exampleList(), many(255), many(256), rowOf('R', 1, 31), rowOf('R', 1, 32), rowOf('V', 1, 32), rowOf('V', 1, 31), append(rowOf('R', 1, 32), rowOf('E', 1, 31)...))
	pieces := append(faulty(99), sound('R', 400, "new1", "0"), sound('V', 400, "new1", "0"), sound('E', 400, "n1", "0"), sound('G', 400, "new1", "new2"), sound('R', 1, "a", "0"))
	for _, l := range lists {
		n := must(t, l)
		for _, e := range pieces {
			whole := append(slices.Clone(l), e)
			want := judged(whole)
			more, f := n.With(e)
			if f != want || (more == nil) != (want != api.Fault{}) {
				t.Fatalf("With(%v) of %s: %v; want %v", e, show(l), f, want)
			}
			if more != nil {
				holdNet(t, more, whole)
				holdGone(t, more, l, e)
			}
		}
		holdNet(t, n, l)
	}
}

// holdGone holds that a net without the element that came to it has the elements that it had.
func holdGone(t *testing.T, more *netlist.Net, l []api.Element, e api.Element) {
	t.Helper()
	less, err := more.Without(e.Name)
	if err != api.OK || less == nil {
		t.Fatalf("Without(%q): %v", e.Name, err)
	}
	holdNet(t, less, l)
}

func TestWithoutOfExamples(t *testing.T) {
	n := mustParse(t, example)
	less, err := n.Without("V1")
	if err != api.OK || less.Order() != 5 || n.Order() != 6 || !slices.Equal(less.Branches(), []string{"E1"}) {
		t.Error(err)
	}
	for _, name := range []string{"R9", "a", "0", "", "r1", "R1 ", "V"} {
		if less, err := n.Without(name); less != nil || err != 10 {
			t.Errorf("Without(%q): %v", name, err)
		}
	}
	only := mustParse(t, "R1 a 0 1")
	less, err = only.Without("R1")
	if err != api.OK {
		t.Fatal(err)
	}
	holdNet(t, less, nil)
	if gone, err := less.Without("R1"); gone != nil || err != 10 {
		t.Error(err)
	}
	holdNet(t, only, []api.Element{{Kind: 1, Name: "R1", A: "a", B: "0", Value: 1}})
}

func TestWithoutIsTheOthers(t *testing.T) {
	for _, l := range append(nets(t, 60, 3), exampleList(), many(256), rowOf('V', 1, 32)) {
		n := must(t, l)
		for i, e := range l {
			rest := slices.Delete(slices.Clone(l), i, i+1)
			less, err := n.Without(e.Name)
			if err != api.OK || less == nil {
				t.Fatalf("Without(%q) of %s: %v", e.Name, show(l), err)
			}
			if i%7 == 0 || len(l) < 20 {
				holdNet(t, less, rest)
			} else if !alike(less.Elements(), rest) {
				t.Fatalf("Without(%q) of %s: %s", e.Name, show(l), show(less.Elements()))
			}
			if _, ok := less.Find(e.Name); ok {
				t.Fatalf("Without(%q) of %s has it", e.Name, show(l))
			}
		}
		holdNet(t, n, l)
	}
}

// P15.6 (there and back is held wherever Of and Parse are; here is what shows in no net)

func TestRemarksBlanksAndEmptyLinesShowInNoNet(t *testing.T) {
	blanks := []string{" ", "  ", "\t", "\r", " \t\r "}
	between := []string{"\n", "\n\n", "\r\n", "*\n", "; x\n", " * R1 a 0 1\n", ";\x00\xff\n\t\n", "\n* \n;\n"}
	for _, l := range append(nets(t, 150, 6), exampleList()) {
		text := printed(l)
		if len(text) > 10000 {
			continue
		}
		bits := uint64(len(text) + 1)
		pick := func(of []string) string {
			bits = scatter(1, bits)[0]
			return of[bits>>20%uint64(len(of))]
		}
		var b strings.Builder
		b.WriteString(pick([]string{"", " ", "\n", "* x\n"}))
		for i := range len(text) {
			switch text[i] {
			case ' ':
				b.WriteString(pick(blanks))
			case '\n':
				b.WriteString(pick(between))
			default:
				b.WriteByte(text[i])
			}
		}
		holdNet(t, mustParse(t, b.String()), l)
	}
}

// The sign of a nought may be lost or kept; here it is kept.
func TestNoughtsAreRead(t *testing.T) {
	for _, x := range []float64{0, minus0} {
		e := sound('V', 1, "a", "0")
		e.Value = x
		back, ok := mustParse(t, must(t, []api.Element{e}).Print()).Find("V1")
		if !ok || back.Value != 0 {
			t.Error(back, ok)
		}
	}
}

// The rules of every layer.

func TestNetsThatAreNone(t *testing.T) {
	var none *netlist.Net
	for _, n := range []*netlist.Net{none, {}, new(netlist.Net)} {
		if n.Print() != "" || len(n.Elements()) != 0 || len(n.Nodes()) != 0 || len(n.Branches()) != 0 || n.Order() != 0 {
			t.Error("tells something")
		}
		for _, s := range []string{"", "0", "a", "R1"} {
			if at, ok := n.Place(s); at != 0 || ok {
				t.Errorf("Place(%q): %d, %v", s, at, ok)
			}
			if at, ok := n.Branch(s); at != 0 || ok {
				t.Errorf("Branch(%q): %d, %v", s, at, ok)
			}
			if e, ok := n.Find(s); e != (api.Element{}) || ok {
				t.Errorf("Find(%q): %v, %v", s, e, ok)
			}
			if less, err := n.Without(s); less != nil || err != 1 {
				t.Errorf("Without(%q): %v", s, err)
			}
		}
		for _, e := range append(faulty(1), sound('R', 1, "a", "0")) {
			if more, f := n.With(e); more != nil || f != (api.Fault{Err: 1, At: -1}) {
				t.Errorf("With(%v): %v", e, f)
			}
		}
	}
}

var spoilt = api.Element{Kind: 9, Name: "spoilt", A: "s", B: "s", Value: nan, Phase: 7}

// spoil writes over lists that a net handed out, their spare room too.
func spoil(n *netlist.Net) {
	l, nodes, branches := n.Elements(), n.Nodes(), n.Branches()
	for i := range l[:cap(l)] {
		l[:cap(l)][i] = spoilt
	}
	for _, names := range [][]string{nodes[:cap(nodes)], branches[:cap(branches)]} {
		for i := range names {
			names[i] = "spoilt"
		}
	}
}

func TestWhatIsHandedBackIsNew(t *testing.T) {
	for _, l := range append(nets(t, 40, 8), exampleList(), rowOf('V', 1, 5), many(9)) {
		n := must(t, l)
		spoil(n)
		holdNet(t, n, l)
		first, second := n.Nodes(), n.Nodes()
		for i := range first[:cap(first)] {
			first[:cap(first)][i] = "spoilt"
		}
		if !slices.Equal(second, nodesOf(l)) {
			t.Errorf("%q", second)
		}
		e := sound('V', 999, "a", "q")
		one, f := n.With(e)
		if f != (api.Fault{}) {
			t.Fatal(f)
		}
		other, _ := n.With(sound('E', 998, "b", "r"))
		spoil(one)
		holdNet(t, one, append(slices.Clone(l), e))
		holdNet(t, other, append(slices.Clone(l), sound('E', 998, "b", "r")))
		spoil(other)
		less, _ := one.Without("V999")
		spoil(less)
		holdNet(t, less, l)
		holdNet(t, one, append(slices.Clone(l), e))
		holdNet(t, n, l)
	}
	n := mustParse(t, example)
	spoil(n)
	holdNet(t, n, exampleList())
}

// The list that Of was given is neither changed nor looked at later, its spare room neither.
func TestWhatIsHandedInIsLeftAlone(t *testing.T) {
	room := append(exampleList(), spoilt, spoilt, spoilt)
	before := slices.Clone(room)
	for _, give := range [][]api.Element{room[:8], room[:3], room[:0], room[2:5:6], room[:9], room} {
		netlist.Of(give)
		if !alike(room, before) {
			t.Fatalf("changed: %s", show(room))
		}
	}
	n := must(t, room[:8])
	more, _ := n.With(sound('R', 5, "x", "0"))
	n.Without("R1")
	more.Without("V1")
	if !alike(room, before) {
		t.Fatalf("changed: %s", show(room))
	}
	for i := range room {
		room[i] = spoilt
	}
	holdNet(t, n, exampleList())
	holdNet(t, more, append(exampleList(), sound('R', 5, "x", "0")))
}

func TestWithAFaultThereIsNoNet(t *testing.T) {
	for _, s := range []string{"X", "R1", "R1 a a 1", "R1 a b 1\nR1 a b 1", "\x00", printed(many(257)), printed(rowOf('R', 1, 33)), strings.Repeat("*", 1<<16+1)} {
		if n, f := netlist.Parse(s); n != nil || f == (api.Fault{}) {
			t.Errorf("Parse(%.40q): %v", s, f)
		}
	}
}

// Nothing is done to a net later on: it tells the same however often, and by however many, it is asked.
func TestCallsAreCalmAndTellTheSame(t *testing.T) {
	n := mustParse(t, example)
	texts := append(mingled(60, 9, 30), example, "", printed(many(256)))
	var wait sync.WaitGroup
	for range 4 {
		wait.Go(func() {
			for _, s := range texts {
				want, wantFault := parsed(s)
				for range 2 {
					got, f := netlist.Parse(s)
					if f != wantFault || !alike(got.Elements(), want) {
						t.Errorf("Parse(%.40q): %v", s, f)
					}
				}
				more, f := n.With(sound('R', 5, "x", "0"))
				less, err := n.Without("G1")
				at, ok := n.Place("d")
				if n.Print() != example || f != (api.Fault{}) || err != api.OK || at != 3 || !ok || len(more.Elements()) != 9 || len(less.Elements()) != 7 {
					t.Errorf("%q, %v, %v", n.Print(), f, err)
				}
			}
		})
	}
	wait.Wait()
}

// A copy of a net is a net, as all that is in it is only read.
func TestACopyIsANet(t *testing.T) {
	n := mustParse(t, example)
	other := *n
	holdNet(t, &other, exampleList())
	more, f := other.With(sound('R', 5, "x", "0"))
	if f != (api.Fault{}) {
		t.Fatal(f)
	}
	holdNet(t, more, append(exampleList(), sound('R', 5, "x", "0")))
	holdNet(t, n, exampleList())
}
