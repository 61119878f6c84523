package value_test

import (
	"fmt"
	"math"
	"strings"
	"sync"
	"testing"

	"gridwork/api"
	"gridwork/value"
)

const (
	least    = 0x1p-1074
	greatest = math.MaxFloat64
	longest  = 16 // bytes of a name
)

var (
	inf      = math.Inf(1)
	nan      = math.NaN()
	minus0   = math.Copysign(0, -1)
	loudNaN  = math.Float64frombits(0xfff0000000000001)
	otherNaN = math.Float64frombits(0x7ff8000000000002)
)

// row is a line of the document's table, as it stands there.
type row struct {
	kind   api.Kind
	number int // the kind as a number
	letter byte
	unit   string
	value  string
	uses   string
}

// table is the document's.
func table() []row {
	return []row{
		{api.Resistor, 1, 'R', "ohm", "above 0", "A B"},
		{api.Coil, 2, 'L', "henry", "above 0", "A B"},
		{api.Capacitor, 3, 'C', "farad", "above 0", "A B"},
		{api.Current, 4, 'I', "ampere", "any", "A B Phase"},
		{api.Voltage, 5, 'V', "volt", "any", "A B Phase"},
		{api.Transfer, 6, 'G', "siemens", "any", "A B C D"},
		{api.Amplifier, 7, 'E', "", "any", "A B C D"},
		{api.Port, 8, 'P', "ohm", "above 0", "A B"},
	}
}

// rowOf gives a kind's line of the table.
func rowOf(k api.Kind) (row, bool) {
	for _, r := range table() {
		if r.kind == k {
			return r, true
		}
	}
	return row{}, false
}

func (r row) usesIt(field string) bool {
	for _, f := range strings.Fields(r.uses) {
		if f == field {
			return true
		}
	}
	return false
}

// smallBytes are those of which nodes are made.
const smallBytes = "abcdefghijklmnopqrstuvwxyz0123456789_"

// isNode is the document's 'a node', byte by byte.
func isNode(s string) bool {
	if len(s) < 1 || len(s) > longest {
		return false
	}
	for i := range len(s) {
		if strings.IndexByte(smallBytes, s[i]) < 0 {
			return false
		}
	}
	return true
}

// nameKind is the document's 'an element's name': the kind, or 0.
func nameKind(s string) api.Kind {
	if len(s) < 2 || len(s) > longest {
		return 0
	}
	for i := 1; i < len(s); i++ {
		if strings.IndexByte(smallBytes, s[i]) < 0 {
			return 0
		}
	}
	for _, r := range table() {
		if s[0] == r.letter {
			return r.kind
		}
	}
	return 0
}

func finite(x float64) bool { return !math.IsNaN(x) && !math.IsInf(x, 0) }

// judged is what P13.2 says of an element: each question by itself, in the document's order.
func judged(e api.Element) api.Errno {
	r, ok := rowOf(e.Kind)
	if !ok {
		return api.ErrArg
	}
	if nameKind(e.Name) != e.Kind {
		return api.ErrName
	}
	if !isNode(e.A) {
		return api.ErrName
	}
	if !isNode(e.B) {
		return api.ErrName
	}
	if r.usesIt("C") && !isNode(e.C) {
		return api.ErrName
	}
	if r.usesIt("D") && !isNode(e.D) {
		return api.ErrName
	}
	if e.A == e.B {
		return api.ErrArg
	}
	if !r.usesIt("C") && e.C != "" || !r.usesIt("D") && e.D != "" {
		return api.ErrArg
	}
	if !r.usesIt("Phase") && e.Phase != 0 {
		return api.ErrArg
	}
	if !finite(e.Value) {
		return api.ErrNumber
	}
	if r.value == "above 0" && !(e.Value > 0) {
		return api.ErrArg
	}
	return api.OK
}

// sound is an element of a kind that may be.
func sound(r row) api.Element {
	e := api.Element{Kind: r.kind, Name: string(rune(r.letter)) + "1", A: "1", B: "0", Value: 47}
	if r.usesIt("C") {
		e.C, e.D = "2", "3"
	}
	return e
}

// with is an element that was changed.
func with(e api.Element, change func(e *api.Element)) api.Element {
	change(&e)
	return e
}

// show tells an element, its texts as far as they are of use.
func show(e api.Element) string {
	return fmt.Sprintf("{%d %.40q %.40q %.40q %.40q %.40q %v %d}", e.Kind, e.Name, e.A, e.B, e.C, e.D, e.Value, e.Phase)
}

// scatter gives whole numbers of 64 bits, always the same ones.
func scatter(n int, seed uint64) []uint64 {
	var all []uint64
	for range n {
		seed ^= seed << 13
		seed ^= seed >> 7
		seed ^= seed << 17
		all = append(all, seed)
	}
	return all
}

// strange are texts at which a name goes wrong, or might seem to: bytes beside those that may stand, runes whose last bits, or whose look, are a letter's, texts that are no UTF-8, texts that are too long.
func strange() []string {
	all := []string{
		"", " ", "A", "Z", "a b", " a", "a ", "a-b", "a.b", "a+b", "a*b", "a;b", "a\x00", "\x00", "a\n", "\na", "a\t", "a\r\n", "`", "{", "/", ":", "^", "-", "@", "[", "\x7f",
		"ä", "a\u0308", "ß", "é", "\u0161", "\u0141", "\u0130", "\u017f", "\u212a", "\u0161\u0130", "\uff41", "\uff10", "\u0660", "\u00b2", "\u00aa", "\u0430", "\u03b1", "\U00010061", "\U0001d41a", "\u203f", "\ufffd", "\ufeffa", "a\u200b", "日本", "😀",
		"\x80", "\xff", "a\xff", "\xffa", "\xc3", "a\xc3", "\xc3a", "\xc0\xb1", "\xe1", "\xed\xa0\x80", "\xf4\x90\x80\x80", "\xe1\x80a",
		"R", "r", "R1", "r1", "RR", "RA", "Ra", "R_", "R0", "R ", "R-", "R1 ", " R1", "R1\x00", "R1\n", "1R", "aR", "_R", "Rä", "R\u0161", "R\xff", "\xffR", "Q1", "01", "__", "_1", "\u01521", "\x001", "\u0150a", "\U000100521", "Ｒ1",
		strings.Repeat("a", longest-1), strings.Repeat("a", longest), strings.Repeat("a", longest+1), strings.Repeat("0", longest), strings.Repeat("_", longest+1),
		"R" + strings.Repeat("a", longest-2), "R" + strings.Repeat("a", longest-1), "R" + strings.Repeat("a", longest), "R" + strings.Repeat("a", longest+1),
		// Sixteen runes, or fewer, of more than sixteen bytes; and sixteen bytes with a wrong one at an end.
		strings.Repeat("ä", longest), strings.Repeat("ä", longest/2), strings.Repeat("a", longest-1) + "ä", strings.Repeat("a", longest-1) + "A", "A" + strings.Repeat("a", longest-1), "R" + strings.Repeat("a", longest-2) + "A",
		strings.Repeat("a", 255), strings.Repeat("a", 256), strings.Repeat("a", 257), strings.Repeat("a", 256+longest), "R" + strings.Repeat("1", 256), strings.Repeat("a", 1<<16+1), "R" + strings.Repeat("a", 1<<20),
	}
	for _, r := range table() {
		all = append(all, string(rune(r.letter)), string(rune(r.letter))+"1", strings.ToLower(string(rune(r.letter)))+"1", "1"+string(rune(r.letter)))
	}
	return all
}

// P13.1: Node.

func TestNodeOfExamples(t *testing.T) {
	for _, c := range []struct {
		s    string
		want bool
	}{
		{"1", true}, {"a_0", true}, {"", false}, {"A", false}, {"abcdefghijklmnopq", false}, {"a-b", false}, {"ä", false},
		{"0", true}, {"00", true}, {"_", true}, {"abcdefghijklmnop", true}, {"0123456789abcdef", true}, {"z9_", true}, {"in", true}, {"out", true},
	} {
		if got := value.Node(c.s); got != c.want {
			t.Errorf("Node(%q): %v", c.s, got)
		}
	}
}

func TestNodeOfStrangeTexts(t *testing.T) {
	for _, s := range strange() {
		if got := value.Node(s); got != isNode(s) {
			t.Errorf("Node(%.40q), of %d bytes: %v", s, len(s), got)
		}
	}
}

func TestNodeOfEachByteAtEachPlace(t *testing.T) {
	for n := 1; n <= longest+1; n++ {
		for at := range n {
			for b := range 256 {
				text := []byte(strings.Repeat("k", n))
				text[at] = byte(b)
				s := string(text)
				if got := value.Node(s); got != isNode(s) {
					t.Fatalf("Node(%q): %v", s, got)
				}
			}
		}
	}
}

func TestNodeOfAllTextsOfTwoBytes(t *testing.T) {
	nodes := 0
	for b := range 1 << 16 {
		s := string([]byte{byte(b >> 8), byte(b)})
		got := value.Node(s)
		if got != isNode(s) {
			t.Fatalf("Node(%q): %v", s, got)
		}
		if got {
			nodes++
		}
	}
	if nodes != 37*37 {
		t.Errorf("%d nodes of two bytes", nodes)
	}
}

// A rune that is no byte of these is in no node, whatever its last eight or sixteen bits are.
func TestNodeOfAllRunes(t *testing.T) {
	for r := rune(0x80); r <= 0x10ffff; r++ {
		if s := "a" + string(r); value.Node(s) {
			t.Fatalf("Node(%q)", s)
		}
	}
}

// P13.1: Name.

func TestNameOfExamples(t *testing.T) {
	for _, c := range []struct {
		s    string
		want api.Kind
	}{
		{"R1", api.Resistor}, {"R", 0}, {"r1", 0}, {"Q1", 0}, {"RA", 0},
		{"L1", api.Coil}, {"C_", api.Capacitor}, {"Ix", api.Current}, {"V0", api.Voltage}, {"Gain", api.Transfer}, {"E1", api.Amplifier}, {"Port", api.Port},
		{"Rabcdefghijklmno", api.Resistor}, {"Rabcdefghijklmnop", 0}, {"", 0}, {"1R", 0}, {"RR1", 0}, {"R1 ", 0},
	} {
		if k, ok := value.Name(c.s); k != c.want || ok != (c.want != 0) {
			t.Errorf("Name(%q): %v %v", c.s, k, ok)
		}
	}
}

// holdName asks Name of a text, and holds what it answers against the document's words.
func holdName(t *testing.T, s string) {
	t.Helper()
	want := nameKind(s)
	if k, ok := value.Name(s); k != want || ok != (want != 0) {
		t.Fatalf("Name(%.40q), of %d bytes: %v %v, not %v", s, len(s), k, ok, want)
	}
}

func TestNameOfStrangeTexts(t *testing.T) {
	for _, s := range strange() {
		holdName(t, s)
		for _, r := range table() {
			holdName(t, string(rune(r.letter))+s)
			holdName(t, s+string(rune(r.letter)))
		}
	}
}

func TestNameOfAllTextsOfOneByteAndTwo(t *testing.T) {
	names := map[api.Kind]int{}
	for b := range 1 << 16 {
		holdName(t, string([]byte{byte(b)}))
		s := string([]byte{byte(b >> 8), byte(b)})
		holdName(t, s)
		k, _ := value.Name(s)
		names[k]++
	}
	for _, r := range table() {
		if names[r.kind] != 37 {
			t.Errorf("%d names of two bytes of the kind %d", names[r.kind], r.kind)
		}
	}
}

func TestNameOfEachByteAtEachPlace(t *testing.T) {
	for _, r := range table() {
		for n := 1; n <= longest+1; n++ {
			for at := range n {
				for b := range 256 {
					text := []byte(string(rune(r.letter)) + strings.Repeat("k", n-1))
					text[at] = byte(b)
					holdName(t, string(text))
				}
			}
		}
	}
}

// A rune whose last bits are a letter's begins no name.
func TestNameOfAllRunes(t *testing.T) {
	for r := rune(0x80); r <= 0x10ffff; r++ {
		if k, ok := value.Name(string(r) + "1"); k != 0 || ok {
			t.Fatalf("Name(%q): %v %v", string(r)+"1", k, ok)
		}
		if k, ok := value.Name("R" + string(r)); k != 0 || ok {
			t.Fatalf("Name(%q): %v %v", "R"+string(r), k, ok)
		}
	}
}

// P13.1: Letter, Unit, Of; P13.4: there and back.

func TestLetterAndUnitOfAllKinds(t *testing.T) {
	for k := range 256 {
		r, _ := rowOf(api.Kind(k)) // of any other number neither
		if got := value.Letter(api.Kind(k)); got != r.letter {
			t.Errorf("Letter(%d): %q, not %q", k, got, r.letter)
		}
		if got := value.Unit(api.Kind(k)); got != r.unit {
			t.Errorf("Unit(%d): %q, not %q", k, got, r.unit)
		}
	}
	for _, r := range table() {
		if int(r.kind) != r.number {
			t.Errorf("the kind of the letter %q is %d", r.letter, r.kind)
		}
	}
}

func TestLetterAndUnitOfExamples(t *testing.T) {
	if l := value.Letter(api.Coil); l != 'L' {
		t.Errorf("Letter(Coil): %q", l)
	}
	if u := value.Unit(api.Transfer); u != "siemens" {
		t.Errorf("Unit(Transfer): %q", u)
	}
	if u := value.Unit(api.Amplifier); u != "" {
		t.Errorf("Unit(Amplifier): %q", u)
	}
	if l := value.Letter(9); l != 0 {
		t.Errorf("Letter(9): %q", l)
	}
}

func TestOfAllBytes(t *testing.T) {
	for b := range 256 {
		var want api.Kind
		for _, r := range table() {
			if byte(b) == r.letter {
				want = r.kind
			}
		}
		if k, ok := value.Of(byte(b)); k != want || ok != (want != 0) {
			t.Errorf("Of(%q): %v %v, not %v", byte(b), k, ok, want)
		}
	}
}

func TestOfExamples(t *testing.T) {
	for _, c := range []struct {
		letter byte
		want   api.Kind
		ok     bool
	}{{'C', api.Capacitor, true}, {'c', 0, false}, {0, 0, false}, {'0', 0, false}} {
		if k, ok := value.Of(c.letter); k != c.want || ok != c.ok {
			t.Errorf("Of(%q): %v %v", c.letter, k, ok)
		}
	}
}

func TestOfAndLetterThereAndBack(t *testing.T) {
	for k := range 256 {
		letter := value.Letter(api.Kind(k))
		back, ok := value.Of(letter)
		if in := k >= 1 && k <= 8; in != ok || in && int(back) != k {
			t.Errorf("Of(Letter(%d)): %v %v", k, back, ok)
		}
	}
	kinds := 0
	for b := range 256 {
		k, ok := value.Of(byte(b))
		if !ok {
			continue
		}
		kinds++
		if letter := value.Letter(k); letter != byte(b) {
			t.Errorf("Letter(Of(%q)): %q", byte(b), letter)
		}
		if named, ok := value.Name(string([]byte{byte(b), 'x'})); named != k || !ok {
			t.Errorf("Name of a name with the letter %q: %v %v", byte(b), named, ok)
		}
	}
	if kinds != 8 {
		t.Errorf("%d letters", kinds)
	}
}

// P13.2

func TestCheckOfExamples(t *testing.T) {
	r1 := api.Element{Kind: api.Resistor, Name: "R1", A: "1", B: "0", Value: 47}
	for _, c := range []struct {
		tell string
		e    api.Element
		want api.Errno
	}{
		{"R1 1 0 47", r1, api.OK},
		{"R1 0 0 47", with(r1, func(e *api.Element) { e.A = "0" }), api.ErrArg},
		{"r1 1 0 47", with(r1, func(e *api.Element) { e.Name = "r1" }), api.ErrName},
		{"R1 1 0 -0", with(r1, func(e *api.Element) { e.Value = minus0 }), api.ErrArg},
		{"V1 1 0 -0 Phase -5", api.Element{Kind: api.Voltage, Name: "V1", A: "1", B: "0", Value: minus0, Phase: -5}, api.OK},
		{"I1 1 0 NaN", api.Element{Kind: api.Current, Name: "I1", A: "1", B: "0", Value: nan}, api.ErrNumber},
		{"R1 1 0 47 Phase 1", with(r1, func(e *api.Element) { e.Phase = 1 }), api.ErrArg},
		{"G1 1 0 2 2 0", api.Element{Kind: api.Transfer, Name: "G1", A: "1", B: "0", C: "2", D: "2"}, api.OK},
		{"E1 1 0 with C 2 and D empty", api.Element{Kind: api.Amplifier, Name: "E1", A: "1", B: "0", C: "2"}, api.ErrName},
		{"the kind 9", with(r1, func(e *api.Element) { e.Kind = 9 }), api.ErrArg},
		{"nothing", api.Element{}, api.ErrArg},
	} {
		if got := value.Check(c.e); got != c.want {
			t.Errorf("Check of %s: %v, not %v", c.tell, got, c.want)
		}
	}
}

func TestCheckOfEachKind(t *testing.T) {
	for k := range 256 {
		for _, r := range table() {
			e := sound(r)
			e.Kind = api.Kind(k)
			want := api.OK
			switch {
			case k < 1 || k > 8:
				want = api.ErrArg
			case e.Kind != r.kind:
				want = api.ErrName // another kind's name
			}
			if got := value.Check(e); got != want {
				t.Errorf("the kind %d, %s: %v, not %v", k, e.Name, got, want)
			}
		}
	}
}

func TestCheckOfNames(t *testing.T) {
	for _, r := range table() {
		for _, s := range strange() {
			for _, name := range []string{s, string(rune(r.letter)) + s} {
				e := sound(r)
				e.Name = name
				want := api.OK
				if nameKind(name) != r.kind {
					want = api.ErrName
				}
				if got := value.Check(e); got != want {
					t.Errorf("%d, named %.40q: %v, not %v", r.kind, name, got, want)
				}
			}
		}
	}
}

// Each node of each kind, by itself: a text that is no node, the empty one too, is ErrName where the kind uses it; ErrArg where it does not, and it is not empty, though it were a node.
func TestCheckOfNodes(t *testing.T) {
	places := map[string]func(e *api.Element) *string{
		"A": func(e *api.Element) *string { return &e.A }, "B": func(e *api.Element) *string { return &e.B },
		"C": func(e *api.Element) *string { return &e.C }, "D": func(e *api.Element) *string { return &e.D },
	}
	for _, r := range table() {
		for place, node := range places {
			for _, s := range append(strange(), "x", "y_0", "00") {
				e := sound(r)
				*node(&e) = s
				want := api.OK
				switch {
				case r.usesIt(place) && !isNode(s):
					want = api.ErrName
				case !r.usesIt(place) && s != "":
					want = api.ErrArg
				}
				if got := value.Check(e); got != want {
					t.Errorf("%s with %s %.40q: %v, not %v", e.Name, place, s, got, want)
				}
			}
		}
	}
}

func TestCheckOfLikeNodes(t *testing.T) {
	for _, r := range table() {
		for _, c := range []struct {
			a, b string
			want api.Errno
		}{
			{"0", "0", api.ErrArg}, {"x", "x", api.ErrArg}, {"abcdefghijklmnop", "abcdefghijklmnop", api.ErrArg},
			{"0", "00", api.OK}, {"00", "0", api.OK}, {"1", "01", api.OK}, {"x", "xx", api.OK}, {"abcdefghijklmnop", "abcdefghijklmnoq", api.OK}, {"bbcdefghijklmnop", "abcdefghijklmnop", api.OK},
			{"0", "1", api.OK}, {"1", "2", api.OK}, {"", "", api.ErrName}, {"A", "A", api.ErrName},
		} {
			e := sound(r)
			e.A, e.B = c.a, strings.Clone(c.b)
			if got := value.Check(e); got != c.want {
				t.Errorf("%s %q %q: %v, not %v", e.Name, c.a, c.b, got, c.want)
			}
		}
	}
}

// C and D may be one node, A or B, or the ground.
func TestCheckOfControls(t *testing.T) {
	nodes := []string{"1", "0", "2", "00"}
	for _, r := range table() {
		if !r.usesIt("C") {
			continue
		}
		for _, c := range nodes {
			for _, d := range nodes {
				e := sound(r)
				e.C, e.D = c, d
				if got := value.Check(e); got != api.OK {
					t.Errorf("%s of %s and %s: %v", e.Name, c, d, got)
				}
			}
		}
	}
}

func TestCheckOfValues(t *testing.T) {
	reals := []float64{0, minus0, nan, loudNaN, otherNaN}
	for _, x := range []float64{least, 2 * least, 0x1p-1022 - least, 0x1p-1022, 0.1, 1, 47, 0x1p53, greatest, inf} {
		reals = append(reals, x, -x)
	}
	for _, bits := range scatter(500, 7) {
		reals = append(reals, math.Float64frombits(bits))
	}
	for _, r := range table() {
		for _, x := range reals {
			e := sound(r)
			e.Value = x
			want := api.OK
			switch {
			case !finite(x):
				want = api.ErrNumber
			case r.value == "above 0" && !(x > 0):
				want = api.ErrArg
			}
			if got := value.Check(e); got != want {
				t.Errorf("%s with %v: %v, not %v", e.Name, x, got, want)
			}
		}
	}
}

func TestCheckOfPhases(t *testing.T) {
	for _, r := range table() {
		for _, phase := range []int{0, 1, -1, -5, 6, 23, 24, 25, -24, 48, 256, 1 << 16, math.MaxInt32, math.MinInt32, math.MaxInt, math.MinInt} {
			e := sound(r)
			e.Phase = phase
			want := api.OK
			if phase != 0 && !r.usesIt("Phase") {
				want = api.ErrArg
			}
			if got := value.Check(e); got != want {
				t.Errorf("%s with the Phase %d: %v, not %v", e.Name, phase, got, want)
			}
		}
	}
}

// Two faults at once: the one that the document names first is told, of each kind and each two.
func TestCheckTellsTheFirstFault(t *testing.T) {
	type fault struct {
		of   string
		err  api.Errno
		make func(e *api.Element)
	}
	faults := func(r row) []fault {
		all := []fault{
			{"Kind", api.ErrArg, func(e *api.Element) { e.Kind = 0 }},
			{"Name", api.ErrName, func(e *api.Element) { e.Name = "q" }},
			{"A", api.ErrName, func(e *api.Element) { e.A = "A" }},
			{"B", api.ErrName, func(e *api.Element) { e.B = "" }},
		}
		if r.usesIt("C") {
			all = append(all, fault{"C", api.ErrName, func(e *api.Element) { e.C = "-" }}, fault{"D", api.ErrName, func(e *api.Element) { e.D = "" }})
		}
		all = append(all, fault{"A and B", api.ErrArg, func(e *api.Element) {
			if e.A == "1" { // where another fault has changed it, that one is ahead anyway
				e.A = e.B
			}
		}})
		if !r.usesIt("C") {
			all = append(all, fault{"spare C", api.ErrArg, func(e *api.Element) { e.C = "2" }}, fault{"spare D", api.ErrArg, func(e *api.Element) { e.D = "?" }})
		}
		if !r.usesIt("Phase") {
			all = append(all, fault{"spare Phase", api.ErrArg, func(e *api.Element) { e.Phase = -24 }})
		}
		all = append(all, fault{"Value", api.ErrNumber, func(e *api.Element) { e.Value = -inf }})
		if r.value == "above 0" {
			all = append(all, fault{"small Value", api.ErrArg, func(e *api.Element) {
				if e.Value == 47 {
					e.Value = -1
				}
			}})
		}
		return all
	}
	for _, r := range table() {
		all := faults(r)
		for i, first := range all {
			for _, other := range all[i:] {
				e := sound(r)
				first.make(&e)
				other.make(&e)
				if got := value.Check(e); got != first.err {
					t.Errorf("%c, %s and %s: %v, not %v", r.letter, first.of, other.of, got, first.err)
				}
			}
		}
	}
}

// Elements of all kinds, with sound and unsound fields in all minglings.
func TestCheckOfMinglings(t *testing.T) {
	names := []string{"", "R1", "L1", "Cx", "I_", "V0", "G1", "E1", "P1", "R", "r1", "Q1", "Pabcdefghijklmnop"}
	nodes := []string{"0", "a", "", "A", "abcdefghijklmnopq"}
	controls := []string{"", "0", "a", "-"}
	reals := []float64{47, 0, minus0, -1, least, nan, inf}
	phases := []int{0, 1, -24}
	counts := map[api.Errno]int{}
	hold := func(e api.Element) {
		for _, e.Value = range reals {
			for _, e.Phase = range phases {
				got := value.Check(e)
				if got != judged(e) {
					t.Fatalf("Check(%s): %v, not %v", show(e), got, judged(e))
				}
				counts[got]++
			}
		}
	}
	for k := range 10 {
		for _, name := range names {
			for _, a := range nodes {
				for _, b := range nodes {
					for _, c := range controls {
						for _, d := range controls {
							hold(api.Element{Kind: api.Kind(k), Name: name, A: a, B: b, C: c, D: d})
						}
					}
				}
			}
		}
	}
	for _, e := range []api.Errno{api.OK, api.ErrArg, api.ErrName, api.ErrNumber} {
		if counts[e] == 0 {
			t.Errorf("none of these is answered by %v", e)
		}
	}
	if len(counts) != 4 {
		t.Errorf("answers: %v", counts)
	}
}

// P13.3

func TestSameOfExamples(t *testing.T) {
	v1 := api.Element{Kind: api.Voltage, Name: "V1", A: "1", B: "0"}
	if value.Same(v1, with(v1, func(e *api.Element) { e.Value = minus0 })) {
		t.Error("0 and -0")
	}
	v1.Value = nan
	if !value.Same(v1, v1) || !value.Same(v1, with(v1, func(e *api.Element) { e.Value = nan })) {
		t.Error("two with the Value NaN")
	}
}

// alike is the document's 'the same', of reals.
func alike(a, b float64) bool {
	if math.IsNaN(a) || math.IsNaN(b) {
		return math.IsNaN(a) && math.IsNaN(b)
	}
	return math.Float64bits(a) == math.Float64bits(b)
}

func TestSameOfValues(t *testing.T) {
	reals := []float64{0, minus0, nan, loudNaN, otherNaN, least, -least, 1, -1, 1 + 0x1p-52, greatest, inf, -inf}
	for _, r := range table() {
		for _, x := range reals {
			for _, y := range reals {
				a, b := sound(r), sound(r)
				a.Value, b.Value = x, y
				if got := value.Same(a, b); got != alike(x, y) {
					t.Errorf("%s with %v and %v: %v", a.Name, x, y, got)
				}
				b.D += "x"
				if value.Same(a, b) || value.Same(b, a) {
					t.Errorf("%s with %v and %v, and unlike nodes", a.Name, x, y)
				}
			}
		}
	}
}

// All pairs of elements of which each but the first is changed in one field alone are unlike, those that may not be too; and each is the same as one like it whose texts lie elsewhere.
func TestSameOfEachField(t *testing.T) {
	changes := []func(e *api.Element){func(e *api.Element) {}}
	for _, k := range []api.Kind{0, api.Coil, api.Port, 9, 255} {
		changes = append(changes, func(e *api.Element) { e.Kind = k })
	}
	for _, s := range []string{"", "q", "Q", "q ", "qq", "ä", "a\u0308", "\xff", "\xfe", "\xff\xff", "\ufffd", "\xc3", "q\x00", strings.Repeat("q", 300), strings.Repeat("q", 300) + "r"} {
		changes = append(changes,
			func(e *api.Element) { e.Name = s }, func(e *api.Element) { e.A = s }, func(e *api.Element) { e.B = s },
			func(e *api.Element) { e.C = s }, func(e *api.Element) { e.D = s })
	}
	for _, x := range []float64{0, minus0, nan, inf, -47, math.Nextafter(47, inf)} {
		changes = append(changes, func(e *api.Element) { e.Value = x })
	}
	for _, p := range []int{0, 1, -1, 24, 256, 1 << 30, math.MaxInt, math.MinInt} {
		changes = append(changes, func(e *api.Element) { e.Phase = p })
	}
	base := api.Element{Kind: api.Transfer, Name: "G1", A: "1", B: "2", C: "3", D: "4", Value: 47, Phase: 7}
	for i, one := range changes {
		a := with(base, one)
		for j, other := range changes {
			b := with(base, other)
			b.Name, b.A, b.B, b.C, b.D = strings.Clone(b.Name), strings.Clone(b.A), strings.Clone(b.B), strings.Clone(b.C), strings.Clone(b.D)
			if got := value.Same(a, b); got != (i == j) {
				t.Fatalf("Same(%s, %s): %v", show(a), show(b), got)
			}
		}
	}
}

// What stands in one field is not taken for what stands in another one.
func TestSameOfExchangedFields(t *testing.T) {
	e := api.Element{Kind: api.Amplifier, Name: "E1", A: "1", B: "2", C: "3", D: "4", Value: 1}
	fields := func(e *api.Element) []*string { return []*string{&e.Name, &e.A, &e.B, &e.C, &e.D} }
	for i := range 5 {
		for j := range i {
			f := e
			l := fields(&f)
			*l[i], *l[j] = *l[j], *l[i]
			if value.Same(e, f) || value.Same(f, e) {
				t.Errorf("Same(%s, %s)", show(e), show(f))
			}
			f = e
			l = fields(&f)
			*l[i], *l[j] = "", *l[j]+*l[i]
			if value.Same(e, f) {
				t.Errorf("Same(%s, %s)", show(e), show(f))
			}
		}
	}
}

func TestSameOfElementsThatMayNotBe(t *testing.T) {
	for _, e := range []api.Element{
		{}, {Kind: 9}, {Kind: 255, Name: "\xff", A: "Ä", B: "Ä", C: " ", Value: -inf, Phase: math.MinInt},
		{Kind: api.Resistor, Name: "R1", A: "0", B: "0", Value: nan, Phase: 3}, {Kind: api.Resistor, Name: "V1", A: "1", B: "0", D: "1", Value: minus0},
	} {
		if value.Check(e) == api.OK {
			t.Fatalf("%s may be", show(e))
		}
		if !value.Same(e, e) {
			t.Errorf("Same(%s, itself)", show(e))
		}
		if value.Same(e, with(e, func(e *api.Element) { e.C += "1" })) || value.Same(e, with(e, func(e *api.Element) { e.Phase++ })) {
			t.Errorf("%s and one unlike it", show(e))
		}
	}
}

// P13.4

// mayBe gives many elements that may be, of a kind.
func mayBe(r row) []api.Element {
	all := []api.Element{sound(r)}
	for i, bits := range scatter(60, uint64(r.letter)) {
		e := sound(r)
		e.A, e.B = nodeOf(bits, 1+i%longest), "n"+nodeOf(bits>>7, i%(longest-1)+1)
		e.Value = valueOf(r, bits)
		if e.A == e.B {
			e.A = "0"
		}
		if r.usesIt("C") {
			e.C, e.D = nodeOf(bits>>3, longest-i%longest), e.A
		}
		if r.usesIt("Phase") {
			e.Phase = int(bits)
		}
		all = append(all, e)
	}
	return all
}

// nodeOf gives a node of n bytes.
func nodeOf(bits uint64, n int) string {
	var s strings.Builder
	for range n {
		s.WriteByte(smallBytes[bits%uint64(len(smallBytes))])
		bits = bits>>5 | bits<<59
	}
	return s.String()
}

// valueOf gives a Value that a kind may have.
func valueOf(r row, bits uint64) float64 {
	x := math.Float64frombits(bits &^ (1 << 62)) // the greatest exponent is left out: so it is finite
	if r.value == "above 0" {
		return math.Abs(x) + least
	}
	return x
}

func TestWhatMayBeStaysSo(t *testing.T) {
	for _, r := range table() {
		for i, e := range mayBe(r) {
			if got := value.Check(e); got != api.OK {
				t.Fatalf("Check(%s): %v", show(e), got)
			}
			for j, bits := range scatter(20, uint64(i+1)) {
				f := e
				f.Value = valueOf(r, bits)
				holdSound(t, e, f)
				f = e
				f.Name = string(rune(r.letter)) + nodeOf(bits, 1+j%(longest-1))
				holdSound(t, e, f)
				f = e
				f.A, f.B = nodeOf(bits, 1+j%longest), nodeOf(bits>>9, 1+(j+5)%longest)
				if r.usesIt("C") {
					f.C, f.D = nodeOf(bits>>11, 1+(j+3)%longest), nodeOf(bits>>17, 1+j%longest)
				}
				holdSound(t, e, f)
			}
		}
	}
}

func holdSound(t *testing.T, e, changed api.Element) {
	t.Helper()
	if changed.A == changed.B {
		t.Fatalf("the test's own nodes are alike: %s", show(changed))
	}
	if got := value.Check(changed); got != api.OK {
		t.Fatalf("Check(%s): OK; Check(%s): %v", show(e), show(changed), got)
	}
}

// The rules of every layer: a call is calm, tells the same each time and whoever else asks, and changes nothing that was handed in.

func TestCallsAreCalmAndTellTheSame(t *testing.T) {
	texts := strange()
	ask := func(bits uint64) (api.Errno, bool, bool, api.Kind) {
		pick := func(n uint64) string { return texts[n%uint64(len(texts))] }
		e := api.Element{
			Kind: api.Kind(bits), Name: pick(bits >> 3), A: pick(bits >> 11), B: pick(bits >> 19), C: pick(bits >> 27), D: pick(bits >> 35),
			Value: math.Float64frombits(bits), Phase: int(bits),
		}
		before := e
		errno, same := value.Check(e), value.Same(e, before)
		if e.Kind != before.Kind || e.Name != before.Name || e.A != before.A || e.B != before.B || e.C != before.C || e.D != before.D || math.Float64bits(e.Value) != math.Float64bits(before.Value) || e.Phase != before.Phase {
			t.Errorf("changed: %s, to %s", show(before), show(e))
		}
		if errno != judged(e) {
			t.Errorf("Check(%s): %v", show(e), errno)
		}
		if !same {
			t.Errorf("Same(%s, itself)", show(e))
		}
		k, _ := value.Name(e.Name)
		return errno, same, value.Node(e.A), k
	}
	all := scatter(2000, 99)
	var wait sync.WaitGroup
	for range 4 {
		wait.Go(func() {
			for _, bits := range all {
				errno, same, node, kind := ask(bits)
				if again, same2, node2, kind2 := ask(bits); again != errno || same2 != same || node2 != node || kind2 != kind {
					t.Errorf("asked twice: %v %v %v %v, then %v %v %v %v", errno, same, node, kind, again, same2, node2, kind2)
				}
			}
		})
	}
	wait.Wait()
}
