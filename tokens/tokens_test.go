package tokens_test

import (
	"fmt"
	"math"
	"regexp"
	"slices"
	"strings"
	"sync"
	"testing"

	"gridwork/api"
	"gridwork/quantity"
	"gridwork/tokens"
)

const (
	longestText = 65536 // bytes of a text
	longestWord = 80    // bytes of a word
)

// The document's words, worked out apart from the program: of whole lines, by patterns.

// lines are a text's, each with the byte 10 that ends it.
func lines(s string) []string {
	all := strings.SplitAfter(s, "\n")
	if all[len(all)-1] == "" {
		all = all[:len(all)-1]
	}
	return all
}

// seen is what of a line stands outside of its remark, and ahead of its byte 10.
func seen(line string) string {
	line = strings.TrimSuffix(line, "\n")
	if at := strings.IndexAny(line, "*;"); at >= 0 {
		return line[:at]
	}
	return line
}

var (
	wordPattern = regexp.MustCompile(`[\x21-\x7e]+`)
	longPattern = regexp.MustCompile(`[\x21-\x7e]{81}`)
	may         = "\t\r !\"#$%&'()*+,-./0123456789:;<=>?@ABCDEFGHIJKLMNOPQRSTUVWXYZ[\\]^_`abcdefghijklmnopqrstuvwxyz{|}~"
)

// wrongByte is the place of the first byte that may not be; none: the text's length.
func wrongByte(s string) int {
	for i := range len(s) {
		if strings.IndexByte(may, s[i]) < 0 {
			return i
		}
	}
	return len(s)
}

// tooLong is the place of the first 81st byte of a word; none: the text's length.
func tooLong(s string) int {
	if found := longPattern.FindStringIndex(s); found != nil {
		return found[1] - 1
	}
	return len(s)
}

// cut is what P14.1 says of a text.
func cut(s string) ([][]api.Token, api.Fault) {
	if len(s) > longestText {
		return nil, api.Fault{Err: api.ErrLong, At: -1}
	}
	var all [][]api.Token
	for n, line := range lines(s) {
		line = seen(line)
		if wrong, long := wrongByte(line), tooLong(line); wrong < long {
			return nil, api.Fault{Err: api.ErrByte, At: n}
		} else if long < wrong {
			return nil, api.Fault{Err: api.ErrLong, At: n}
		}
		var words []api.Token
		for _, found := range wordPattern.FindAllStringIndex(line, -1) {
			words = append(words, api.Token{Text: line[found[0]:found[1]], Line: n, Col: found[0]})
		}
		all = append(all, words)
	}
	return all, api.Fault{}
}

// joined is what P14.2 says of lists.
func joined(l [][]api.Token) string {
	s := ""
	for _, words := range l {
		texts := []string{}
		for _, t := range words {
			texts = append(texts, t.Text)
		}
		s += strings.Join(texts, " ") + "\n"
	}
	return s
}

func alike(a, b [][]api.Token) bool {
	return slices.EqualFunc(a, b, func(x, y []api.Token) bool { return slices.Equal(x, y) })
}

// alikeTexts holds the texts alone against each other, line by line.
func alikeTexts(a, b [][]api.Token) bool {
	return slices.EqualFunc(a, b, func(x, y []api.Token) bool {
		return slices.EqualFunc(x, y, func(t, u api.Token) bool { return t.Text == u.Text })
	})
}

// show tells a little of an answer: the whole might be as long as a text.
func show(l [][]api.Token) string {
	return fmt.Sprintf("%d lists, %.80s", len(l), fmt.Sprintf("%.3v", l))
}

// hold holds Cut against the document's words, and gives what it told.
func hold(t *testing.T, s string) ([][]api.Token, api.Fault) {
	t.Helper()
	want, wantFault := cut(s)
	got, fault := tokens.Cut(s)
	if fault != wantFault || !alike(got, want) {
		t.Fatalf("Cut(%.40q), %d bytes: %s, %v; want %s, %v", s, len(s), show(got), fault, show(want), wantFault)
	}
	return got, fault
}

// holdBack holds what follows (P14.4) against what Cut told of a text.
func holdBack(t *testing.T, s string, l [][]api.Token) {
	t.Helper()
	of := lines(s)
	if len(of) != len(l) {
		t.Fatalf("Cut(%.40q): %d lists, %d lines", s, len(l), len(of))
	}
	for n, words := range l {
		for _, w := range words {
			if w.Line != n || w.Text == "" || w.Col < 0 || w.Col > len(of[n]) || !strings.HasPrefix(of[n][w.Col:], w.Text) {
				t.Fatalf("Cut(%.40q): in the list %d stands %.40v", s, n, w)
			}
		}
	}
	text := tokens.Join(l)
	if text != joined(l) {
		t.Fatalf("Join of Cut(%.40q): %.40q; want %.40q", s, text, joined(l))
	}
	if len(text) > longestText {
		return // the last line's byte 10, which Join adds, is one byte too many for Cut
	}
	again, fault := tokens.Cut(text)
	if fault != (api.Fault{}) || !alikeTexts(again, l) {
		t.Fatalf("Cut(%.40q), which came of %.40q: %s, %v; want the texts of %s", text, s, show(again), fault, show(l))
	}
	if back := tokens.Join(again); back != text {
		t.Fatalf("%.40q becomes %.40q, then %.40q", s, text, back)
	}
}

// holdAll holds Cut, and what follows where it refuses nothing.
func holdAll(t *testing.T, s string) {
	t.Helper()
	if l, fault := hold(t, s); fault == (api.Fault{}) {
		holdBack(t, s, l)
	}
}

// scatter gives whole numbers all over the place, always the same ones.
func scatter(n int, seed uint64) []uint64 {
	var all []uint64
	for range n {
		seed ^= seed << 13
		seed ^= seed >> 7
		seed ^= seed << 17
		all = append(all, seed)
	}
	return all
}

// letters gives a word of so many bytes, no two places near each other alike.
func letters(n int) string {
	var b strings.Builder
	for i := range n {
		b.WriteByte("abcdefghijklmnopqrstuvwxyz0123456789"[i%36])
	}
	return b.String()
}

// The errors and limits are the document's.

func TestNumbers(t *testing.T) {
	if api.ErrByte != 240 || api.ErrLong != 3 || api.ErrQuantity != 150 || api.MaxText != longestText || api.MaxWord != longestWord {
		t.Error(api.ErrByte, api.ErrLong, api.ErrQuantity, api.MaxText, api.MaxWord)
	}
}

// P14.1

func TestCutOfExamples(t *testing.T) {
	for _, c := range []struct {
		text  string
		want  [][]api.Token
		fault api.Fault
	}{
		{text: "R1 a 0 4.7k * load", want: [][]api.Token{{{Text: "R1"}, {Text: "a", Col: 3}, {Text: "0", Col: 5}, {Text: "4.7k", Col: 7}}}},
		{text: "  \t \n* x\n; y\n\tC1  b", want: [][]api.Token{nil, nil, nil, {{Text: "C1", Line: 3, Col: 1}, {Text: "b", Line: 3, Col: 5}}}},
		{text: ""},
		{text: "\n", want: [][]api.Token{nil}},
		{text: "a\n", want: [][]api.Token{{{Text: "a"}}}},
		{text: "a\nb\x00", fault: api.Fault{Err: 240, At: 1}},
		{text: "a * \xc8", want: [][]api.Token{{{Text: "a"}}}},
		{text: letters(81), fault: api.Fault{Err: 3, At: 0}},
		{text: letters(80), want: [][]api.Token{{{Text: letters(80)}}}},
		{text: letters(80) + "\xc8", fault: api.Fault{Err: 240, At: 0}},
		{text: "a*b", want: [][]api.Token{{{Text: "a"}}}},
		{text: "a;b", want: [][]api.Token{{{Text: "a"}}}},
		{text: "a*b\nc", want: [][]api.Token{{{Text: "a"}}, {{Text: "c", Line: 1}}}},
		{text: "\n\n", want: [][]api.Token{nil, nil}},
		{text: "\n\n ", want: [][]api.Token{nil, nil, nil}},
		{text: "\n\na", want: [][]api.Token{nil, nil, {{Text: "a", Line: 2}}}},
		{text: "a\r\nb\r\n", want: [][]api.Token{{{Text: "a"}}, {{Text: "b", Line: 1}}}},
		{text: "a\tb\rc d", want: [][]api.Token{{{Text: "a"}, {Text: "b", Col: 2}, {Text: "c", Col: 4}, {Text: "d", Col: 6}}}},
		{text: "!~", want: [][]api.Token{{{Text: "!~"}}}},
		{text: "a\vb", fault: api.Fault{Err: 240, At: 0}},
		{text: "a\n\n\xc3\xa4", fault: api.Fault{Err: 240, At: 2}},
		{text: "a ;*;* b\n*;c\nd", want: [][]api.Token{{{Text: "a"}}, nil, {{Text: "d", Line: 2}}}},
	} {
		got, fault := tokens.Cut(c.text)
		if fault != c.fault || !alike(got, c.want) {
			t.Errorf("Cut(%.40q): %s, %v; want %s, %v", c.text, show(got), fault, show(c.want), c.fault)
		}
		holdAll(t, c.text)
	}
}

func TestCutOfEachByte(t *testing.T) {
	for b := range 256 {
		one := string([]byte{byte(b)})
		for _, s := range []string{
			one, one + one, "a" + one, one + "a", "a" + one + "b", "a " + one + " b", "\n" + one, one + "\n", "a\n\nb" + one + "c\nd",
			"*" + one, ";" + one, "a*" + one + "b", "a;" + one + "\nb", "*x\n" + one, " ;x" + one + one + "\n\n" + one + "a",
			letters(79) + one, letters(80) + one, letters(81) + one, letters(40) + one + letters(41), letters(80) + one + letters(80),
		} {
			holdAll(t, s)
		}
	}
}

func TestCutOfAllShortTexts(t *testing.T) {
	const bytes = "aZ~! \t\r\n*;\x00\x7f\xc8"
	var all func(s string, more int)
	all = func(s string, more int) {
		holdAll(t, s)
		if more == 0 {
			return
		}
		for i := range len(bytes) {
			all(s+bytes[i:i+1], more-1)
		}
	}
	all("", 4)
}

func TestCutOfLongWords(t *testing.T) {
	for n := 78; n <= 83; n++ {
		for _, ahead := range []string{"", " ", "a ", "\n", "a\nb ", "* x\n", "\t;\n\n", letters(80) + " ", letters(80) + "\n", letters(80) + "*\n"} {
			for _, behind := range []string{"", " ", "\t", "\r", "\n", "\r\n", "*", ";", "* x", ";\xc8", " a", "\na", "\x00", "\x7f", " \x00", "\n\x00", "\n" + letters(81), " " + letters(80)} {
				holdAll(t, ahead+letters(n)+behind)
			}
		}
	}
}

func TestCutCountsAWordByItself(t *testing.T) {
	for _, s := range []string{
		strings.Repeat(letters(80)+" ", 800),
		strings.Repeat(letters(80)+"\n", 800),
		strings.Repeat(letters(80)+"*", 800),
		letters(40) + " " + letters(40) + "\r" + letters(41) + "\t" + letters(80),
		letters(79) + "\n" + letters(80) + "\n" + letters(1),
		"*" + letters(500), ";" + letters(500), "a*" + letters(500) + "\n" + letters(80),
	} {
		if _, fault := hold(t, s); fault != (api.Fault{}) {
			t.Errorf("Cut(%.40q): %v", s, fault)
		}
		holdAll(t, s)
	}
}

// Two faults in one text: the one farther to the left is told, whichever it is and however many lines are between.
func TestCutTellsTheFirstFault(t *testing.T) {
	type piece struct {
		text string
		err  api.Errno
	}
	wrong := []piece{{"\x00", 240}, {"\x7f", 240}, {"\xff", 240}, {"a\x0bb", 240}, {letters(80) + "\x01", 240}, {letters(81), 3}, {letters(82) + "\x00", 3}, {letters(200), 3}}
	for _, first := range wrong {
		for _, second := range wrong {
			for between := range 3 {
				for ahead := range 3 {
					lead := strings.Repeat("a b\n", ahead)
					s := lead + first.text + " " + strings.Repeat("\n", between) + second.text
					want := api.Fault{Err: first.err, At: ahead}
					if l, fault := hold(t, s); fault != want || len(l) != 0 {
						t.Fatalf("Cut(%.40q): %v; want %v", s, fault, want)
					}
				}
			}
			// What stands in a remark is no fault, and hides none of the next line.
			s := "a *" + first.text + "\n" + second.text
			if _, fault := hold(t, s); fault != (api.Fault{Err: second.err, At: 1}) {
				t.Fatalf("Cut(%.40q): %v; want %v at 1", s, fault, second.err)
			}
		}
	}
}

func TestCutOfTheLongestTexts(t *testing.T) {
	for _, piece := range []string{"a", " ", "\n", "*", "\x00", "\xff", "a ", "a\n", "R1 a 0 1k\n", "* x\n", letters(80) + " ", letters(81) + "\n"} {
		whole := strings.Repeat(piece, longestText/len(piece)+2)
		for _, n := range []int{longestText - 1, longestText, longestText + 1, longestText + 2} {
			s := whole[:min(n, len(whole))]
			s += strings.Repeat(" ", n-len(s))
			_, fault := hold(t, s)
			if long := fault == (api.Fault{Err: api.ErrLong, At: -1}); long != (n > longestText) {
				t.Errorf("Cut(%.40q), %d bytes: %v", s, n, fault)
			}
		}
	}
	whole := strings.Repeat("a b\n", longestText/4)
	if l, fault := tokens.Cut(whole); fault != (api.Fault{}) || len(l) != longestText/4 {
		t.Errorf("%d lists, %v", len(l), fault)
	}
	if _, fault := tokens.Cut(strings.Repeat("x", 1<<22)); fault != (api.Fault{Err: api.ErrLong, At: -1}) {
		t.Error(fault)
	}
}

// minglings gives texts of pieces all over the place, some with a fault.
func minglings(n int, seed uint64) []string {
	pieces := []string{
		"R1", "a", "0", "4.7k", "C12", "x_y", "!", "~", letters(7), letters(80), " ", " ", " ", "  ", "\t", "\r", "\n", "\n", "\r\n", "* load", "; off", "*", ";", "*\x00\xc8", ";\xff",
	}
	wrong := []string{"\x00", "\x7f", "\xc8", letters(81), "\x0b"}
	var all []string
	for i, bits := range scatter(n, seed) {
		var b strings.Builder
		for _, more := range scatter(int(bits%60), bits|1) {
			b.WriteString(pieces[more%uint64(len(pieces))])
			if i%3 == 0 && more>>32%20 == 0 {
				b.WriteString(wrong[more>>40%uint64(len(wrong))])
			}
		}
		all = append(all, b.String())
	}
	return all
}

func TestCutOfMinglings(t *testing.T) {
	sound := 0
	for _, s := range minglings(6000, 41) {
		holdAll(t, s)
		if _, fault := tokens.Cut(s); fault == (api.Fault{}) {
			sound++
		}
	}
	if sound < 2000 || sound > 5500 {
		t.Errorf("%d of 6000 texts are sound: too few of one sort", sound)
	}
}

func TestCutOfAnyBytes(t *testing.T) {
	for _, bits := range scatter(3000, 14) {
		b := []byte{}
		for _, more := range scatter(int(bits%40), bits|1) {
			b = append(b, byte(more>>11))
		}
		holdAll(t, string(b))
	}
}

// P14.2

func TestJoinOfExamples(t *testing.T) {
	word := func(s string) api.Token { return api.Token{Text: s} }
	for _, c := range []struct {
		l    [][]api.Token
		want string
	}{
		{nil, ""},
		{[][]api.Token{}, ""},
		{[][]api.Token{nil}, "\n"},
		{[][]api.Token{{}, nil}, "\n\n"},
		{[][]api.Token{{word("a")}}, "a\n"},
		{[][]api.Token{{word("a"), word("b")}}, "a b\n"},
		{[][]api.Token{{word("a"), word("b")}, nil, {word("c")}}, "a b\n\nc\n"},
		{[][]api.Token{nil, {word("R1"), word("a"), word("0"), word("4.7k")}}, "\nR1 a 0 4.7k\n"},
		{[][]api.Token{{word("")}}, "\n"},
		{[][]api.Token{{word(""), word("")}}, " \n"},
		{[][]api.Token{{word(""), word("a"), word("")}}, " a \n"},
		{[][]api.Token{{word(" "), word(" ")}}, "   \n"},
		{[][]api.Token{{word("\n"), word("*")}, {word("\x00\xff")}}, "\n *\n\x00\xff\n"},
		{[][]api.Token{{word("ä"), word("; x")}}, "ä ; x\n"},
	} {
		if got := tokens.Join(c.l); got != c.want {
			t.Errorf("Join(%.40v): %q; want %q", c.l, got, c.want)
		}
	}
}

// Where words stand counts for nothing, nor how long or how many they are.
func TestJoinOfAnyLists(t *testing.T) {
	texts := []string{"", " ", "a", "R1", "\n", "*", ";", "\x00", "\xc8", "ä", "4.7k", letters(80), letters(81), letters(3000)}
	for _, bits := range scatter(400, 5) {
		var l [][]api.Token
		for _, more := range scatter(int(bits%7), bits|1) {
			var words []api.Token
			for _, w := range scatter(int(more%9), more|1) {
				words = append(words, api.Token{Text: texts[w%uint64(len(texts))], Line: int(w >> 8), Col: -int(w >> 16)})
			}
			l = append(l, words)
		}
		if got, want := tokens.Join(l), joined(l); got != want {
			t.Fatalf("Join(%s): %.40q; want %.40q", show(l), got, want)
		}
	}
	for _, t1 := range []api.Token{{Text: "a", Line: -1, Col: -1}, {Text: "a", Line: math.MaxInt, Col: math.MinInt}, {Text: "a", Line: 1, Col: 80}} {
		if got := tokens.Join([][]api.Token{{t1, t1}}); got != "a a\n" {
			t.Errorf("Join of %v, twice: %q", t1, got)
		}
	}
}

func TestJoinIsLongerThanATextMayBe(t *testing.T) {
	l := make([][]api.Token, 100000)
	l[99999] = []api.Token{{Text: letters(100000)}}
	if got := tokens.Join(l); got != strings.Repeat("\n", 99999)+letters(100000)+"\n" {
		t.Errorf("%d bytes", len(got))
	}
}

// P14.3

func TestNumberOfExamples(t *testing.T) {
	for _, c := range []struct {
		text  string
		want  float64
		fault api.Fault
	}{
		{"4.7k", 4700, api.Fault{}},
		{"x", 0, api.Fault{Err: 150, At: 0}},
		{"100n", 1e-07, api.Fault{}},
		{"-1", -1, api.Fault{}},
		{"0", 0, api.Fault{}},
		{"", 0, api.Fault{Err: 150, At: 0}},
		{"12x", 0, api.Fault{Err: 150, At: 2}},
		{" 1", 0, api.Fault{Err: 150, At: 0}},
		{"1 ", 0, api.Fault{Err: 150, At: 1}},
		{"1*", 0, api.Fault{Err: 150, At: 1}},
	} {
		for _, at := range []int{0, 3, -1, math.MaxInt} {
			got, fault := tokens.Number(api.Token{Text: c.text, Line: at, Col: -at})
			if got != c.want || fault != c.fault {
				t.Errorf("Number(%q): %v, %v; want %v, %v", c.text, got, fault, c.want, c.fault)
			}
		}
	}
}

func TestNumberIsWhatQuantityReads(t *testing.T) {
	texts := []string{"-0", "+5", "1e3", "1e400", "1e-400", "1e", ".5", "5.", "0x1", "NaN", "Inf", "1_0", "4k7", "1M", "1m", "1u", "2.5e3k", "\x00", "ä", "*", strings.Repeat("1", 64), strings.Repeat("1", 65), letters(80), letters(5000)}
	const bytes = "0159.+-eEkMmunpGTf x"
	for _, bits := range scatter(2000, 77) {
		s := ""
		for _, more := range scatter(int(bits%8), bits|1) {
			s += bytes[more%uint64(len(bytes)):][:1]
		}
		texts = append(texts, s)
	}
	read := 0
	for _, s := range texts {
		want, wantFault := quantity.Parse(s)
		got, fault := tokens.Number(api.Token{Text: s, Line: 1, Col: 2})
		if math.Float64bits(got) != math.Float64bits(want) || fault != wantFault {
			t.Errorf("Number(%.40q): %v, %v; want %v, %v", s, got, fault, want, wantFault)
		}
		if fault == (api.Fault{}) {
			read++
		}
	}
	if read < 50 {
		t.Errorf("%d of %d texts are quantities: too few", read, len(texts))
	}
}

// P14.4 (what follows of each text is held wherever Cut is; here is what follows of texts that are changed)

// Remarks and blanks change no text: lines of the same words, with other blanks and remarks, are cut into the same texts.
func TestRemarksAndBlanksChangeNoText(t *testing.T) {
	blanks := []string{" ", "  ", "\t", "\r", " \t\r ", strings.Repeat(" ", 90)}
	remarks := []string{"", "*", ";", "* x", ";;", "*\x00", "; \xc8 " + letters(90), " * a b", "\t;*"}
	for _, s := range minglings(1500, 7) {
		l, fault := tokens.Cut(s)
		if fault != (api.Fault{}) {
			continue
		}
		var b strings.Builder
		bits := scatter(1, uint64(len(s))+1)[0]
		pick := func(of []string) string {
			bits = scatter(1, bits)[0]
			return of[bits>>20%uint64(len(of))]
		}
		for n, words := range l {
			if n%2 == 0 {
				b.WriteString(pick(blanks))
			}
			for i, w := range words {
				if i > 0 {
					b.WriteString(pick(blanks))
				}
				b.WriteString(w.Text)
			}
			b.WriteString(pick(remarks) + "\n")
		}
		changed, fault := tokens.Cut(b.String())
		if fault != (api.Fault{}) || !alikeTexts(changed, l) {
			t.Fatalf("Cut(%.40q): %s; Cut(%.40q): %s, %v", s, show(l), b.String(), show(changed), fault)
		}
	}
}

// A text that is as long as may be, and lacks the last byte 10, is joined to one that is too long by it. P14.1 holds then.
func TestJoinOfTheLongestTextIsTooLongByAByte(t *testing.T) {
	s := strings.Repeat("a ", longestText/2-1) + "ab"
	l, fault := hold(t, s)
	if text := tokens.Join(l); fault != (api.Fault{}) || text != s+"\n" {
		t.Errorf("%d bytes, %v", len(text), fault)
	}
	if _, fault := tokens.Cut(s + "\n"); fault != (api.Fault{Err: api.ErrLong, At: -1}) {
		t.Error(fault)
	}
	holdBack(t, s[1:], func() [][]api.Token { l, _ := tokens.Cut(s[1:]); return l }())
}

// The rules of every layer.

func TestWithAFaultThereIsNoList(t *testing.T) {
	for _, s := range []string{"a\n\x00", letters(81), "a b\n" + letters(81), strings.Repeat("a\n", longestText)} {
		if l, fault := tokens.Cut(s); len(l) != 0 || fault == (api.Fault{}) {
			t.Errorf("Cut(%.40q): %s, %v", s, show(l), fault)
		}
	}
}

// spoil writes over lists, their spare room too.
func spoil(l [][]api.Token) {
	for _, words := range l[:cap(l)] {
		words = words[:cap(words)]
		for i := range words {
			words[i] = api.Token{Text: "spoilt", Line: -7, Col: -7}
		}
	}
	clear(l[:cap(l)])
}

func TestWhatIsHandedBackIsNew(t *testing.T) {
	const s = "R1 a 0 1k\n\nC1 b 0 1n * x\n \nd e\nf"
	want, _ := cut(s)
	first, _ := tokens.Cut(s)
	second, _ := tokens.Cut(s)
	spoil(first)
	if !alike(second, want) {
		t.Errorf("spoilt by another answer: %s", show(second))
	}
	if third, _ := tokens.Cut(s); !alike(third, want) {
		t.Errorf("spoilt by an answer before: %s", show(third))
	}
}

// No list of an answer lies in another one, its spare room neither.
func TestListsOfAnAnswerShareNothing(t *testing.T) {
	texts := append(minglings(60, 3), "a b c\nd e\n\nf", strings.Repeat("a\n", 50), strings.Repeat("a b c d e f g\n", 9))
	for _, s := range texts {
		want, fault := cut(s)
		if fault != (api.Fault{}) {
			continue
		}
		for n := range want {
			l, _ := tokens.Cut(s)
			spoil(l[n : n+1 : n+1])
			l[n] = slices.Clone(want[n])
			if !alike(l, want) {
				t.Fatalf("Cut(%.40q): the list %d lies in another one: %s", s, n, show(l))
			}
		}
	}
}

func TestListsHandedInAreNotChanged(t *testing.T) {
	room := []api.Token{{Text: "a"}, {Text: "b", Line: 4}, {Text: "spare", Line: 9, Col: 9}, {Text: "room"}}
	lists := [][]api.Token{room[:2], nil, room[1:3], {{Text: "spare list"}}}
	roomBefore, listsBefore := slices.Clone(room), [][]api.Token{slices.Clone(room[:2]), nil, slices.Clone(room[1:3]), {{Text: "spare list"}}}
	if got := tokens.Join(lists[:3]); got != "a b\n\nb spare\n" {
		t.Errorf("%q", got)
	}
	if !slices.Equal(room, roomBefore) || !alike(lists, listsBefore) {
		t.Errorf("changed: %v, %v", room, lists)
	}
}

func TestWhatWasJoinedIsNotLookedAtLater(t *testing.T) {
	l := [][]api.Token{{{Text: "a"}, {Text: "b"}}}
	text := tokens.Join(l)
	l[0][0].Text, l[0] = "x", nil
	if text != "a b\n" {
		t.Errorf("%q", text)
	}
}

func TestCallsAreCalmAndTellTheSame(t *testing.T) {
	texts := append(minglings(300, 23), "", "\n", strings.Repeat("\n", longestText), strings.Repeat("*", longestText+1))
	var wait sync.WaitGroup
	for range 4 {
		wait.Go(func() {
			for _, s := range texts {
				want, wantFault := cut(s)
				for range 2 {
					got, fault := tokens.Cut(s)
					if fault != wantFault || !alike(got, want) {
						t.Errorf("Cut(%.40q): %s, %v", s, show(got), fault)
					}
					if tokens.Join(got) != tokens.Join(want) {
						t.Errorf("Join(%s)", show(got))
					}
				}
			}
		})
	}
	wait.Wait()
}
