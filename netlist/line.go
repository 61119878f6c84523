package netlist

import (
	"strconv"
	"strings"

	"gridwork/api"
	"gridwork/quantity"
	"gridwork/value"
)

// line is what the lines of a kind have.
type line struct {
	least int // words that stand in it, at the least
	most  int
	read  func(words []string) (api.Element, api.Errno) // the element, but for its kind, of as many words as may be
	write func(e api.Element) []string                  // its words
}

// lines tells the line of each kind.
func lines() map[api.Kind]line {
	two := line{least: 4, most: 4, read: readTwo, write: writeTwo}
	source := line{least: 4, most: 5, read: readSource, write: writeSource}
	four := line{least: 6, most: 6, read: readFour, write: writeFour}
	return map[api.Kind]line{
		api.Resistor:  two,
		api.Coil:      two,
		api.Capacitor: two,
		api.Port:      two,
		api.Current:   source,
		api.Voltage:   source,
		api.Transfer:  four,
		api.Amplifier: four,
	}
}

// read reads an element out of a line's words, of which there is at least one.
func read(kinds map[api.Kind]line, words []string) (api.Element, api.Errno) {
	kind, ok := value.Of(words[0][0])
	if !ok {
		return api.Element{}, api.ErrName
	}
	has := kinds[kind]
	if len(words) < has.least || len(words) > has.most {
		return api.Element{}, api.ErrShape
	}
	e, err := has.read(words)
	e.Kind = kind
	return e, err
}

func readTwo(words []string) (api.Element, api.Errno) {
	x, f := quantity.Parse(words[3])
	return api.Element{Name: words[0], A: words[1], B: words[2], Value: x}, f.Err
}

func readSource(words []string) (api.Element, api.Errno) {
	e, err := readTwo(words)
	if err != api.OK || len(words) == 4 {
		return e, err
	}
	steps, ok := phase(words[4])
	if !ok {
		return e, api.ErrArg
	}
	e.Phase = steps
	return e, api.OK
}

func readFour(words []string) (api.Element, api.Errno) {
	x, f := quantity.Parse(words[5])
	return api.Element{Name: words[0], A: words[1], B: words[2], C: words[3], D: words[4], Value: x}, f.Err
}

func writeTwo(e api.Element) []string {
	return []string{e.Name, e.A, e.B, number(e.Value)}
}

func writeSource(e api.Element) []string {
	words := writeTwo(e)
	if e.Phase != 0 {
		words = append(words, strconv.Itoa(e.Phase))
	}
	return words
}

func writeFour(e api.Element) []string {
	return []string{e.Name, e.A, e.B, e.C, e.D, number(e.Value)}
}

// number writes an element's value, which is finite.
func number(x float64) string {
	s, _ := quantity.Print(x)
	return s
}

// phase reads a whole number of steps. Only one text of each may stand: the one by which it is printed.
func phase(s string) (int, bool) {
	steps, err := strconv.Atoi(s)
	return steps, err == nil && strconv.Itoa(steps) == s
}

// texts gives the texts of tokens, as copies, so that no net keeps the whole text that it was read from.
func texts(words []api.Token) []string {
	l := make([]string, len(words))
	for i, t := range words {
		l[i] = strings.Clone(t.Text)
	}
	return l
}
