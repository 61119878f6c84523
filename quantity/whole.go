package quantity

import (
	"cmp"
	"math/bits"
	"slices"
)

const (
	wordBits   = 64
	wordOfTens = 10_000_000_000_000_000_000 // the greatest power of ten that a word holds
	tensOfWord = 19
)

// whole is a whole number of any size: words, the lowest first, the last of them not 0; nought has none. What times, timesTens, timesTwos and minus are called on is used up by them: its words become the answer's.
type whole []uint64

// times gives a whole number times a word, and a word more.
func (w whole) times(factor, more uint64) whole {
	for i, word := range w {
		high, low := bits.Mul64(word, factor)
		low, carry := bits.Add64(low, more, 0)
		w[i], more = low, high+carry
	}
	if more != 0 {
		w = append(w, more)
	}
	return w
}

// timesTens gives a whole number times ten to the power n, n not below 0.
func (w whole) timesTens(n int) whole {
	for ; n >= tensOfWord; n -= tensOfWord {
		w = w.times(wordOfTens, 0)
	}
	for ; n > 0; n-- {
		w = w.times(10, 0)
	}
	return w
}

// timesTwos gives a whole number other than nought times two to the power n, n not below 0.
func (w whole) timesTwos(n int) whole {
	return append(make(whole, n/wordBits), w.times(1<<(n%wordBits), 0)...)
}

// minus gives a whole number less one that is not above it.
func (w whole) minus(v whole) whole {
	var borrow uint64
	for i := range w {
		var word uint64
		if i < len(v) {
			word = v[i]
		}
		w[i], borrow = bits.Sub64(w[i], word, borrow)
	}
	for len(w) > 0 && w[len(w)-1] == 0 {
		w = w[:len(w)-1]
	}
	return w
}

// compare tells whether a whole number is below (-1), equal to (0) or above another (1).
func (w whole) compare(v whole) int {
	if len(w) != len(v) {
		return cmp.Compare(len(w), len(v))
	}
	for i := len(w) - 1; i >= 0; i-- {
		if w[i] != v[i] {
			return cmp.Compare(w[i], v[i])
		}
	}
	return 0
}

// length tells how many bits a whole number other than nought has.
func (w whole) length() int {
	last := len(w) - 1
	return last*wordBits + bits.Len64(w[last])
}

// ratio is a number from 0 on: rest over one. Its digits are asked for, and it is rounded, where it is below 1.
type ratio struct {
	rest, one whole
}

// next takes the first digit behind the point off a ratio, to a base, and gives it.
func (r *ratio) next(base uint64) uint64 {
	var digit uint64
	r.rest = r.rest.times(base, 0)
	for r.rest.compare(r.one) >= 0 {
		r.rest = r.rest.minus(r.one)
		digit++
	}
	return digit
}

// lack gives what is wanting to 1, over the same one.
func (r *ratio) lack() whole {
	return slices.Clone(r.one).minus(r.rest)
}

// roundsUp tells whether 1 is nearer than 0, or as near, the digit ahead being odd.
func (r *ratio) roundsUp(digit uint64) bool {
	switch r.rest.compare(r.lack()) {
	case 1:
		return true
	case 0:
		return digit%2 == 1
	}
	return false
}
