package quantity

import (
	"math"
	"math/bits"
)

const (
	signBit      = 1 << 63
	fractionBits = 52                // what a float's bits hold of its whole number
	leadingBit   = 1 << fractionBits // what they leave out, unless it is subnormal
	wholeBits    = fractionBits + 1
	infinity     = 0x7ff << fractionBits
	leastUnit    = -1074 // a float is a whole number times two to a power: the least of these
	farthest     = 400   // of digits that fit a text, times ten to this power, there is no float; divided by that, it is 0
)

// nearest gives the bits of the float of a whole number times ten to a power. Where there is none, they are not below those of an infinity.
func nearest(w whole, power int) uint64 {
	if len(w) == 0 {
		return 0
	}
	r := ratio{rest: w, one: whole{1}}
	if power = min(max(power, -farthest), farthest); power < 0 {
		r.one = r.one.timesTens(-power)
	} else {
		r.rest = r.rest.timesTens(power)
	}
	unit := r.belowOne() - wholeBits
	var fraction uint64
	for range wholeBits {
		fraction = 2*fraction + r.next(2)
	}
	if r.roundsUp(fraction) {
		fraction++
	}
	// The leading bit, added, makes the power that the bits hold one greater, as it should be; so does a carry out of the rounding.
	return uint64(unit-leastUnit)<<fractionBits + fraction
}

// belowOne divides a ratio that is above 0 by the least power of two above it (but by none that would make the unit less than the least), and gives that power.
func (r *ratio) belowOne() int {
	power := max(r.rest.length()-r.one.length(), leastUnit+wholeBits)
	if power < 0 {
		r.rest = r.rest.timesTwos(-power)
	} else {
		r.one = r.one.timesTwos(power)
	}
	if r.rest.compare(r.one) >= 0 {
		r.one = r.one.times(2, 0)
		power++
	}
	return power
}

// span is a float above 0, and how far below it and above it a number may lie whose float it is: not so far, or just so far too, if ends is set. Below and above stand over one, as rest does.
type span struct {
	ratio
	below, above whole
	ends         bool
}

// spanOf gives a float's span, all of it divided by ten to the power that is given too, so that the float's first digit stands just behind the point.
func spanOf(x float64) (span, int) {
	w, unit := apart(x)
	s := span{
		ratio: ratio{rest: whole{w}.times(4, 0), one: whole{1}},
		below: whole{2},
		above: whole{2},
		ends:  w%2 == 0,
	}
	if w == leadingBit && unit > leastUnit {
		s.below = whole{1} // the floats below a power of two lie half as far apart
	}
	// It is counted in quarters of the unit.
	if quarter := unit - 2; quarter < 0 {
		s.one = s.one.timesTwos(-quarter)
	} else {
		s.each(func(w whole) whole { return w.timesTwos(quarter) })
	}
	// The first guess, from the float's power of two, is never above the power that is sought.
	power := (unit + bits.Len64(w) - 1) * 30103 / 100000
	if power < 0 {
		s.each(func(w whole) whole { return w.timesTens(-power) })
	} else {
		s.one = s.one.timesTens(power)
	}
	for s.rest.compare(s.one) >= 0 {
		s.one = s.one.times(10, 0)
		power++
	}
	return s, power
}

// apart gives the whole number, and the power of two, that a float's size is the product of.
func apart(x float64) (uint64, int) {
	size := math.Float64bits(x) &^ signBit
	fraction, field := size%leadingBit, int(size>>fractionBits)
	if field == 0 {
		return fraction, leastUnit
	}
	return fraction + leadingBit, leastUnit + field - 1
}

// each changes all that stands over one.
func (s *span) each(change func(whole) whole) {
	s.rest, s.below, s.above = change(s.rest), change(s.below), change(s.above)
}

// shortest gives the fewest digits of which the float is the float, as a whole number, and how many there were ahead of rounding.
func (s *span) shortest() (uint64, int) {
	var digits uint64
	for n := 1; ; n++ {
		digits = 10*digits + s.next(10)
		s.below, s.above = s.below.times(10, 0), s.above.times(10, 0)
		if s.roundsUp(digits) {
			if s.reaches(s.lack(), s.above) {
				return digits + 1, n
			}
		} else if s.reaches(s.rest, s.below) {
			return digits, n
		}
	}
}

// reaches tells whether what lies so far away has the float as its float.
func (s *span) reaches(away, limit whole) bool {
	c := away.compare(limit)
	return c < 0 || c == 0 && s.ends
}
