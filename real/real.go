// Package real is layer 1: floats, their neighbours, sums and products with their errors: see shared/doc/01-real.md.
package real

import "math"

const (
	signBit      = 1 << 63
	fractionBits = 52
	fractionMask = 1<<fractionBits - 1
	powerMask    = 0x7ff
	lastPlace    = powerMask << fractionBits
)

// Kinds of reals, as Kind tells them.
const (
	nought = iota
	subnormal
	normal
	infinite
	notANumber
)

// Same tells whether two reals are the same.
func Same(a, b float64) bool {
	if a != a || b != b {
		return a != a && b != b
	}
	return math.Float64bits(a) == math.Float64bits(b)
}

// Kind tells what kind of real it is.
func Kind(x float64) int {
	if x != x {
		return notANumber
	}
	bits := math.Float64bits(x)
	power, fraction := bits>>fractionBits&powerMask, bits&fractionMask
	switch {
	case power == powerMask:
		return infinite
	case power != 0:
		return normal
	case fraction != 0:
		return subnormal
	}
	return nought
}

// Place gives a real's place.
func Place(x float64) (int64, bool) {
	if x != x {
		return 0, false
	}
	bits := math.Float64bits(x)
	size := int64(bits &^ signBit)
	if bits&signBit != 0 {
		return -size, true
	}
	return size, true
}

// At gives the real at a place.
func At(place int64) (float64, bool) {
	if place < -lastPlace || place > lastPlace {
		return 0, false
	}
	if place < 0 {
		return math.Float64frombits(uint64(-place) | signBit), true
	}
	return math.Float64frombits(uint64(place)), true
}

// Next gives the real next to one.
func Next(x float64, up bool) float64 {
	place, ok := Place(x)
	if !ok {
		return x
	}
	if up {
		place++
	} else {
		place--
	}
	next, ok := At(place)
	if !ok { // beyond an infinity there is none
		return x
	}
	return next
}

// TwoSum gives a sum and its error.
func TwoSum(a, b float64) (float64, float64) {
	// Where this is laid into its caller, a product handed in could be joined to the sum: the conversions keep it apart.
	a, b = float64(a), float64(b)
	s := a + b
	t := s - a
	return s, (a - (s - t)) + (b - t)
}

// TwoProd gives a product and its error.
func TwoProd(a, b float64) (float64, float64) {
	p := float64(a * b)
	return p, math.FMA(a, b, -p)
}

// Sum gives the sum of a list.
func Sum(l []float64) float64 {
	s := 0.0
	for _, x := range l {
		s += x
	}
	return s
}

// SumErr gives the sum of a list, and each addition's error.
func SumErr(l []float64) (float64, []float64) {
	s := 0.0
	errs := make([]float64, len(l))
	for i, x := range l {
		s, errs[i] = TwoSum(s, x)
	}
	return s, errs
}

// Greatest gives the place of the greatest number, and the number.
func Greatest(l []float64) (int, float64) {
	at, greatest := -1, 0.0
	for i, x := range l {
		if x == x && (at < 0 || x > greatest) {
			at, greatest = i, x
		}
	}
	return at, greatest
}
