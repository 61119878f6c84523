package quantity

const exponentDigits = 4 // of an exponent, at most

// reader goes through a text byte by byte. Where it stops, the next byte can't stand, or the text ends.
type reader struct {
	text string
	at   int
}

// take goes over a byte, if it is the next one.
func (r *reader) take(c byte) bool {
	if r.at == len(r.text) || r.text[r.at] != c {
		return false
	}
	r.at++
	return true
}

// digit goes over a digit, if one is next, and gives it.
func (r *reader) digit() (uint64, bool) {
	if r.at == len(r.text) || r.text[r.at] < '0' || r.text[r.at] > '9' {
		return 0, false
	}
	r.at++
	return uint64(r.text[r.at-1] - '0'), true
}

// digits goes over all digits that are next, lays them behind those of a whole number, and tells how many there were.
func (r *reader) digits(w whole) (whole, int) {
	from := r.at
	for {
		d, ok := r.digit()
		if !ok {
			return w, r.at - from
		}
		w = w.times(10, d)
	}
}

// decimal reads all behind the sign: digits, as a whole number, and the power of ten that they are to be taken times. It tells whether nothing is wanting.
func (r *reader) decimal() (whole, int, bool) {
	w, ahead := r.digits(nil)
	behind := 0
	if r.take('.') {
		w, behind = r.digits(w)
	}
	if ahead+behind == 0 {
		return nil, 0, false
	}
	exponent, ok := r.exponent()
	if !ok {
		return nil, 0, false
	}
	return w, exponent + r.prefix() - behind, true
}

// exponent reads an exponent, if there is one: without one it is 0. It tells whether nothing is wanting.
func (r *reader) exponent() (int, bool) {
	if !r.take('e') && !r.take('E') {
		return 0, true
	}
	below := r.take('-')
	if !below {
		r.take('+')
	}
	power, from := 0, r.at
	for r.at < from+exponentDigits {
		d, ok := r.digit()
		if !ok {
			break
		}
		power = 10*power + int(d)
	}
	if below {
		power = -power
	}
	return power, r.at > from
}

// prefix goes over a prefix, if one is next, and gives what it stands for: without one that is 0.
func (r *reader) prefix() int {
	if r.at == len(r.text) {
		return 0
	}
	power, ok := Prefix(r.text[r.at])
	if ok {
		r.at++
	}
	return power
}
