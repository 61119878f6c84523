package quantity_test

import (
	"math"
	"math/big"
	"regexp"
	"sort"
	"strconv"
	"strings"
	"testing"

	"gridwork/api"
	"gridwork/quantity"
)

const (
	least    = 0x1p-1074
	normal   = 0x1p-1022
	greatest = math.MaxFloat64
	prefixes = "fpnumkMGT"
)

var (
	inf     = math.Inf(1)
	nan     = math.NaN()
	minus0  = math.Copysign(0, -1)
	loudNaN = math.Float64frombits(0xfff0000000000001)

	long = api.Fault{Err: api.ErrLong, At: -1}
	over = api.Fault{Err: api.ErrOver, At: -1}

	// grammar is the document's 'a quantity's text', in groups: sign, digits with their point, exponent, prefix.
	grammar = regexp.MustCompile(`\A(-?)([0-9]+|[0-9]+\.[0-9]*|[0-9]*\.[0-9]+)(?:[eE]([-+]?[0-9]{1,4}))?([fpnumkMGT]?)\z`)

	noFloat = new(big.Rat).SetInt(new(big.Int).Sub(power(2, 1024), power(2, 970)))
)

func wrongAt(at int) api.Fault { return api.Fault{Err: api.ErrQuantity, At: at} }

// alike is the document's 'the same', of finite reals.
func alike(a, b float64) bool { return math.Float64bits(a) == math.Float64bits(b) }

// power gives a whole number to a power, exactly.
func power(base, n int64) *big.Int {
	return new(big.Int).Exp(big.NewInt(base), big.NewInt(n), nil)
}

// tens gives ten to a power of either sign, exactly.
func tens(n int) *big.Rat {
	if n < 0 {
		return new(big.Rat).SetFrac(big.NewInt(1), power(10, int64(-n)))
	}
	return new(big.Rat).SetInt(power(10, int64(n)))
}

// exactly gives a real as a fraction; of an infinity the number that would follow the greatest real.
func exactly(x float64) *big.Rat {
	if math.IsInf(x, 0) {
		r := new(big.Rat).SetInt(power(2, 1024))
		if x < 0 {
			r.Neg(r)
		}
		return r
	}
	return new(big.Rat).SetFloat64(x)
}

// prefixPower tells what a prefix, or none, stands for: by its place among them.
func prefixPower(s string) int {
	if s == "" {
		return 0
	}
	at := strings.Index(prefixes, s)
	if at < 5 {
		return 3*at - 15
	}
	return 3*at - 12
}

// says gives what a text says, exactly, and whether it is below 0 (or -0); false, if it is no quantity's.
func says(s string) (v *big.Rat, below, ok bool) {
	m := grammar.FindStringSubmatch(s)
	if m == nil {
		return nil, false, false
	}
	ahead, behind, _ := strings.Cut(m[2], ".")
	digits, _ := new(big.Int).SetString("0"+ahead+behind, 10)
	exp, _ := strconv.Atoi(m[3])
	v = new(big.Rat).SetInt(digits)
	v.Mul(v, tens(exp+prefixPower(m[4])-len(behind)))
	if m[1] == "-" {
		v.Neg(v)
	}
	return v, m[1] == "-", true
}

// wrongPlace gives the place of the first byte with which no quantity's text can begin; the length, where there is none. (What can be ended, a nought ends.)
func wrongPlace(s string) int {
	for i := range len(s) {
		if begun := s[:i+1]; !grammar.MatchString(begun) && !grammar.MatchString(begun+"0") {
			return i
		}
	}
	return len(s)
}

// isFloat tells, by the document's words alone, whether x (finite, with the number's sign) is the float of a number.
func isFloat(x float64, v *big.Rat) bool {
	away := func(y float64) *big.Rat {
		d := exactly(y)
		return d.Abs(d.Sub(d, v))
	}
	own := away(x)
	for _, side := range []float64{inf, -inf} {
		switch own.Cmp(away(math.Nextafter(x, side))) {
		case 1:
			return false
		case 0:
			if math.Float64bits(x)&1 == 1 {
				return false
			}
		}
	}
	return true
}

// holdParse asks Parse of a text, and holds what it answers against the document's words.
func holdParse(t *testing.T, s string) {
	t.Helper()
	if len(s) > 64 {
		wantFault(t, s, long)
		return
	}
	x, f := quantity.Parse(s)
	v, below, ok := says(s)
	want := api.Fault{}
	switch {
	case !ok:
		want = wrongAt(wrongPlace(s))
	case new(big.Rat).Abs(v).Cmp(noFloat) >= 0:
		want = over
	}
	if f != want {
		t.Fatalf("Parse(%q): fault %v, not %v", s, f, want)
	}
	if f != (api.Fault{}) {
		if !alike(x, 0) {
			t.Fatalf("Parse(%q): %v beside a fault", s, x)
		}
		return
	}
	if math.IsInf(x, 0) || math.IsNaN(x) || math.Signbit(x) != below || !isFloat(x, v) {
		t.Fatalf("Parse(%q): %v", s, x)
	}
}

// wantParse asks Parse of a text that has a float.
func wantParse(t *testing.T, s string, want float64) {
	t.Helper()
	if x, f := quantity.Parse(s); !alike(x, want) || f != (api.Fault{}) {
		t.Errorf("Parse(%q): %v %v, not %v", s, x, f, want)
	}
}

// wantFault asks Parse of a text that is refused.
func wantFault(t *testing.T, s string, want api.Fault) {
	t.Helper()
	if x, f := quantity.Parse(s); !alike(x, 0) || f != want {
		t.Errorf("Parse(%q): %v %v, not %v", s, x, f, want)
	}
}

// scatter gives words of all bits, always the same ones.
func scatter(n int, seed uint64) []uint64 {
	var all []uint64
	for range n {
		seed ^= seed << 13
		seed ^= seed >> 7
		seed ^= seed << 17
		all = append(all, seed)
	}
	return all
}

// reals are finite ones above 0: all powers of two and their neighbours, the ends of the subnormal ones, powers of ten, decimals, such whose digits end in a 5 behind 17 of them, and some of all bits.
func reals() []float64 {
	all := []float64{3 * least, 5 * least, 6 * least, 7 * least, 10 * least, 1<<51*least + least, greatest, 0.3, 2.0 / 3, 9.5, 99.5, 999.9, 12345678, 123456789012345678}
	for k := -1074; k <= 1023; k++ {
		x := math.Ldexp(1, k)
		all = append(all, x, math.Nextafter(x, inf))
		if k > -1074 {
			all = append(all, math.Nextafter(x, 0))
		}
	}
	for k := -323; k <= 308; k++ {
		for _, digits := range []string{"1", "9.5"} {
			if x, err := strconv.ParseFloat(digits+"e"+strconv.Itoa(k), 64); err == nil {
				all = append(all, x, math.Nextafter(x, 0))
			}
		}
	}
	for i := range 40 {
		all = append(all, 1125899906842624.25+float64(i)/2, 140737488355328.03125+float64(i)/16)
	}
	for i, bits := range scatter(1500, 7) {
		x := math.Abs(math.Float64frombits(bits))
		if i%5 == 0 {
			x = math.Float64frombits(bits >> (12 + bits%52)) // subnormal, of all lengths
		}
		if x > 0 && x <= greatest {
			all = append(all, x)
		}
	}
	return all
}

// P5.1: what ordinary texts say.

func TestParse(t *testing.T) {
	for s, want := range map[string]float64{
		"0": 0, "1": 1, "-1": -1, "007": 7, "10": 10, "65536": 65536, "0.5": 0.5, ".5": 0.5, "-.5": -0.5, "5.": 5, "-5.": -5, "00.50": 0.5,
		"4.7k": 4700, "4.k": 4000, ".4k": 400, "100n": 1e-7, "-2.5e3": -2500, "2.E3": 2000, ".2e1": 2, "2e+3": 2000, "2e-3": 0.002, "1e3k": 1e6, "1e-3k": 1, "1E-3m": 1e-6,
		"0.1": 0.1, "0.3": 0.3, "2.675": 2.675, "9007199254740993": 9007199254740992, "9007199254740995": 9007199254740996, "9007199254740992.9": 9007199254740992,
	} {
		wantParse(t, s, want)
		holdParse(t, s)
	}
}

func TestParsePoints(t *testing.T) {
	for _, sign := range []string{"", "-"} {
		for _, tail := range []string{"", "e1", "E-1", "k", "e+1k"} {
			for _, good := range []string{"1", "1.", ".1", "1.1", "0.", ".0", "123456789.987654321"} {
				holdParse(t, sign+good+tail)
				if _, f := quantity.Parse(sign + good + tail); f != (api.Fault{}) {
					t.Error(sign+good+tail, f)
				}
			}
			wantFault(t, sign+"."+tail, wrongAt(len(sign)+1))
			wantFault(t, sign+tail, wrongAt(len(sign)))
		}
	}
}

func TestParseExponents(t *testing.T) {
	for _, c := range []struct {
		exp  string
		want float64
	}{{"0", 3}, {"5", 3e5}, {"05", 3e5}, {"005", 3e5}, {"0005", 3e5}, {"0012", 3e12}, {"0123", 3e123}, {"+5", 3e5}, {"+0005", 3e5}, {"-5", 3e-5}, {"-05", 3e-5}, {"-0300", 3e-300}, {"-9999", 0}, {"-1000", 0}, {"-0", 3}, {"+0", 3}, {"300", 3e300}} {
		for _, e := range []string{"e", "E"} {
			wantParse(t, "3"+e+c.exp, c.want)
			wantParse(t, "-3"+e+c.exp, -c.want)
		}
	}
	for s, at := range map[string]int{"3e00000": 6, "3e12345": 6, "3e00001": 6, "3e-00005": 7, "3E+12345": 7, "3e1234567": 6, "3.5e99999": 8, "3e5e5": 3, "3e5.": 3, "3e--5": 3, "3e+-5": 3, "3e5-": 3, "3ee5": 2, "3eE5": 2} {
		wantFault(t, s, wrongAt(at))
	}
	for _, s := range []string{"3e309", "3e9999", "-3e9999", "3e1000", "3e9999f", "0.0000000001e0400"} {
		wantFault(t, s, over)
	}
	// The digits may undo what the exponent does.
	wantParse(t, "0."+strings.Repeat("0", 40)+"1e41", 1)
	wantParse(t, "0."+strings.Repeat("0", 49)+"1e0358", 1e308)
	wantParse(t, "1"+strings.Repeat("0", 50)+"e-50", 1)
	wantParse(t, "1"+strings.Repeat("0", 57)+"e-381", 0)
	wantParse(t, "3"+strings.Repeat("0", 57)+"e-381", least)
	wantParse(t, "3"+strings.Repeat("0", 55)+"e-382m", 0)
}

func TestParsePrefixes(t *testing.T) {
	for i := range len(prefixes) {
		letter := prefixes[i : i+1]
		whole := strconv.Itoa(prefixPower(letter))
		for _, s := range []string{"1", "-7", "2.5", ".3", "9.", "4.7", "1.7976931348623157"} {
			want, err := strconv.ParseFloat(s+"e"+whole, 64)
			if err != nil {
				t.Fatal(err)
			}
			wantParse(t, s+letter, want)
			for _, exp := range []int{-9, -1, 0, 2, 30, -310} {
				want, _ := strconv.ParseFloat(s+"e"+strconv.Itoa(exp+prefixPower(letter)), 64)
				wantParse(t, s+"e"+strconv.Itoa(exp)+letter, want)
			}
		}
		wantFault(t, letter, wrongAt(0))
		wantFault(t, "-"+letter, wrongAt(1))
		wantFault(t, "1"+letter+"7", wrongAt(2))
		wantFault(t, "1"+letter+letter, wrongAt(2))
		wantFault(t, "1"+letter+"e1", wrongAt(2))
		wantFault(t, "1"+letter+".", wrongAt(2))
		wantFault(t, "1e"+letter, wrongAt(2))
		wantFault(t, "1e-"+letter, wrongAt(3))
	}
	wantParse(t, "1e296T", 1e308)
	wantFault(t, "1e297T", over)
	wantParse(t, "1e323f", 1e308)
	wantFault(t, "1e324f", over)
	wantParse(t, "1e-335T", 1e-323)
	wantParse(t, "1e-336T", 0)
}

// P5.1: where a text is wrong.

func TestParseTooEarly(t *testing.T) {
	for _, s := range []string{"", "-", ".", "-.", "1e", "1E", "-1e", "1.e", ".1e", "1.5E", "1e-", "1e+", "1E-", "-1.5E+"} {
		wantFault(t, s, wrongAt(len(s)))
		holdParse(t, s)
		wantParse(t, s+"0", mustFloat(t, s+"0"))
	}
}

// mustFloat reads a text without a prefix by the library.
func mustFloat(t *testing.T, s string) float64 {
	t.Helper()
	x, err := strconv.ParseFloat(s, 64)
	if err != nil {
		t.Fatal(err)
	}
	return x
}

func TestParseWrongByte(t *testing.T) {
	for s, at := range map[string]int{
		"+1": 0, " 1": 0, "1 ": 1, "1\n": 1, "1\x00": 1, "--1": 1, "-+1": 1, "- 1": 1, "1-": 1, "1+1": 1, "..": 1, ".-1": 1, "1..": 2, "1.2.": 3, ".5.": 2, "1,5": 1, "1_0": 1, "0x10": 1,
		"x": 0, "Inf": 0, "inf": 0, "-Inf": 1, "NaN": 0, "nan": 0, "e5": 0, "-e5": 1, ".e5": 1, "k": 0, "1K": 1, "1\u00b5": 1, "1\u03a9": 1, "\u0661": 0, "1kOhm": 2, "1km": 2, "1.5kk": 4, "1e5x": 3, "1e5kx": 4, "1p5": 2, "1P": 1, "1g": 1, "1t": 1, "1U": 1, "1N": 1, "1F": 1,
	} {
		wantFault(t, s, wrongAt(at))
		holdParse(t, s)
	}
}

// All texts of up to 5 bytes out of those that tell apart what may follow.
func TestParseAllShort(t *testing.T) {
	var each func(s string)
	each = func(s string) {
		holdParse(t, s)
		if len(s) == 5 {
			return
		}
		for _, c := range "-+.07eEkx" {
			each(s + string(c))
		}
	}
	each("")
}

// Every byte, behind every beginning that tells apart what may follow, and with a digit behind it.
func TestParseEveryByte(t *testing.T) {
	for _, s := range []string{"", "-", "7", "-7", ".", "-.", "7.", ".7", "7.7", "7e", "7E", "7e-", "7e+", "7e1", "7e-1", "7e12", "7e123", "7e1234", "7k", "7.m", "7e1f", "7e1234T"} {
		for c := range 256 {
			holdParse(t, s+string([]byte{byte(c)}))
			holdParse(t, s+string([]byte{byte(c), '7'}))
		}
	}
}

func TestParseLength(t *testing.T) {
	noughts := strings.Repeat("0", 80)
	nines := strings.Repeat("9", 80)
	wantParse(t, noughts[:64], 0)
	wantParse(t, noughts[:63]+"1", 1)
	wantParse(t, "-"+noughts[:63], minus0)
	wantParse(t, nines[:64], 1e64)
	wantParse(t, "."+nines[:63], 1)
	wantParse(t, nines[:63]+".", 1e63)
	wantParse(t, nines[:63]+"k", 1e66)
	wantParse(t, "-0."+noughts[:54]+"1e+0060", -1e5)
	wantParse(t, "1."+noughts[:55]+"e-0005T", 1e7)
	wantFault(t, nines[:62]+"kk", wrongAt(63))
	wantFault(t, nines[:63]+"x", wrongAt(63))
	wantFault(t, nines[:63]+"e", wrongAt(64))
	wantFault(t, nines[:62]+"e-", wrongAt(64))
	wantFault(t, nines[:58]+"e12345", wrongAt(63))
	wantFault(t, nines[:60]+"e999", over)
	wantFault(t, "x"+nines[:63], wrongAt(0))
	for _, s := range []string{noughts[:65], nines[:65], "x" + nines[:64], nines[:64] + "x", nines[:64] + "k", nines[:64] + "e", nines[:60] + "e9999", strings.Repeat(" ", 65), strings.Repeat("-", 70), noughts + nines, strings.Repeat("1", 1<<20)} {
		wantFault(t, s, long)
		holdParse(t, s)
	}
}

// P5.1: the nearest float.

// decimals gives a number above 0 as a text of at most so many digits, cut off, and whether nothing was cut off; and the text that follows it in its last digit.
func decimals(v *big.Rat, most int) (cut string, whole bool, next string) {
	exp := 0
	for v.Cmp(tens(exp)) < 0 {
		exp--
	}
	for v.Cmp(tens(exp+1)) >= 0 {
		exp++
	}
	r := new(big.Rat).Mul(v, tens(most-1-exp))
	digits := new(big.Int).Quo(r.Num(), r.Denom())
	whole = r.IsInt()
	cut = digits.String() + "e" + strconv.Itoa(exp-most+1)
	next = digits.Add(digits, big.NewInt(1)).String() + "e" + strconv.Itoa(exp-most+1)
	return cut, whole, next
}

// before gives the text that comes just ahead of a text of digits with an exponent.
func before(s string) string {
	digits, exp, _ := strings.Cut(s, "e")
	n, _ := new(big.Int).SetString(digits, 10)
	return n.Sub(n, big.NewInt(1)).String() + "e" + exp
}

// lowBit tells whether the last bit of a real is set.
func lowBit(x float64) bool { return math.Float64bits(x)&1 == 1 }

// Of two floats next to each other the middle, where it can be written, is read as that whose last bit is 0; what is a digit below it as the lower, what is above it as the upper one.
func TestParseMiddles(t *testing.T) {
	just, near := 0, 0
	for _, x := range reals() {
		y := math.Nextafter(x, inf)
		if math.IsInf(y, 0) {
			continue
		}
		middle := exactly(x)
		middle.Add(middle, exactly(y))
		middle.Mul(middle, big.NewRat(1, 2))
		cut, whole, next := decimals(middle, 58)
		if whole {
			just++
			want := x
			if lowBit(x) {
				want = y
			}
			wantParse(t, cut, want)
			wantParse(t, "-"+cut, -want)
			wantParse(t, before(cut), x)
		} else {
			near++
			wantParse(t, cut, x)
			wantParse(t, "-"+cut, -x)
		}
		wantParse(t, next, y)
	}
	if just < 500 || near < 500 {
		t.Error("too few middles", just, near)
	}
}

func TestParseMiddlesByHand(t *testing.T) {
	for s, want := range map[string]float64{
		"9007199254740993": 9007199254740992, "9007199254740993.00000000000000000000000000000000000000000001": 9007199254740994, "9007199254740992.9999999999999999999999999999999999999": 9007199254740992,
		"9007199254740995": 9007199254740996, "9007199254740994.999999999": 9007199254740994, "9007.199254740995T": 9007199254740996, "90071992547409.93e2": 9007199254740992,
		"1.00000000000000011102230246251565404236316680908203125": 1, "1.000000000000000111022302462515654042363166809082031251": 1 + 0x1p-52, "1.00000000000000011102230246251565404236316680908203124": 1,
		"1.00000000000000033306690738754696212708950042724609375": 1 + 0x1p-51, "1.00000000000000033306690738754696212708950042724609374": 1 + 0x1p-52,
		"0.99999999999999994448884876874217297881841659545898437500": 1, "0.999999999999999944488848768742172978818416595458984374": 1 - 0x1p-53,
	} {
		wantParse(t, s, want)
		wantParse(t, "-"+s, -want)
	}
}

func TestParseLeast(t *testing.T) {
	half := exactly(least)
	half.Mul(half, big.NewRat(1, 2))
	cut, _, next := decimals(half, 56)
	wantParse(t, cut, 0)
	wantParse(t, "-"+cut, minus0)
	wantParse(t, next, least)
	wantParse(t, "-"+next, -least)
	for s, want := range map[string]float64{
		"2.4703282292062327e-324": 0, "2.4703282292062328e-324": least, "4.94e-324": least, "5e-324": least, "7.4109846876186981e-324": least, "7.4109846876186982e-324": 2 * least,
		"2.2250738585072014e-308": normal, "2.2250738585072011e-308": normal - least, "2.2250738585072012e-308": normal, "2.225073858507201136e-308": normal - least, "2.225073858507201137e-308": normal,
		"1e-323": 2 * least, "1e-324": 0, "1e-400": 0, "1e-9999": 0, "-1e-9999f": minus0, "1e-309f": 0, "5e-309f": least, "3e-309f": least, "2e-309f": 0, "0.0005e-320": least,
	} {
		wantParse(t, s, want)
	}
}

func TestParseGreatest(t *testing.T) {
	cut, _, next := decimals(noFloat, 58)
	wantParse(t, cut, greatest)
	wantParse(t, "-"+cut, -greatest)
	wantFault(t, next, over)
	wantFault(t, "-"+next, over)
	for _, s := range []string{"1.7976931348623157e308", "1.797693134862315807e308", "179769313486231580793.7e288", "1.7976931348623157e296T", "17976931348623158e292"} {
		wantParse(t, s, greatest)
		wantParse(t, "-"+s, -greatest)
	}
	wantParse(t, "1.7976931348623155e308", math.Nextafter(greatest, 0))
	for _, s := range []string{"1.797693134862315808e308", "1.7976931348623159e308", "1.8e308", "2e308", "1e309", "1e310", "1e400", "1e401", "1e1000", "1e9999", "9e9999T", "1e297T", "1e308k", "17976931348623159e292", strings.Repeat("9", 59) + "e250", "0.00001e0314"} {
		wantFault(t, s, over)
		wantFault(t, "-"+s, over)
	}
}

func TestParseNoughts(t *testing.T) {
	for _, s := range []string{"0", "00", "0.", ".0", "0.0", "0k", "0f", "0T", "0e0", "0e9999", "0e-9999", "0.000e9999T", ".0E-9999f", "0.0000000000000000000000000000000000000000000000000000000e308"} {
		wantParse(t, s, 0)
		wantParse(t, "-"+s, minus0)
	}
}

// Texts of all forms, of all lengths, of all sizes.
func TestParseScatter(t *testing.T) {
	words := scatter(60000, 99)
	for len(words) >= 10 {
		n := int(words[0] % 50)
		digits := ""
		for i := range n {
			digits += string('0' + byte(words[1+i/16]>>(4*(i%16))%10))
		}
		if words[5]%3 != 0 {
			at := int(words[6] % uint64(n+1))
			digits = digits[:at] + "." + digits[at:]
		}
		if words[5]%5 == 0 {
			digits = "-" + digits
		}
		if words[7]%4 != 0 {
			digits += "e" + strconv.Itoa(int(words[8]%720)-360)
		}
		if at := int(words[9] % 20); at < len(prefixes) {
			digits += prefixes[at : at+1]
		}
		holdParse(t, digits)
		words = words[10:]
	}
}

// P5.2

func TestPrefix(t *testing.T) {
	want := map[byte]int{'f': -15, 'p': -12, 'n': -9, 'u': -6, 'm': -3, 'k': 3, 'M': 6, 'G': 9, 'T': 12}
	for c := range 256 {
		n, ok := quantity.Prefix(byte(c))
		power, there := want[byte(c)]
		if n != power || ok != there {
			t.Errorf("Prefix(%q): %v %v", byte(c), n, ok)
		}
	}
}

// P5.3

// nDigits gives, by the document's words, the n digits of a real above 0 as a whole number, and the power of ten that it is times.
func nDigits(x float64, n int) (*big.Int, int) {
	v := exactly(x)
	exp := int(math.Floor(math.Log10(x))) - 1
	for v.Cmp(tens(exp+1)) >= 0 {
		exp++
	}
	unit := exp - n + 1
	v.Mul(v, tens(-unit))
	d, rest := new(big.Int).QuoRem(v.Num(), v.Denom(), new(big.Int))
	switch rest.Lsh(rest, 1).Cmp(v.Denom()) {
	case 1:
		d.Add(d, big.NewInt(1))
	case 0:
		if d.Bit(0) == 1 {
			d.Add(d, big.NewInt(1))
		}
	}
	return d, unit
}

// shortOf gives the short digits of a real above 0, and the power of ten of the first, by the document's words.
func shortOf(x float64) (string, int) {
	for n := 1; ; n++ {
		d, unit := nDigits(x, n)
		v := new(big.Rat).SetInt(d)
		if v.Mul(v, tens(unit)); v.Cmp(noFloat) < 0 && isFloat(x, v) {
			all := d.String()
			return strings.TrimRight(all, "0"), unit + len(all) - 1
		}
	}
}

func wantShort(t *testing.T, x float64, digits string, exp int) {
	t.Helper()
	if d, n, e := quantity.Short(x); d != digits || n != exp || e != api.OK {
		t.Errorf("Short(%v): %q %v %v, not %q %v", x, d, n, e, digits, exp)
	}
}

// Of each what Print tells is held besides (P5.4).
func TestShortAndPrint(t *testing.T) {
	for _, x := range reals() {
		digits, exp := shortOf(x)
		wantShort(t, x, digits, exp)
		wantShort(t, -x, digits, exp)
		wantPrint(t, x, printed(digits, exp))
		wantPrint(t, -x, "-"+printed(digits, exp))
	}
}

func TestShortByHand(t *testing.T) {
	for _, c := range []struct {
		x      float64
		digits string
		exp    int
	}{
		{1, "1", 0}, {10, "1", 1}, {4700, "47", 3}, {100, "1", 2}, {1e22, "1", 22}, {1e23, "1", 23}, {0.1, "1", -1}, {0.3, "3", -1}, {9, "9", 0}, {99, "99", 1}, {999.9, "9999", 2}, {1.05, "105", 0}, {100200, "1002", 5},
		// these want 17 digits
		{math.Nextafter(1, 2), "10000000000000002", 0}, {math.Nextafter(0.3, 1), "30000000000000004", -1}, {normal, "22250738585072014", -308}, {greatest, "17976931348623157", 308}, {1.7976931348623155e308, "17976931348623155", 308},
		// and here the digit behind them is a 5, and the last one
		{1125899906842624.25, "11258999068426242", 15}, {1125899906842624.75, "11258999068426248", 15}, {1125899906842625.25, "11258999068426252", 15}, {1125899906842625.75, "11258999068426258", 15},
		// the nearest of 16 digits lies too far below a power of two, though one above it would do
		{0x1p-44, "56843418860808015", -14}, {-0x1p-44, "56843418860808015", -14},
		{least, "5", -324}, {2 * least, "1", -323}, {3 * least, "15", -323}, {4 * least, "2", -323}, {9007199254740993, "9007199254740992", 15}, {5e-320, "5", -320},
	} {
		wantShort(t, c.x, c.digits, c.exp)
		digits, exp := shortOf(math.Abs(c.x))
		if digits != c.digits || exp != c.exp {
			t.Error("by the document's words", c.x, digits, exp)
		}
	}
}

func TestShortNoughts(t *testing.T) {
	wantShort(t, 0, "0", 0)
	wantShort(t, minus0, "0", 0)
}

func TestNotFinite(t *testing.T) {
	for _, x := range []float64{inf, -inf, nan, -nan, loudNaN} {
		if d, n, e := quantity.Short(x); d != "" || n != 0 || e != api.ErrNumber {
			t.Errorf("Short(%v): %q %v %v", x, d, n, e)
		}
		if s, e := quantity.Print(x); s != "" || e != api.ErrNumber {
			t.Errorf("Print(%v): %q %v", x, s, e)
		}
	}
}

// The digits of many more reals, by the library: the first n of which it reads the real again.
func TestShortScatter(t *testing.T) {
	for _, bits := range scatter(40000, 12345) {
		x := math.Abs(math.Float64frombits(bits))
		if !(x > 0 && x <= greatest) {
			continue
		}
		text := ""
		for n := 0; ; n++ {
			text = strconv.FormatFloat(x, 'e', n, 64)
			if y, _ := strconv.ParseFloat(text, 64); y == x { // an infinity, where it is too great
				break
			}
		}
		digits, exp, _ := strings.Cut(text, "e")
		digits = strings.TrimRight(strings.Replace(digits, ".", "", 1), "0")
		wantShort(t, x, digits, int(mustFloat(t, exp)))
	}
}

// P5.4

func wantPrint(t *testing.T, x float64, want string) {
	t.Helper()
	if s, e := quantity.Print(x); s != want || e != api.OK {
		t.Errorf("Print(%v): %q %v, not %q", x, s, e, want)
	}
}

// printed tells a text of digits and their power of ten, as the document says it, digit by digit.
func printed(digits string, exp int) string {
	ahead, tail := 1, "e"+strconv.Itoa(exp)
	if exp >= -15 && exp <= 14 {
		k := 3 * int(math.Floor(float64(exp)/3))
		ahead, tail = exp-k+1, ""
		for i := range len(prefixes) {
			if prefixPower(prefixes[i:i+1]) == k {
				tail = prefixes[i : i+1]
			}
		}
	}
	s := ""
	for i := range max(ahead, len(digits)) {
		if i == ahead {
			s += "."
		}
		if i < len(digits) {
			s += digits[i : i+1]
		} else {
			s += "0"
		}
	}
	return s + tail
}

// The texts of one digit, of 2, of 3 and of 4, at each power from -16 to 15.
func TestPrintPowers(t *testing.T) {
	texts := []string{
		"7e-16 7.2e-16 7.25e-16 7.259e-16",
		"7f 7.2f 7.25f 7.259f", "70f 72f 72.5f 72.59f", "700f 720f 725f 725.9f",
		"7p 7.2p 7.25p 7.259p", "70p 72p 72.5p 72.59p", "700p 720p 725p 725.9p",
		"7n 7.2n 7.25n 7.259n", "70n 72n 72.5n 72.59n", "700n 720n 725n 725.9n",
		"7u 7.2u 7.25u 7.259u", "70u 72u 72.5u 72.59u", "700u 720u 725u 725.9u",
		"7m 7.2m 7.25m 7.259m", "70m 72m 72.5m 72.59m", "700m 720m 725m 725.9m",
		"7 7.2 7.25 7.259", "70 72 72.5 72.59", "700 720 725 725.9",
		"7k 7.2k 7.25k 7.259k", "70k 72k 72.5k 72.59k", "700k 720k 725k 725.9k",
		"7M 7.2M 7.25M 7.259M", "70M 72M 72.5M 72.59M", "700M 720M 725M 725.9M",
		"7G 7.2G 7.25G 7.259G", "70G 72G 72.5G 72.59G", "700G 720G 725G 725.9G",
		"7T 7.2T 7.25T 7.259T", "70T 72T 72.5T 72.59T", "700T 720T 725T 725.9T",
		"7e15 7.2e15 7.25e15 7.259e15",
	}
	digits := []string{"7", "7.2", "7.25", "7.259"}
	for i, line := range texts {
		for j, want := range strings.Fields(line) {
			x := mustFloat(t, digits[j]+"e"+strconv.Itoa(i-16))
			wantPrint(t, x, want)
			wantPrint(t, -x, "-"+want)
		}
	}
}

func TestPrintByHand(t *testing.T) {
	for want, x := range map[string]float64{
		"0": 0, "-0": minus0, "1": 1, "-1": -1, "4.7k": 4700, "12.345678M": 12345678, "999.9": 999.9, "1k": 1000, "100m": 0.1, "300.00000000000004m": math.Nextafter(0.3, 1), "999.9999999999999T": math.Nextafter(1e15, 0),
		"1e15": 1e15, "1f": 1e-15, "9.999999999999999e-16": 9.999999999999999e-16, "5e-324": least, "-5e-324": -least, "2.2250738585072014e-308": normal, "1.7976931348623157e308": greatest, "1e100": 1e100, "-2.5e-20": -2.5e-20, "1.125899906842624e15": 0x1p50, "1e23": 1e23, "56.843418860808015f": 0x1p-44,
	} {
		wantPrint(t, x, want)
	}
}

// P5.5

func TestThereAndBack(t *testing.T) {
	all := reals()
	for _, bits := range scatter(15000, 31337) {
		if x := math.Float64frombits(bits); x == x && math.Abs(x) <= greatest {
			all = append(all, x)
		}
		if bits%3 == 0 {
			all = append(all, math.Float64frombits(bits>>(bits%64)&(1<<52-1))) // subnormal
		}
	}
	all = append(all, 0)
	for _, x := range all {
		for _, x := range []float64{x, -x} {
			s, e := quantity.Print(x)
			if e != api.OK {
				t.Fatal(x, e)
			}
			y, f := quantity.Parse(s)
			if f != (api.Fault{}) || !alike(x, y) {
				t.Fatalf("%v is printed as %q, read as %v %v", x, s, y, f)
			}
			if again, _ := quantity.Print(y); again != s {
				t.Fatalf("%q is printed again as %q", s, again)
			}
			if d, _, _ := quantity.Short(x); len(d) > 17 || len(d) > 1 && d[len(d)-1] == '0' {
				t.Fatalf("%v: %q", x, d)
			}
		}
	}
}

func TestParseRises(t *testing.T) {
	type said struct {
		text string
		v    *big.Rat
	}
	var all []said
	words := scatter(6000, 5)
	for i, bits := range words {
		digits := strconv.FormatUint(bits, 10)
		s := digits[:1+int(bits%uint64(len(digits)))]
		switch i % 4 {
		case 0: // all of about the same size, in the last digits alone unlike
			s = "9007199254740" + strconv.Itoa(990+int(bits%9)) + "." + s
		case 1: // subnormal
			s += "e-" + strconv.Itoa(310+int(bits%30))
		case 2: // near the greatest
			s = "179769313486231" + strconv.FormatUint(bits%10000, 10) + "." + s + "e290k"
		case 3:
			s += "e" + strconv.Itoa(int(bits%600)-320) + prefixes[bits%9:bits%9+1]
		}
		if bits>>32%2 == 0 {
			s = "-" + s
		}
		v, _, ok := says(s)
		if !ok {
			t.Fatal(s)
		}
		all = append(all, said{s, v})
	}
	sort.Slice(all, func(i, j int) bool { return all[i].v.Cmp(all[j].v) < 0 })
	last, lastText := -inf, ""
	for _, a := range all {
		x, f := quantity.Parse(a.text)
		switch {
		case f == over && a.v.Sign() < 0:
			x = -inf
		case f == over:
			x = inf
		case f != (api.Fault{}):
			t.Fatal(a.text, f)
		}
		if x < last {
			t.Fatalf("%s is read as %v, %s as %v", lastText, last, a.text, x)
		}
		last, lastText = x, a.text
	}
}

// The chapter's examples.

func TestExamples(t *testing.T) {
	for s, want := range map[string]float64{"4.7k": 4700, "100n": 1e-07, "-2.5e3": -2500, ".5": 0.5, "5.": 5, "1e3k": 1e+06, "0.1": 0.1, "-0": minus0, "1e-400": 0} {
		wantParse(t, s, want)
	}
	for s, at := range map[string]int{"": 0, "-": 1, ".": 1, "1e": 2, "1x": 1, "4k7": 2, "1e12345": 6, "+1": 0, " 1": 0} {
		wantFault(t, s, wrongAt(at))
	}
	wantFault(t, "1e309", over)
	wantFault(t, "1e999", over)
	wantFault(t, strings.Repeat("1", 65), long)
	for want, x := range map[string]float64{"4.7k": 4700, "100n": 1e-07, "100m": 0.1, "1M": 1e6, "999.9": 999.9, "-0": minus0, "1e15": 1e15, "5e-324": 5e-324, "12.345678M": 12345678} {
		wantPrint(t, x, want)
	}
	if s, e := quantity.Print(nan); s != "" || e != api.ErrNumber {
		t.Error(s, e)
	}
	if d, n, e := quantity.Short(inf); d != "" || n != 0 || e != api.ErrNumber {
		t.Error(d, n, e)
	}
	wantShort(t, 4700, "47", 3)
	wantShort(t, 0.1, "1", -1)
	if n, ok := quantity.Prefix('u'); n != -6 || !ok {
		t.Error(n, ok)
	}
	if n, ok := quantity.Prefix('K'); n != 0 || ok {
		t.Error(n, ok)
	}
}

// P1: every call ends, none panics, and what is answered once is answered again.

func TestCalm(t *testing.T) {
	const bytes = "0123456789....-+eEfpnumkMGTx \x00\xff"
	words := scatter(20000, 2)
	for i, bits := range words {
		var text []byte
		for j := range i % 70 {
			w := words[(i+j/8)%len(words)] >> (8 * (j % 8))
			if bits%7 == 0 {
				text = append(text, byte(w))
			} else {
				text = append(text, bytes[int(w&0xff)%len(bytes)])
			}
		}
		holdParse(t, string(text))
		x, f := quantity.Parse(string(text))
		y, g := quantity.Parse(string(text))
		if !alike(x, y) || f != g {
			t.Fatalf("%q: %v %v, then %v %v", text, x, f, y, g)
		}
		z := math.Float64frombits(bits)
		s, e := quantity.Print(z)
		again, e2 := quantity.Print(z)
		if s != again || e != e2 {
			t.Fatal(z, s, e, again, e2)
		}
	}
}
