package admit_test

import (
	"fmt"
	"math"
	"math/big"
	"strings"
	"sync"
	"testing"

	"gridwork/admit"
	"gridwork/api"
	"gridwork/parts"
	"gridwork/value"
)

const (
	least    = 0x1p-1074
	normal   = 0x1p-1022
	greatest = math.MaxFloat64
)

var (
	inf     = math.Inf(1)
	nan     = math.NaN()
	minus0  = math.Copysign(0, -1)
	loudNaN = math.Float64frombits(0xfff0000000000001)
	turn    = math.Float64frombits(0x401921fb54442d18)
)

// call is one of the three that take an element.
type call struct {
	name string
	ask  func(e api.Element, omega float64) (complex128, api.Errno)
	want func(e api.Element, omega float64) (complex128, api.Errno)
}

// calls are the three, each with what the document's words come to.
func calls() []call {
	return []call{
		{"Of", admit.Of, wantOf},
		{"Impedance", admit.Impedance, wantImpedance},
		{"Conjugate", admit.Conjugate, wantConjugate},
	}
}

// exact is a finite real as a fraction.
func exact(x float64) *big.Rat { return new(big.Rat).SetFloat64(x) }

// rounded is the real nearest to a fraction above 0, by whole numbers alone: the fraction's whole part in units of its last place, and what is left over held against a half.
func rounded(f *big.Rat) float64 {
	if f.Sign() == 0 {
		return 0
	}
	power := f.Num().BitLen() - f.Denom().BitLen() // 2^(power-1) < f < 2^(power+1)
	last := power - 53
	if new(big.Rat).Quo(f, powerOfTwo(power)).Cmp(exact(1)) >= 0 {
		last++
	}
	last = max(last, -1074)
	scaled := new(big.Rat).Quo(f, powerOfTwo(last))
	whole, left := new(big.Int).QuoRem(scaled.Num(), scaled.Denom(), new(big.Int))
	switch new(big.Int).Lsh(left, 1).Cmp(scaled.Denom()) {
	case 1:
		whole.Add(whole, big.NewInt(1))
	case 0:
		whole.Add(whole, big.NewInt(int64(whole.Bit(0))))
	}
	if whole.BitLen()+last > 1024 {
		return inf
	}
	return math.Ldexp(float64(whole.Uint64()), last)
}

func powerOfTwo(n int) *big.Rat {
	p := new(big.Rat).SetInt(new(big.Int).Lsh(big.NewInt(1), uint(max(n, -n))))
	if n < 0 {
		p.Inv(p)
	}
	return p
}

// times and over are the operations on finite reals above 0 (over: or by a nought), rounded once.
func times(a, b float64) float64 {
	return rounded(new(big.Rat).Mul(exact(a), exact(b)))
}

func over(a, b float64) float64 {
	if b == 0 {
		return inf
	}
	return rounded(new(big.Rat).Quo(exact(a), exact(b)))
}

func finite(x float64) bool { return !math.IsNaN(x) && !math.IsInf(x, 0) }

// refused is what P17.1 says ahead of all reckoning.
func refused(e api.Element, omega float64) api.Errno {
	if !finite(omega) {
		return api.ErrNumber
	}
	if !(omega > 0) {
		return api.ErrArg
	}
	if err := value.Check(e); err != api.OK {
		return err
	}
	if e.Kind != api.Resistor && e.Kind != api.Port && e.Kind != api.Coil && e.Kind != api.Capacitor {
		return api.ErrArg
	}
	return api.OK
}

// im is (+0, omega Value) or, turned about, (+0, -(1 / (omega Value))).
func im(omega, v float64, about bool) (complex128, api.Errno) {
	p := times(omega, v)
	if !finite(p) {
		return 0, api.ErrOver
	}
	if !about {
		return complex(0, p), api.OK
	}
	q := over(1, p)
	if !finite(q) {
		return 0, api.ErrOver
	}
	return complex(0, math.Copysign(q, -1)), api.OK
}

func wantOf(e api.Element, omega float64) (complex128, api.Errno) {
	if err := refused(e, omega); err != api.OK {
		return 0, err
	}
	if e.Kind == api.Coil || e.Kind == api.Capacitor {
		return im(omega, e.Value, e.Kind == api.Coil)
	}
	g := over(1, e.Value)
	if !finite(g) {
		return 0, api.ErrOver
	}
	return complex(g, 0), api.OK
}

func wantImpedance(e api.Element, omega float64) (complex128, api.Errno) {
	if err := refused(e, omega); err != api.OK {
		return 0, err
	}
	if e.Kind == api.Coil || e.Kind == api.Capacitor {
		return im(omega, e.Value, e.Kind == api.Capacitor)
	}
	return complex(e.Value, 0), api.OK
}

func wantConjugate(e api.Element, omega float64) (complex128, api.Errno) {
	y, err := wantOf(e, omega)
	if err != api.OK {
		return 0, err
	}
	return complex(real(y), math.Float64frombits(math.Float64bits(imag(y))^1<<63)), api.OK
}

// same tells whether two numbers have the same bits.
func same(a, b complex128) bool {
	return math.Float64bits(real(a)) == math.Float64bits(real(b)) && math.Float64bits(imag(a)) == math.Float64bits(imag(b))
}

// element is one that may be, but for its Value.
func element(k api.Kind, v float64) api.Element {
	e := api.Element{Kind: k, Name: string(rune(value.Letter(k))) + "1", A: "a", B: "0", Value: v}
	if k == api.Transfer || k == api.Amplifier {
		e.C, e.D = "b", "0"
	}
	return e
}

// with is an element that was changed.
func with(e api.Element, change func(e *api.Element)) api.Element {
	change(&e)
	return e
}

// admitted are the four kinds that have an admittance, others those that have none.
func admitted() []api.Kind {
	return []api.Kind{api.Resistor, api.Port, api.Coil, api.Capacitor}
}

func others() []api.Kind {
	return []api.Kind{api.Current, api.Voltage, api.Transfer, api.Amplifier}
}

func show(e api.Element) string {
	return fmt.Sprintf("{%d %q %q %q %q %q %v %d}", e.Kind, e.Name, e.A, e.B, e.C, e.D, e.Value, e.Phase)
}

// hold asks all three of an element, and holds what they answer against the document's words.
func hold(t *testing.T, e api.Element, omega float64) {
	t.Helper()
	for _, c := range calls() {
		z, err := c.ask(e, omega)
		want, bad := c.want(e, omega)
		if err != bad || !same(z, want) {
			t.Fatalf("%s(%s, %v): %v %d, not %v %d", c.name, show(e), omega, z, err, want, bad)
		}
	}
}

// scatter gives whole numbers of 64 bits, always the same ones.
func scatter(n int, seed uint64) []uint64 {
	var all []uint64
	for range n {
		seed ^= seed << 13
		seed ^= seed >> 7
		seed ^= seed << 17
		all = append(all, seed)
	}
	return all
}

// above are reals above 0: ordinary ones, the least and the greatest, those beside powers of two.
func above() []float64 {
	all := []float64{1, 2, 3, 0.1, 0.5, 4, 7, 10, 50, 60, 47e3, 100e-9, 4.7e-6, 1e-3, 314.1592653589793, turn, 1e200, 1e-200, 1e154, 1e-154, 1e308, 1e-308, 5e-324, 1.5e308}
	for _, p := range []int{-1074, -1073, -1072, -1060, -1030, -1025, -1024, -1023, -1022, -1021, -600, -538, -537, -52, -3, -2, -1, 0, 1, 2, 51, 511, 512, 513, 600, 1020, 1021, 1022, 1023} {
		x := math.Ldexp(1, p)
		all = append(all, x, math.Nextafter(x, inf))
		if below := math.Nextafter(x, 0); below > 0 {
			all = append(all, below)
		}
	}
	return append(all, greatest)
}

// notAbove are finite reals that are not above 0, notFinite those that are not finite.
func notAbove() []float64 {
	return []float64{0, minus0, -1, -0.5, -least, -normal, -greatest}
}

func notFinite() []float64 { return []float64{inf, -inf, nan, loudNaN} }

// The oracle's own rounding is held against what the processor reckons, and against ties that are known.
func TestRoundingOfTheOracle(t *testing.T) {
	for _, a := range above() {
		for _, b := range above() {
			if got, want := times(a, b), float64(a*b); got != want {
				t.Fatalf("%v times %v: %v, not %v", a, b, got, want)
			}
			if got, want := over(a, b), float64(a/b); got != want {
				t.Fatalf("%v over %v: %v, not %v", a, b, got, want)
			}
		}
	}
	for _, c := range []struct{ a, b, want float64 }{
		{least, 0.5, 0}, {3 * least, 0.5, 2 * least}, {least, 0.75, least}, {greatest, 1 + 0x1p-52, inf}, {1 + 0x1p-52, 1.5, 1.5 + 0x1p-51},
	} {
		if got := times(c.a, c.b); got != c.want {
			t.Errorf("%v times %v: %v, not %v", c.a, c.b, got, c.want)
		}
	}
}

// The examples of the chapter.

func TestExamplesOfElements(t *testing.T) {
	for _, c := range []struct {
		k       api.Kind
		v       float64
		y, z, j complex128
	}{
		{api.Resistor, 4, complex(0.25, 0), complex(4, 0), complex(0.25, minus0)},
		{api.Coil, 2, complex(0, -0.25), complex(0, 4), complex(0, 0.25)},
		{api.Capacitor, 0.5, complex(0, 1), complex(0, -1), complex(0, -1)},
		{api.Port, 4, complex(0.25, 0), complex(4, 0), complex(0.25, minus0)},
	} {
		e := element(c.k, c.v)
		if y, err := admit.Of(e, 2); err != api.OK || !same(y, c.y) {
			t.Errorf("Of(%s, 2): %v %d", show(e), y, err)
		}
		if z, err := admit.Impedance(e, 2); err != api.OK || !same(z, c.z) {
			t.Errorf("Impedance(%s, 2): %v %d", show(e), z, err)
		}
		if j, err := admit.Conjugate(e, 2); err != api.OK || !same(j, c.j) {
			t.Errorf("Conjugate(%s, 2): %v %d", show(e), j, err)
		}
	}
}

func TestExamplesOfErrors(t *testing.T) {
	for _, c := range []struct {
		k     api.Kind
		v     float64
		omega float64
		want  api.Errno
	}{
		{api.Resistor, 5e-324, 1, api.ErrOver}, {api.Coil, 5e-324, 0.1, api.ErrOver}, {api.Capacitor, 5e-324, 0.1, api.OK},
		{api.Current, 1, 1, api.ErrArg}, {api.Resistor, 1, 0, api.ErrArg}, {api.Resistor, 1, -1, api.ErrArg}, {api.Resistor, 1, nan, api.ErrNumber},
	} {
		if y, err := admit.Of(element(c.k, c.v), c.omega); err != c.want || !same(y, 0) {
			t.Errorf("Of(%s, %v): %v %d", show(element(c.k, c.v)), c.omega, y, err)
		}
	}
}

func TestExamplesOfFrequencies(t *testing.T) {
	omega, err := admit.Omega(50)
	if err != api.OK || omega != 314.1592653589793 {
		t.Errorf("Omega(50): %v %d", omega, err)
	}
	if hertz, err := admit.Hertz(omega); err != api.OK || hertz != 50 {
		t.Errorf("Hertz of that: %v %d", hertz, err)
	}
}

// P17.1: what is refused, and what of it first.

func TestOmegaIsRefusedFirst(t *testing.T) {
	elements := []api.Element{
		{}, {Kind: 9, Name: "R1", A: "a", B: "0", Value: 1}, element(api.Resistor, nan), element(api.Resistor, -1), element(api.Resistor, least), element(api.Coil, inf), element(api.Current, inf), element(api.Voltage, 1),
		{Kind: api.Resistor, Name: "x", A: "a", B: "0", Value: 1}, element(api.Resistor, 1), element(api.Coil, 1), element(api.Capacitor, 1), element(api.Port, 1),
	}
	for _, c := range calls() {
		for _, e := range elements {
			for _, omega := range notFinite() {
				if z, err := c.ask(e, omega); err != api.ErrNumber || !same(z, 0) {
					t.Errorf("%s(%s, %v): %v %d", c.name, show(e), omega, z, err)
				}
			}
			for _, omega := range notAbove() {
				if z, err := c.ask(e, omega); err != api.ErrArg || !same(z, 0) {
					t.Errorf("%s(%s, %v): %v %d", c.name, show(e), omega, z, err)
				}
			}
		}
	}
}

// faulty are changes that make of an element one that may not be, each with what value.Check tells of it.
func faulty() []struct {
	change func(e *api.Element)
	want   api.Errno
} {
	return []struct {
		change func(e *api.Element)
		want   api.Errno
	}{
		{func(e *api.Element) { e.Kind = 0 }, api.ErrArg},
		{func(e *api.Element) { e.Kind = 9 }, api.ErrArg},
		{func(e *api.Element) { e.Name = "" }, api.ErrName},
		{func(e *api.Element) { e.Name = "Q1" }, api.ErrName},
		{func(e *api.Element) { e.Name = strings.ToLower(e.Name) }, api.ErrName},
		{func(e *api.Element) { e.A = "A" }, api.ErrName},
		{func(e *api.Element) { e.B = "" }, api.ErrName},
		{func(e *api.Element) { e.Name, e.Value = "x", nan }, api.ErrName},
		{func(e *api.Element) { e.B = e.A }, api.ErrArg},
		{func(e *api.Element) { e.B, e.Value = e.A, inf }, api.ErrArg},
		{func(e *api.Element) { e.Value = nan }, api.ErrNumber},
		{func(e *api.Element) { e.Value = loudNaN }, api.ErrNumber},
		{func(e *api.Element) { e.Value = inf }, api.ErrNumber},
		{func(e *api.Element) { e.Value = -inf }, api.ErrNumber},
	}
}

// Of an element that may not be its own error is told, also where its kind has no admittance, and whatever would be over.
func TestElementsThatMayNotBe(t *testing.T) {
	for _, c := range calls() {
		for _, k := range append(admitted(), others()...) {
			for i, f := range faulty() {
				e := with(element(k, least), f.change)
				for _, omega := range []float64{least, 0.1, 1, greatest} {
					if z, err := c.ask(e, omega); err != f.want || !same(z, 0) {
						t.Errorf("%s(%s, %v), changed by %d: %v %d, not %d", c.name, show(e), omega, i, z, err, f.want)
					}
				}
			}
		}
	}
}

func TestFieldsThatAKindDoesNotUse(t *testing.T) {
	for _, c := range calls() {
		for _, k := range admitted() {
			for _, e := range []api.Element{
				with(element(k, 1), func(e *api.Element) { e.Phase = 1 }),
				with(element(k, nan), func(e *api.Element) { e.C = "b" }),
				with(element(k, inf), func(e *api.Element) { e.D = "b" }),
				element(k, 0), element(k, minus0), element(k, -1), element(k, -least), element(k, -greatest),
			} {
				if z, err := c.ask(e, 1); err != api.ErrArg || !same(z, 0) {
					t.Errorf("%s(%s, 1): %v %d", c.name, show(e), z, err)
				}
			}
		}
	}
}

// The other four kinds have no admittance, whatever their Value and Phase are.
func TestKindsWithoutAdmittance(t *testing.T) {
	for _, c := range calls() {
		for _, k := range others() {
			for _, v := range append(above(), notAbove()...) {
				e := element(k, v)
				if k == api.Current || k == api.Voltage {
					e.Phase = -7
				}
				if value.Check(e) != api.OK {
					t.Fatalf("%s may not be", show(e))
				}
				for _, omega := range []float64{least, 2, greatest} {
					if z, err := c.ask(e, omega); err != api.ErrArg || !same(z, 0) {
						t.Errorf("%s(%s, %v): %v %d", c.name, show(e), omega, z, err)
					}
				}
			}
		}
	}
}

func TestAllKinds(t *testing.T) {
	for k := range 256 {
		e := element(api.Kind(k), 2)
		if value.Letter(api.Kind(k)) == 0 {
			e.Name = "R1"
		}
		known := k == 1 || k == 2 || k == 3 || k == 8
		for _, c := range calls() {
			if z, err := c.ask(e, 2); known != (err == api.OK) || !known && (err != api.ErrArg || !same(z, 0)) {
				t.Errorf("%s(%s, 2): %v %d", c.name, show(e), z, err)
			}
		}
		hold(t, e, 2)
	}
}

// What is over, or rounded to nought.

func TestOver(t *testing.T) {
	const wide = 0x1p512
	for _, c := range []struct {
		k       api.Kind
		v       float64
		omega   float64
		y, z    complex128
		bad, no api.Errno // of Of, of Impedance
	}{
		// 1 over a real up to 2^-1024 is over; over the next one it is not.
		{k: api.Resistor, v: 0x1p-1024, omega: 1, bad: api.ErrOver, z: 0x1p-1024},
		{k: api.Resistor, v: 0x1p-1024 + least, omega: 1, y: complex(greatest-0x1p971*7, 0), z: 0x1p-1024 + least},
		{k: api.Port, v: least, omega: 1, bad: api.ErrOver, z: least},
		{k: api.Port, v: 0x1p-1023, omega: 1, y: 0x1p1023, z: 0x1p-1023},
		// A resistor does not ask what omega times its Value is.
		{k: api.Resistor, v: greatest, omega: greatest, y: 0x1p-1024, z: greatest},
		{k: api.Resistor, v: 0x1p-1023, omega: least, y: 0x1p1023, z: 0x1p-1023},
		{k: api.Port, v: greatest, omega: greatest, y: 0x1p-1024, z: greatest},
		// The product is over, though 1 over it is not.
		{k: api.Capacitor, v: wide, omega: wide, bad: api.ErrOver, no: api.ErrOver},
		{k: api.Coil, v: wide, omega: wide, bad: api.ErrOver, no: api.ErrOver},
		{k: api.Coil, v: greatest, omega: greatest, bad: api.ErrOver, no: api.ErrOver},
		{k: api.Capacitor, v: greatest, omega: 1 + 0x1p-52, bad: api.ErrOver, no: api.ErrOver},
		// The greatest product that is not.
		{k: api.Capacitor, v: greatest, omega: 1, y: complex(0, greatest), z: complex(0, -0x1p-1024)},
		{k: api.Coil, v: 1, omega: greatest, y: complex(0, -0x1p-1024), z: complex(0, greatest)},
		// The product is nought, or so little that 1 over it is over.
		{k: api.Coil, v: least, omega: 0.5, bad: api.ErrOver, z: 0},
		{k: api.Capacitor, v: least, omega: 0.5, y: 0, no: api.ErrOver},
		{k: api.Capacitor, v: 1e-200, omega: 1e-200, y: 0, no: api.ErrOver},
		{k: api.Coil, v: least, omega: 0.75, bad: api.ErrOver, z: complex(0, least)},
		{k: api.Coil, v: 0x1p-512, omega: 0x1p-512, bad: api.ErrOver, z: complex(0, 0x1p-1024)},
		{k: api.Capacitor, v: 0x1p-512, omega: 0x1p-512, y: complex(0, 0x1p-1024), no: api.ErrOver},
		{k: api.Coil, v: 0x1p-512, omega: 0x1p-511, y: complex(0, -0x1p1023), z: complex(0, 0x1p-1023)},
		{k: api.Capacitor, v: 0x1p-512, omega: 0x1p-511, y: complex(0, 0x1p-1023), z: complex(0, -0x1p1023)},
	} {
		e := element(c.k, c.v)
		if y, err := admit.Of(e, c.omega); err != c.bad || !same(y, c.y) {
			t.Errorf("Of(%s, %v): %v %d, not %v %d", show(e), c.omega, y, err, c.y, c.bad)
		}
		if z, err := admit.Impedance(e, c.omega); err != c.no || !same(z, c.z) {
			t.Errorf("Impedance(%s, %v): %v %d, not %v %d", show(e), c.omega, z, err, c.z, c.no)
		}
		var j complex128
		if c.bad == api.OK {
			j = complex(real(c.y), -imag(c.y))
		}
		if got, err := admit.Conjugate(e, c.omega); err != c.bad || !same(got, j) {
			t.Errorf("Conjugate(%s, %v): %v %d, not %v %d", show(e), c.omega, got, err, j, c.bad)
		}
	}
}

// P17.2 to P17.4: to the bit.

func TestEdges(t *testing.T) {
	for _, k := range admitted() {
		for _, v := range above() {
			for _, omega := range above() {
				hold(t, element(k, v), omega)
			}
		}
	}
}

func TestMingled(t *testing.T) {
	all := scatter(20000, 17)
	for i := 0; i+1 < len(all); i += 2 {
		// Of any power of two; and of powers near nought, where neither product nor quotient is over.
		far, farOmega := math.Float64frombits(all[i]&^(1<<63)), math.Float64frombits(all[i+1]&^(1<<63))
		v, omega := near(all[i]), near(all[i+1])
		for _, k := range admitted() {
			hold(t, element(k, far), farOmega)
			hold(t, element(k, v), omega)
			hold(t, element(k, v), farOmega)
		}
	}
}

// near is a real from 2^-32 to 2^32 with mingled bits.
func near(bits uint64) float64 {
	return math.Ldexp(1+float64(bits>>12)*0x1p-52, int(bits%64)-32)
}

// The quotient is that of the product as it was rounded: neither of the exact one, nor 1 over Value over omega.
func TestEachRoundingByItself(t *testing.T) {
	joined, apart := 0, 0
	all := scatter(4000, 3)
	for i := 0; i+1 < len(all); i += 2 {
		v, omega := near(all[i]), near(all[i+1])
		y, err := admit.Of(element(api.Coil, v), omega)
		if want := -over(1, times(omega, v)); err != api.OK || imag(y) != want {
			t.Fatalf("Of a Coil of %v at %v: %v %d, not %v", v, omega, y, err, want)
		}
		if -imag(y) != rounded(new(big.Rat).Inv(new(big.Rat).Mul(exact(omega), exact(v)))) {
			joined++
		}
		if -imag(y) != over(over(1, v), omega) {
			apart++
		}
	}
	if joined == 0 || apart == 0 {
		t.Errorf("nothing told apart: %d, %d", joined, apart)
	}
}

// Neither names nor nodes show in what is told; a Port is as a Resistor.
func TestNamesAndNodesShowNowhere(t *testing.T) {
	for _, c := range calls() {
		for _, k := range admitted() {
			for _, v := range []float64{3, least, greatest} {
				e := element(k, v)
				want, bad := c.ask(e, 7)
				for _, other := range []api.Element{
					with(e, func(e *api.Element) { e.A, e.B = e.B, e.A }),
					with(e, func(e *api.Element) { e.A, e.B = "in", "out" }),
					with(e, func(e *api.Element) { e.Name += "_abcdefghijklm" }),
				} {
					if z, err := c.ask(other, 7); err != bad || !same(z, want) {
						t.Errorf("%s(%s, 7): %v %d, not %v %d", c.name, show(other), z, err, want, bad)
					}
				}
			}
		}
		for _, v := range above() {
			z, err := c.ask(element(api.Resistor, v), 3)
			if p, bad := c.ask(element(api.Port, v), 3); err != bad || !same(z, p) {
				t.Errorf("%s of a Port of %v: %v %d, not %v %d", c.name, v, p, bad, z, err)
			}
		}
	}
}

// P17.4: Conjugate is parts.Conj of Of: a part that is none is -0.
func TestConjugateIsConjOfOf(t *testing.T) {
	for _, k := range admitted() {
		for _, v := range above() {
			for _, omega := range []float64{least, 0.1, 1, 50, 1e200, greatest} {
				y, err := admit.Of(element(k, v), omega)
				if err == api.OK {
					y = parts.Conj(y)
				}
				if j, bad := admit.Conjugate(element(k, v), omega); err != bad || !same(j, y) {
					t.Errorf("Conjugate(%s, %v): %v %d, not %v %d", show(element(k, v)), omega, j, bad, y, err)
				}
			}
		}
	}
	if j, err := admit.Conjugate(element(api.Capacitor, least), 0.1); err != api.OK || !same(j, complex(0, minus0)) {
		t.Errorf("Conjugate of a Capacitor whose admittance is nought: %v %d", j, err)
	}
}

// P17.5: Omega and Hertz.

func TestFrequenciesThatAreRefused(t *testing.T) {
	for name, ask := range map[string]func(float64) (float64, api.Errno){"Omega": admit.Omega, "Hertz": admit.Hertz} {
		for _, x := range notFinite() {
			if y, err := ask(x); err != api.ErrNumber || math.Float64bits(y) != 0 {
				t.Errorf("%s(%v): %v %d", name, x, y, err)
			}
		}
		for _, x := range notAbove() {
			if y, err := ask(x); err != api.ErrArg || math.Float64bits(y) != 0 {
				t.Errorf("%s(%v): %v %d", name, x, y, err)
			}
		}
	}
}

func holdFrequency(t *testing.T, x float64) {
	t.Helper()
	want, bad := times(turn, x), api.OK
	if !finite(want) {
		want, bad = 0, api.ErrOver
	}
	if y, err := admit.Omega(x); err != bad || math.Float64bits(y) != math.Float64bits(want) {
		t.Fatalf("Omega(%v): %v %d, not %v %d", x, y, err, want, bad)
	}
	want = over(x, turn)
	if y, err := admit.Hertz(x); err != api.OK || math.Float64bits(y) != math.Float64bits(want) {
		t.Fatalf("Hertz(%v): %v %d, not %v", x, y, err, want)
	}
}

func TestFrequenciesToTheBit(t *testing.T) {
	if turn != 6.283185307179586 {
		t.Fatalf("the turn is %v", turn)
	}
	for _, x := range above() {
		holdFrequency(t, x)
	}
	for _, bits := range scatter(20000, 5) {
		holdFrequency(t, near(bits))
		if x := math.Float64frombits(bits &^ (1 << 63)); finite(x) && x > 0 {
			holdFrequency(t, x)
		}
	}
}

// The float at which Omega begins to be over, and those that Hertz rounds to nought.
func TestEdgesOfFrequencies(t *testing.T) {
	edge := greatest / turn // times the turn it may still be rounded down
	for math.IsInf(float64(edge*turn), 0) {
		edge = math.Nextafter(edge, 0)
	}
	for !math.IsInf(float64(math.Nextafter(edge, inf)*turn), 0) {
		edge = math.Nextafter(edge, inf)
	}
	if y, err := admit.Omega(edge); err != api.OK || y != edge*turn || y < greatest/2 {
		t.Errorf("Omega(%v): %v %d", edge, y, err)
	}
	for _, x := range []float64{math.Nextafter(edge, inf), 1e308, greatest} {
		if y, err := admit.Omega(x); err != api.ErrOver || y != 0 {
			t.Errorf("Omega(%v): %v %d", x, y, err)
		}
	}
	if y, err := admit.Omega(least); err != api.OK || y != 6*least {
		t.Errorf("Omega(%v): %v %d", least, y, err)
	}
	for i, want := range []float64{0, 0, 0, least, least, least, least, least, least, 2 * least} {
		x := float64(i+1) * least
		if y, err := admit.Hertz(x); err != api.OK || math.Float64bits(y) != math.Float64bits(want) {
			t.Errorf("Hertz(%v): %v %d", x, y, err)
		}
	}
	if y, err := admit.Hertz(greatest); err != api.OK || y != greatest/turn {
		t.Errorf("Hertz(%v): %v %d", greatest, y, err)
	}
}

// P17.6: what follows.

func TestCoilAndCapacitorOfOneValue(t *testing.T) {
	for _, v := range above() {
		for _, omega := range above() {
			coil, capacitor := element(api.Coil, v), element(api.Capacitor, v)
			y, e := admit.Of(coil, omega)
			z, f := admit.Impedance(capacitor, omega)
			if e != f || !same(y, z) {
				t.Fatalf("of %v at %v: a Coil's admittance %v %d, a Capacitor's impedance %v %d", v, omega, y, e, z, f)
			}
			y, e = admit.Of(capacitor, omega)
			z, f = admit.Impedance(coil, omega)
			if e != f || !same(y, z) {
				t.Fatalf("of %v at %v: a Capacitor's admittance %v %d, a Coil's impedance %v %d", v, omega, y, e, z, f)
			}
		}
	}
}

func TestTwiceTheOmega(t *testing.T) {
	all := scatter(2000, 11)
	for i := 0; i+1 < len(all); i += 2 {
		v, omega := near(all[i]), near(all[i+1])
		y, _ := admit.Of(element(api.Capacitor, v), omega)
		twice, err := admit.Of(element(api.Capacitor, v), 2*omega)
		if err != api.OK || !same(twice, complex(0, 2*imag(y))) {
			t.Fatalf("a Capacitor of %v at %v: %v, at twice that %v %d", v, omega, y, twice, err)
		}
		z, _ := admit.Impedance(element(api.Coil, v), omega)
		twice, err = admit.Impedance(element(api.Coil, v), 2*omega)
		if err != api.OK || !same(twice, complex(0, 2*imag(z))) {
			t.Fatalf("a Coil of %v at %v: %v, at twice that %v %d", v, omega, z, twice, err)
		}
	}
}

func TestResistorsDoNotKnowOmega(t *testing.T) {
	for _, c := range calls() {
		for _, k := range []api.Kind{api.Resistor, api.Port} {
			for _, v := range above() {
				want, bad := c.ask(element(k, v), 1)
				for _, omega := range above() {
					if z, err := c.ask(element(k, v), omega); err != bad || !same(z, want) {
						t.Fatalf("%s(%s, %v): %v %d, at 1 %v %d", c.name, show(element(k, v)), omega, z, err, want, bad)
					}
				}
			}
		}
	}
}

// A part that is none is +0 of a number that is told; of a conjugate's im it is -0.
func TestSignsOfNoughts(t *testing.T) {
	for _, c := range calls() {
		for _, v := range above() {
			for _, omega := range above() {
				for _, k := range []api.Kind{api.Coil, api.Capacitor} {
					if z, _ := c.ask(element(k, v), omega); math.Float64bits(real(z)) != 0 {
						t.Fatalf("%s(%s, %v): re %v", c.name, show(element(k, v)), omega, real(z))
					}
				}
			}
			for _, k := range []api.Kind{api.Resistor, api.Port} {
				z, err := c.ask(element(k, v), 1)
				negative := c.name == "Conjugate" && err == api.OK
				if imag(z) != 0 || math.Signbit(imag(z)) != negative {
					t.Fatalf("%s(%s, 1): im %v", c.name, show(element(k, v)), imag(z))
				}
			}
		}
	}
	for _, z := range []func(api.Element, float64) (complex128, api.Errno){admit.Of, admit.Impedance} {
		for _, k := range []api.Kind{api.Coil, api.Capacitor} {
			if n, _ := z(element(k, 1e-200), 1e-200); !same(n, 0) {
				t.Errorf("of a product that is nought by rounding: %v", n)
			}
		}
	}
}

// P1: at all arguments; the same again, and side by side.
func TestCallsAreCalmAndTellTheSame(t *testing.T) {
	omegas := append(append(notFinite(), notAbove()...), 1, 0.1, least, greatest, 1e200)
	values := append(append(notFinite(), notAbove()...), 1, 0.5, least, greatest, 1e200)
	var elements []api.Element
	for k := range 11 {
		for _, v := range values {
			e := element(api.Kind(k), v)
			elements = append(elements, e, with(e, func(e *api.Element) { e.Name = "\xff" }), with(e, func(e *api.Element) { e.Phase = math.MinInt }), api.Element{Kind: e.Kind, Value: v})
		}
	}
	elements = append(elements, api.Element{Kind: api.Resistor, Name: "R" + strings.Repeat("a", 1<<20), A: strings.Repeat("a", 1<<20), B: "0", Value: 1})
	var group sync.WaitGroup
	for range 8 {
		group.Go(func() {
			for _, e := range elements {
				for _, omega := range omegas {
					for _, c := range calls() {
						z, err := c.ask(e, omega)
						want, bad := c.want(e, omega)
						if err != bad || !same(z, want) {
							t.Errorf("%s(%s, %v): %v %d, not %v %d", c.name, show(e)[:20], omega, z, err, want, bad)
						}
					}
				}
			}
		})
	}
	group.Wait()
}
