package floats

import (
	"math"
	"math/big"
	"slices"
	"strconv"
	"strings"
	"testing"

	"platen/api"
	"platen/bigdec"
	"platen/short"
)

const verbs = "veEfFgGbxX"

var sizes = []int{32, 64}

// unset has neither a width nor a precision.
func unset(verb rune) api.Spec { return api.Spec{Verb: verb, Wid: -1, Prec: -1} }

// by has a precision, and no width.
func by(verb rune, prec int) api.Spec { return api.Spec{Verb: verb, Wid: -1, Prec: prec} }

// sharp is by with Sharp.
func sharp(verb rune, prec int) api.Spec {
	return api.Spec{Verb: verb, Wid: -1, Prec: prec, Sharp: true}
}

// b64 and b32 are short for the bits of a float.
func b64(v float64) uint64 { return math.Float64bits(v) }
func b32(v float32) uint64 { return uint64(math.Float32bits(v)) }

func signBit(size int) uint64 { return 1 << (size - 1) }

func infOf(size int) uint64 {
	if size == 32 {
		return 0x7f800000
	}
	return 0x7ff0000000000000
}

func fractionOf(size int) int { return map[int]int{32: 23, 64: 52}[size] }

// bitsOf answers the pattern of that size that is nearest to v.
func bitsOf(v float64, size int) uint64 {
	if size == 32 {
		return b32(float32(v))
	}
	return b64(v)
}

// chance is a row of numbers that is the same in every run.
type chance uint64

func (c *chance) bits() uint64 {
	var b uint64
	for range 4 {
		*c = *c*6364136223846793005 + 1442695040888963407
		b = b<<16 | uint64(*c>>48)
	}
	return b
}

// edges are finite patterns without sign bits: 0, the least, the greatest, and
// values at which the chapter's words part.
func edges(size int) []uint64 {
	top, inf := uint64(1)<<fractionOf(size), infOf(size)
	l := []uint64{0, 1, 2, 3, top / 2, top - 1, top, top + 1, 2*top - 1, inf - top, inf - 2, inf - 1}
	for _, v := range []float64{
		1, 1.5, 2, 2.5, 3.5, 0.5, 0.25, 0.75, 0.125, 0.375, 1.25, 1.75, 9.5, 99.5, 999.5, 0.1, 0.3,
		0.0001, 0.00009999, 0.000099999999, 0.00001, 0.000123456, 9.9999, 12345, 99999, 123456, 999999, 999999.5, 1e6, 1234567,
		1e15, 1e16, 123456789012345678, 1e20, 1e21, 9.9999e20, 1e22, 1e-5, 1e-10, 6.02e23, math.Pi,
		1.96875, 1.9375, 1.90625, 1.0625, 1.03125, 1.09375, 1.999999,
	} {
		l = append(l, bitsOf(v, size))
	}
	return l
}

// some are finite patterns out of all of them, every second one near 1.
func some(c *chance, size, count int) []uint64 {
	var l []uint64
	one := bitsOf(1, size) >> fractionOf(size)
	for len(l) < count {
		p := c.bits() & (signBit(size) - 1)
		if len(l)%2 == 0 {
			field := one - 20 + c.bits()%40
			p = p&(1<<fractionOf(size)-1) | field<<fractionOf(size)
		}
		if p < infOf(size) {
			l = append(l, p)
		}
	}
	return l
}

// flagged answers f with the five flags that the bits of n tell.
func flagged(f api.Spec, n int) api.Spec {
	f.Plus, f.Minus, f.Sharp, f.Space, f.Zero = n&1 != 0, n&2 != 0, n&4 != 0, n&8 != 0, n&16 != 0
	return f
}

// writes checks one answer.
func writes(t *testing.T, bits uint64, size int, f api.Spec, want string) {
	t.Helper()
	if got, ok := Float(bits, size, f); !ok || got != want {
		t.Errorf("Float(%x, %d, %+v) by %c = %q, %v, not %q", bits, size, f, f.Verb, got, ok, want)
	}
}

// text answers what is written, which must be something.
func text(t *testing.T, bits uint64, size int, f api.Spec) string {
	t.Helper()
	s, ok := Float(bits, size, f)
	if !ok || s == "" {
		t.Fatalf("Float(%x, %d, %+v) by %c = %q, %v", bits, size, f, f.Verb, s, ok)
	}
	return s
}

// TestExamples: the chapter's own.
func TestExamples(t *testing.T) {
	for _, x := range []struct {
		v    float64
		f    api.Spec
		want string
	}{
		{1.5, unset('v'), "1.5"}, {1.5, unset('e'), "1.500000e+00"}, {1.5, by('f', 0), "2"}, {1.5, sharp('g', -1), "1.50000"},
		{1.5, unset('b'), "6755399441055744p-52"}, {1.5, unset('x'), "0x1.8p+00"}, {1.5, by('X', 0), "0X1P+01"}, {2.5, by('f', 0), "2"},
		{0.1, unset('v'), "0.1"}, {0.1, by('g', 20), "0.10000000000000000555"}, {1e21, unset('v'), "1e+21"},
		{1e20, unset('v'), "100000000000000000000"}, {0.00001, unset('v'), "1e-05"},
		{math.Copysign(0, -1), unset('v'), "-0"}, {math.Copysign(0, -1), api.Spec{Verb: 'v', Wid: -1, Prec: -1, Plus: true}, "-0"},
		{math.NaN(), api.Spec{Verb: 'v', Wid: 6, Prec: -1, Zero: true}, "   NaN"},
		{1.5, api.Spec{Verb: 'v', Wid: 8, Prec: -1, Zero: true, Plus: true}, "+00001.5"},
	} {
		writes(t, b64(x.v), 64, x.f, x.want)
	}
}

// TestSignP61: of both sizes, by every verb, the sign by the sign bit and the flags.
func TestSignP61(t *testing.T) {
	for _, size := range sizes {
		for _, p := range []uint64{0, 1, bitsOf(1.5, size), infOf(size) - 1} {
			for _, verb := range verbs {
				plain := text(t, p, size, unset(verb))
				for flags := range 32 {
					f := flagged(unset(verb), flags)
					if f.Sharp {
						continue
					}
					writes(t, p, size, f, map[[2]bool]string{{true, true}: "+", {true, false}: "+", {false, true}: " ", {false, false}: ""}[[2]bool{f.Plus, f.Space}]+plain)
					writes(t, p|signBit(size), size, f, "-"+plain)
				}
			}
		}
	}
}

// TestNaNP61: no sign bit tells anything, nor do Zero, Sharp and a precision.
func TestNaNP61(t *testing.T) {
	for _, size := range sizes {
		inf, sign := infOf(size), signBit(size)
		for _, p := range []uint64{inf + 1, inf + 2, inf + inf/2&(sign-1-inf), sign - 1} {
			for _, verb := range verbs {
				for _, prec := range []int{math.MinInt, -1, 0, 3, 2000, math.MaxInt} {
					for flags := range 32 {
						f := flagged(by(verb, prec), flags)
						want := "NaN"
						if f.Plus {
							want = "+NaN"
						} else if f.Space {
							want = " NaN"
						}
						for _, wid := range []int{math.MinInt, -1, 0, 3, 4, 9, 1000, 1001, math.MaxInt} {
							f.Wid = wid
							f.Zero = false
							filled := toldFilled("", want, f)
							f.Zero = flags&16 != 0
							writes(t, p, size, f, filled)
							writes(t, p|sign, size, f, filled)
						}
					}
				}
			}
		}
	}
}

// TestInfP61: it always has a sign.
func TestInfP61(t *testing.T) {
	for _, size := range sizes {
		for _, verb := range verbs {
			for _, prec := range []int{math.MinInt, -1, 0, 3, math.MaxInt} {
				for flags := range 32 {
					f := flagged(by(verb, prec), flags)
					want := "+Inf"
					if f.Space && !f.Plus {
						want = " Inf"
					}
					for _, wid := range []int{math.MinInt, -1, 0, 4, 5, 9, 1000, 1001, math.MaxInt} {
						f.Wid = wid
						f.Zero = false
						above, below := toldFilled("", want, f), toldFilled("", "-Inf", f)
						f.Zero = flags&16 != 0
						writes(t, infOf(size), size, f, above)
						writes(t, infOf(size)|signBit(size), size, f, below)
					}
				}
			}
		}
	}
	writes(t, infOf(64), 64, api.Spec{Verb: 'X', Wid: 8, Prec: -1, Zero: true}, "    +Inf")
	writes(t, infOf(32)|signBit(32), 32, api.Spec{Verb: 'G', Wid: 8, Prec: 2, Zero: true, Minus: true, Plus: true}, "-Inf    ")
}

// TestPointP61: a point is written, if digits stand behind it or with Sharp, but by v and b.
func TestPointP61(t *testing.T) {
	for _, x := range []struct {
		v    float64
		f    api.Spec
		want string
	}{
		{2, by('e', 0), "2e+00"}, {2, sharp('e', 0), "2.e+00"}, {2, sharp('E', 0), "2.E+00"}, {2, sharp('e', 1), "2.0e+00"}, {2, sharp('e', -1), "2.000000e+00"},
		{2, by('f', 0), "2"}, {2, sharp('f', 0), "2."}, {2, sharp('F', 0), "2."}, {2, sharp('f', 1), "2.0"}, {0, sharp('f', 0), "0."}, {0, sharp('e', 0), "0.e+00"},
		{2, by('g', 0), "2"}, {2, sharp('g', 0), "2."}, {2, sharp('g', 1), "2."}, {2, sharp('G', 2), "2.0"}, {1e9, sharp('g', 1), "1.e+09"}, {1e9, sharp('G', 0), "1.E+09"},
		{2, unset('v'), "2"}, {2, sharp('v', -1), "2"}, {2, sharp('v', 3), "2"}, {2.5, sharp('v', -1), "2.5"}, {1e30, sharp('v', -1), "1e+30"}, {1e9, sharp('v', 4), "1e+09"}, {0, sharp('v', -1), "0"},
		{2, unset('x'), "0x1p+01"}, {2, sharp('x', -1), "0x1.p+01"}, {2, sharp('X', -1), "0X1.P+01"}, {2, sharp('x', 0), "0x1.p+01"}, {3, sharp('x', -1), "0x1.8p+01"}, {0, sharp('x', -1), "0x0.p+00"}, {0, sharp('X', 0), "0X0.P+00"},
		{2, sharp('b', -1), "4503599627370496p-51"}, {2, sharp('b', 4), "4503599627370496p-51"},
	} {
		writes(t, b64(x.v), 64, x.f, x.want)
	}
}

// TestExponentsAndPlacesP62: e and f, written out.
func TestExponentsAndPlacesP62(t *testing.T) {
	for _, x := range []struct {
		v    float64
		f    api.Spec
		want string
	}{
		{0, unset('e'), "0.000000e+00"}, {0, unset('E'), "0.000000E+00"}, {0, by('e', 0), "0e+00"}, {0, by('e', 1), "0.0e+00"},
		{0, unset('f'), "0.000000"}, {0, unset('F'), "0.000000"}, {0, by('f', 0), "0"}, {0, by('f', 2), "0.00"},
		{1, unset('e'), "1.000000e+00"}, {10, by('e', 0), "1e+01"}, {0.1, by('e', 2), "1.00e-01"}, {1e100, by('E', 1), "1.0E+100"}, {1e-100, by('e', 1), "1.0e-100"}, {1e99, by('e', 0), "1e+99"}, {1e-9, by('e', 0), "1e-09"},
		{1.25, by('e', 1), "1.2e+00"}, {1.75, by('e', 1), "1.8e+00"}, {0.125, by('e', 1), "1.2e-01"}, {9.5, by('e', 0), "1e+01"}, {8.5, by('e', 0), "8e+00"}, {9.25, by('e', 0), "9e+00"}, {99.5, by('e', 1), "1.0e+02"}, {999999.5, by('e', 5), "1.00000e+06"}, {999998.5, by('e', 5), "9.99998e+05"},
		{0.5, by('f', 0), "0"}, {1.5, by('f', 0), "2"}, {2.5, by('f', 0), "2"}, {3.5, by('f', 0), "4"}, {0.25, by('f', 0), "0"}, {0.75, by('f', 0), "1"}, {0.5000000000000001, by('f', 0), "1"}, {9.5, by('f', 0), "10"}, {99.5, by('f', 0), "100"},
		{0.125, by('f', 2), "0.12"}, {0.375, by('f', 2), "0.38"}, {0.0625, by('f', 3), "0.062"}, {0.001, by('f', 2), "0.00"}, {0.999, by('f', 2), "1.00"}, {0.005, by('f', 2), "0.01"}, {0.015, by('f', 2), "0.01"},
		{1e20, by('f', 0), "100000000000000000000"}, {1e23, by('F', 1), "99999999999999991611392.0"}, {123456789, unset('f'), "123456789.000000"},
		{0.1, by('f', 55), "0.1000000000000000055511151231257827021181583404541015625"}, {0.1, by('e', 57), "1.000000000000000055511151231257827021181583404541015625000e-01"},
		{math.SmallestNonzeroFloat64, by('e', 5), "4.94066e-324"}, {math.SmallestNonzeroFloat64, unset('f'), "0.000000"}, {math.MaxFloat64, unset('e'), "1.797693e+308"}, {math.MaxFloat64, by('E', 0), "2E+308"},
		{math.MaxFloat64, by('f', 0), "179769313486231570814527423731704356798070567525844996598917476803157260780028538760589558632766878171540458953514382464234321326889464182768467546703537516986049910576551282076245490090389328944075868508455133942304583236903222948165808559332123348274797826204144723168738177180919299881250404026184124858368"},
	} {
		writes(t, b64(x.v), 64, x.f, x.want)
	}
	for _, x := range []struct {
		v    float32
		f    api.Spec
		want string
	}{
		{0.1, unset('e'), "1.000000e-01"}, {0.1, by('e', 12), "1.000000014901e-01"}, {0.1, by('f', 10), "0.1000000015"}, {2.5, by('f', 0), "2"}, {0, unset('E'), "0.000000E+00"},
		{math.SmallestNonzeroFloat32, by('e', 3), "1.401e-45"}, {math.SmallestNonzeroFloat32, by('f', 46), "0.0000000000000000000000000000000000000000000014"},
		{math.MaxFloat32, by('f', 1), "340282346638528859811704183484516925440.0"}, {math.MaxFloat32, unset('e'), "3.402823e+38"},
	} {
		writes(t, b32(x.v), 32, x.f, x.want)
	}
}

// TestGeneralP63: g, G and v, written out: above all at powers of -5, -4, T - 1 and T.
func TestGeneralP63(t *testing.T) {
	for _, x := range []struct {
		v    float64
		f    api.Spec
		want string
	}{
		{0, unset('g'), "0"}, {0, by('g', 0), "0"}, {0, by('g', 5), "0"}, {0, by('v', 5), "0"}, {0, sharp('g', -1), "0.00000"}, {0, sharp('g', 0), "0."}, {0, sharp('g', 1), "0."}, {0, sharp('G', 3), "0.00"},
		{0.0001, unset('g'), "0.0001"}, {0.0001, unset('v'), "0.0001"}, {0.00012, unset('G'), "0.00012"}, {0.00001, unset('G'), "1E-05"}, {0.00001, unset('g'), "1e-05"}, {0.000012, unset('v'), "1.2e-05"}, {0.000099, unset('g'), "9.9e-05"},
		{0.0001, sharp('g', -1), "0.000100000"}, {0.00001, sharp('g', -1), "1.00000e-05"}, {0.00001, sharp('G', 2), "1.0E-05"}, {0.0001, sharp('g', 1), "0.0001"},
		{0.000099999, by('g', 2), "0.0001"}, {0.000099999, by('g', 5), "9.9999e-05"}, {0.000099999, sharp('g', 2), "0.00010"},
		{1e20, unset('g'), "100000000000000000000"}, {1e20, unset('G'), "100000000000000000000"}, {1e21, unset('g'), "1e+21"}, {1e21, unset('G'), "1E+21"}, {1.5e21, unset('v'), "1.5e+21"}, {123456789012345680000, unset('v'), "123456789012345680000"}, {999999999999999868928, unset('v'), "999999999999999900000"},
		{99999, by('g', 5), "99999"}, {99999, by('g', 4), "1e+05"}, {12345, by('g', 5), "12345"}, {12345, by('g', 4), "1.234e+04"}, {12355, by('g', 4), "1.236e+04"}, {100000, by('g', 5), "1e+05"}, {100000, by('g', 6), "100000"}, {100000, by('v', 5), "1e+05"}, {100000, by('v', 6), "100000"}, {99999.5, by('g', 5), "1e+05"}, {99999.5, by('g', 6), "99999.5"},
		{100000, by('g', 10), "100000"}, {120000, sharp('g', 10), "120000.0000"}, {100000, sharp('g', 5), "1.0000e+05"}, {100000, sharp('g', 6), "100000."}, {100000, sharp('g', -1), "100000."}, {1e6, sharp('g', -1), "1000000."}, {1e20, sharp('g', -1), "100000000000000000000."}, {1e21, sharp('g', -1), "1.00000e+21"}, {1234567.5, sharp('g', -1), "1234567.5"}, {12, sharp('g', -1), "12.0000"},
		{1.5, by('g', 0), "2"}, {2.5, by('g', 0), "2"}, {2.5, by('g', 1), "2"}, {9.5, by('g', 0), "1e+01"}, {9.5, by('g', 1), "1e+01"}, {9.25, by('v', 0), "9"}, {12, by('g', 0), "1e+01"}, {9.99, by('g', 2), "10"}, {9.99, sharp('g', 2), "10."}, {99.5, by('G', 2), "1E+02"},
		{0.1, by('g', 17), "0.10000000000000001"}, {0.1, by('g', 16), "0.1"}, {0.1, sharp('g', 16), "0.1000000000000000"}, {0.1, by('v', 60), "0.1000000000000000055511151231257827021181583404541015625"}, {1e22, by('g', 30), "10000000000000000000000"}, {1e22, by('g', 22), "1e+22"}, {1e22, by('g', 23), "10000000000000000000000"},
		{math.SmallestNonzeroFloat64, unset('v'), "5e-324"}, {math.MaxFloat64, unset('v'), "1.7976931348623157e+308"}, {math.MaxFloat64, unset('G'), "1.7976931348623157E+308"}, {math.MaxFloat64, by('g', 3), "1.8e+308"}, {math.MaxFloat64, sharp('g', 3), "1.80e+308"}, {math.MaxFloat64, by('g', 309), toldG(infOf(64)-1, 64, 309, unset('f'))},
	} {
		writes(t, b64(x.v), 64, x.f, x.want)
	}
	for _, x := range []struct {
		v    float32
		f    api.Spec
		want string
	}{
		{0.1, unset('v'), "0.1"}, {0.1, by('g', 12), "0.10000000149"}, {16777216, unset('g'), "16777216"}, {1e20, unset('v'), "100000000000000000000"}, {1e21, unset('v'), "1e+21"}, {0.3, sharp('G', -1), "0.300000"}, {0.00001, unset('G'), "1E-05"},
		{math.SmallestNonzeroFloat32, unset('v'), "1e-45"}, {math.MaxFloat32, unset('g'), "3.4028235e+38"}, {math.MaxFloat32, by('g', 39), "340282346638528859811704183484516925440"}, {math.MaxFloat32, by('g', 38), "3.4028234663852885981170418348451692544e+38"},
	} {
		writes(t, b32(x.v), 32, x.f, x.want)
	}
}

// TestBitsP64: b, x and X, written out.
func TestBitsP64(t *testing.T) {
	for _, x := range []struct {
		v    float64
		f    api.Spec
		want string
	}{
		{0, unset('b'), "0p-1074"}, {1, unset('b'), "4503599627370496p-52"}, {1, sharp('b', 0), "4503599627370496p-52"}, {1, by('b', 2000), "4503599627370496p-52"}, {math.SmallestNonzeroFloat64, unset('b'), "1p-1074"}, {math.MaxFloat64, unset('b'), "9007199254740991p+971"}, {1 << 52, unset('b'), "4503599627370496p+0"}, {1 << 53, unset('b'), "4503599627370496p+1"}, {1 << 51, unset('b'), "4503599627370496p-1"}, {1 << 62, unset('b'), "4503599627370496p+10"},
		{0, unset('x'), "0x0p+00"}, {0, unset('X'), "0X0P+00"}, {0, by('x', 0), "0x0p+00"}, {0, by('x', 3), "0x0.000p+00"}, {0, by('x', 17), "0x0.00000000000000000p+00"},
		{1, unset('x'), "0x1p+00"}, {1, by('x', 1), "0x1.0p+00"}, {1, by('x', 13), "0x1.0000000000000p+00"}, {1, by('X', 15), "0X1.000000000000000P+00"}, {1, by('x', 16), "0x1.0000000000000000p+00"}, {1, by('x', 17), "0x1.00000000000000000p+00"},
		{0.1, unset('x'), "0x1.999999999999ap-04"}, {0.1, unset('X'), "0X1.999999999999AP-04"}, {0.1, by('x', 13), "0x1.999999999999ap-04"}, {0.1, by('x', 12), "0x1.99999999999ap-04"}, {0.1, by('x', 1), "0x1.ap-04"}, {0.1, by('x', 20), "0x1.999999999999a0000000p-04"},
		{1.5, by('x', 0), "0x1p+01"}, {1.25, by('x', 0), "0x1p+00"}, {1.75, by('x', 0), "0x1p+01"}, {1.03125, by('x', 1), "0x1.0p+00"}, {1.09375, by('x', 1), "0x1.2p+00"}, {1.03515625, by('x', 1), "0x1.1p+00"}, {1.90625, by('x', 1), "0x1.ep+00"}, {1.96875, by('x', 1), "0x1.0p+01"}, {1.96484375, by('x', 1), "0x1.fp+00"}, {1.96875, by('X', 2), "0X1.F8P+00"}, {0.99999999, by('x', 3), "0x1.000p+00"},
		{math.SmallestNonzeroFloat64, unset('x'), "0x1p-1074"}, {3 * math.SmallestNonzeroFloat64, unset('x'), "0x1.8p-1073"}, {3 * math.SmallestNonzeroFloat64, by('x', 0), "0x1p-1072"}, {math.MaxFloat64, unset('x'), "0x1.fffffffffffffp+1023"}, {math.MaxFloat64, by('x', 12), "0x1.000000000000p+1024"}, {math.MaxFloat64, by('X', 0), "0X1P+1024"}, {1 << 10, unset('x'), "0x1p+10"}, {1 << 9, unset('x'), "0x1p+09"}, {1.0 / 1024, unset('x'), "0x1p-10"}, {1.0 / 512, unset('x'), "0x1p-09"}, {1e100, by('x', 2), "0x1.25p+332"},
		{math.Float64frombits(1<<52 - 1), unset('x'), "0x1.ffffffffffffep-1023"}, {math.Float64frombits(1<<52 - 1), by('x', 12), "0x1.000000000000p-1022"},
	} {
		writes(t, b64(x.v), 64, x.f, x.want)
	}
	for _, x := range []struct {
		v    float32
		f    api.Spec
		want string
	}{
		{0, unset('b'), "0p-149"}, {1, unset('b'), "8388608p-23"}, {1 << 23, unset('b'), "8388608p+0"}, {math.MaxFloat32, unset('b'), "16777215p+104"}, {math.SmallestNonzeroFloat32, unset('b'), "1p-149"},
		{0, unset('x'), "0x0p+00"}, {0.1, unset('x'), "0x1.99999ap-04"}, {0.1, by('x', 5), "0x1.9999ap-04"}, {0.1, by('x', 9), "0x1.99999a000p-04"}, {math.MaxFloat32, unset('X'), "0X1.FFFFFEP+127"}, {math.MaxFloat32, by('x', 5), "0x1.00000p+128"}, {math.SmallestNonzeroFloat32, unset('x'), "0x1p-149"}, {1.5, by('x', 0), "0x1p+01"},
	} {
		writes(t, b32(x.v), 32, x.f, x.want)
	}
}

// TestWidthP65: noughts between the sign and the rest, or blanks.
func TestWidthP65(t *testing.T) {
	for _, x := range []struct {
		v    float64
		f    api.Spec
		want string
	}{
		{1.5, api.Spec{Verb: 'v', Wid: 6, Prec: -1}, "   1.5"}, {-1.5, api.Spec{Verb: 'v', Wid: 6, Prec: -1}, "  -1.5"}, {1.5, api.Spec{Verb: 'v', Wid: 6, Prec: -1, Minus: true}, "1.5   "},
		{1.5, api.Spec{Verb: 'v', Wid: 6, Prec: -1, Zero: true}, "0001.5"}, {-1.5, api.Spec{Verb: 'v', Wid: 6, Prec: -1, Zero: true}, "-001.5"}, {1.5, api.Spec{Verb: 'v', Wid: 6, Prec: -1, Zero: true, Space: true}, " 001.5"}, {1.5, api.Spec{Verb: 'v', Wid: 6, Prec: -1, Zero: true, Space: true, Plus: true}, "+001.5"},
		{1.5, api.Spec{Verb: 'v', Wid: 6, Prec: -1, Zero: true, Minus: true}, "1.5   "}, {-1.5, api.Spec{Verb: 'f', Wid: 6, Prec: 1, Zero: true, Minus: true, Plus: true}, "-1.5  "}, {1.5, api.Spec{Verb: 'v', Wid: 6, Prec: -1, Space: true}, "   1.5"}, {1.5, api.Spec{Verb: 'v', Wid: 6, Prec: -1, Space: true, Minus: true}, " 1.5  "},
		{1.5, api.Spec{Verb: 'v', Wid: 3, Prec: -1, Zero: true}, "1.5"}, {1.5, api.Spec{Verb: 'v', Wid: 4, Prec: -1, Zero: true, Plus: true}, "+1.5"}, {1.5, api.Spec{Verb: 'v', Prec: -1, Zero: true}, "1.5"}, {1.5, api.Spec{Verb: 'v', Wid: 2, Prec: -1, Plus: true}, "+1.5"},
		{1.5, api.Spec{Verb: 'e', Wid: 14, Prec: -1, Zero: true}, "001.500000e+00"}, {-1.5, api.Spec{Verb: 'x', Wid: 12, Prec: -1, Zero: true}, "-000x1.8p+00"}, {1.5, api.Spec{Verb: 'X', Wid: 12, Prec: -1}, "   0X1.8P+00"}, {-1, api.Spec{Verb: 'b', Wid: 24, Prec: 2, Zero: true}, "-0004503599627370496p-52"}, {math.Copysign(0, -1), api.Spec{Verb: 'g', Wid: 5, Prec: -1, Zero: true}, "-0000"},
		{-1.5, api.Spec{Verb: 'v', Wid: math.MinInt, Prec: -1, Zero: true}, "-1.5"}, {1.5, api.Spec{Verb: 'v', Wid: -1, Prec: math.MinInt, Zero: true, Space: true}, " 1.5"}, {-1.5, api.Spec{Verb: 'v', Wid: math.MinInt, Prec: -1}, "-1.5"},
		{-1.5, api.Spec{Verb: 'v', Wid: 1001, Prec: -1, Zero: true}, "-" + strings.Repeat("0", 996) + "1.5"}, {1.5, api.Spec{Verb: 'v', Wid: math.MaxInt, Prec: -1, Zero: true}, strings.Repeat("0", 997) + "1.5"}, {-1.5, api.Spec{Verb: 'v', Wid: math.MaxInt, Prec: -1, Minus: true}, "-1.5" + strings.Repeat(" ", 996)}, {1.5, api.Spec{Verb: 'v', Wid: 999, Prec: -1}, strings.Repeat(" ", 996) + "1.5"},
	} {
		writes(t, b64(x.v), 64, x.f, x.want)
	}
}

// TestGreatPrecisions: those above MaxWidth count as MaxWidth, of 0, too, which
// has no digits of its own.
func TestGreatPrecisions(t *testing.T) {
	noughts := func(n int) string { return strings.Repeat("0", n) }
	for _, prec := range []int{1000, 1001, 1 << 20, math.MaxInt} {
		for _, size := range sizes {
			zero, one := uint64(0), bitsOf(1, size)
			writes(t, zero, size, by('e', prec), "0."+noughts(1000)+"e+00")
			writes(t, zero, size, by('f', prec), "0."+noughts(1000))
			writes(t, zero, size, by('g', prec), "0")
			writes(t, zero, size, sharp('g', prec), "0."+noughts(999))
			writes(t, zero, size, by('x', prec), "0x0."+noughts(1000)+"p+00")
			writes(t, one, size, by('e', prec), "1."+noughts(1000)+"e+00")
			writes(t, one, size, by('f', prec), "1."+noughts(1000))
			writes(t, one, size, by('v', prec), "1")
			writes(t, one, size, sharp('G', prec), "1."+noughts(999))
			writes(t, one, size, by('X', prec), "0X1."+noughts(1000)+"P+00")
		}
	}
	writes(t, 0, 64, by('e', 999), "0."+noughts(999)+"e+00")
	writes(t, b64(1), 64, sharp('g', 999), "1."+noughts(998))
}

// TestAgainstFractions: edges and others, by every verb, with and without
// Sharp, and many precisions, held against exact fractions.
func TestAgainstFractions(t *testing.T) {
	c := chance(61)
	precs := []int{math.MinInt, -1, 0, 1, 2, 3, 4, 5, 6, 7, 12, 13, 14, 15, 16, 17, 18, 20, 21, 22, 40, 310, 1000, 1001, math.MaxInt}
	for _, size := range sizes {
		for _, p := range slices.Concat(edges(size), some(&c, size, 60)) {
			for _, verb := range verbs {
				for _, prec := range precs {
					writes(t, p, size, by(verb, prec), toldPlain(p, size, by(verb, prec)))
					writes(t, p, size, sharp(verb, prec), toldPlain(p, size, sharp(verb, prec)))
				}
			}
		}
	}
}

// TestAgainstStrconv: e, f, b and x of many patterns, held against Go's own.
func TestAgainstStrconv(t *testing.T) {
	c := chance(62)
	for _, size := range sizes {
		for _, p := range some(&c, size, 3000) {
			v := math.Float64frombits(p)
			if size == 32 {
				v = float64(math.Float32frombits(uint32(p)))
			}
			prec := int(c.bits() % 20)
			for _, verb := range "efxXE" {
				writes(t, p, size, by(verb, prec), strconv.FormatFloat(v, byte(verb), prec, size))
			}
			for _, verb := range "bxX" {
				writes(t, p, size, unset(verb), strconv.FormatFloat(v, byte(verb), -1, size))
			}
		}
	}
}

// TestSpecs: all flags with many widths and precisions.
func TestSpecs(t *testing.T) {
	widths := []int{math.MinInt, -1, 0, 9, 24, 1000, 1001, math.MaxInt}
	for _, size := range sizes {
		for _, v := range []float64{0, 1.5, 0.00001, 1e21, 99.5} {
			p := bitsOf(v, size)
			for _, verb := range verbs {
				for _, prec := range []int{-1, 0, 3} {
					for flags := range 32 {
						f := flagged(by(verb, prec), flags)
						plain := toldPlain(p, size, f)
						for _, f.Wid = range widths {
							writes(t, p, size, f, toldFilled(toldSign(false, f), plain, f))
							writes(t, p|signBit(size), size, f, toldFilled("-", plain, f))
						}
					}
				}
			}
		}
	}
}

// decimal reads a text as a decimal: digits, a point, an exponent behind e or E.
func decimal(t *testing.T, s string) api.Dec {
	t.Helper()
	digits, x, _ := strings.Cut(strings.ToLower(s), "e")
	ahead, behind, _ := strings.Cut(digits, ".")
	n := 0
	if x != "" {
		var err error
		if n, err = strconv.Atoi(x); err != nil {
			t.Fatal(s, err)
		}
	}
	d, errno := bigdec.Norm(api.Dec{Digits: ahead + behind, Point: len(ahead) + n})
	if errno != api.OK {
		t.Fatal(s, errno)
	}
	return d
}

// TestRoundedP66: by e and f the text is the value, rounded by chapter 4.
func TestRoundedP66(t *testing.T) {
	c := chance(66)
	for _, size := range sizes {
		for _, p := range slices.Concat(edges(size), some(&c, size, 300)) {
			_, m, e, _ := short.Parts(p, size)
			value, _ := bigdec.Exact(m, e)
			for _, prec := range []int{-1, 0, 1, 5, 16, 330, 1000, 1001} {
				places := min(prec, 1000)
				if prec < 0 {
					places = 6
				}
				byDigits, _ := bigdec.Round(value, places+1)
				byPlaces, _ := bigdec.Places(value, places)
				for _, flags := range []int{0, 4} {
					if got := decimal(t, text(t, p, size, flagged(by('e', prec), flags))); got != byDigits {
						t.Errorf("%x of size %d by e, %d: %v, not %v", p, size, prec, got, byDigits)
					}
					if got := decimal(t, text(t, p, size, flagged(by('f', prec), flags))); got != byPlaces {
						t.Errorf("%x of size %d by f, %d: %v, not %v", p, size, prec, got, byPlaces)
					}
				}
			}
		}
	}
}

// TestReadBackP67: by v, g and G without a precision the text is read as the pattern.
func TestReadBackP67(t *testing.T) {
	c := chance(67)
	for _, size := range sizes {
		for _, p := range slices.Concat(edges(size), some(&c, size, 500)) {
			for _, f := range []api.Spec{unset('v'), unset('g'), unset('G'), sharp('v', -1), sharp('g', -1), sharp('G', math.MinInt), {Verb: 'g', Wid: 30, Prec: -1, Zero: true}} {
				s := text(t, p, size, f)
				if got, err := short.Read(decimal(t, s), size); err != api.OK || got != p {
					t.Errorf("%x of size %d by %c is %s, read as %x", p, size, f.Verb, s, got)
				}
			}
		}
	}
}

// TestDigitsAreTheValueP68: by x and X without a precision.
func TestDigitsAreTheValueP68(t *testing.T) {
	c := chance(68)
	for _, size := range sizes {
		for _, p := range slices.Concat(edges(size), some(&c, size, 1000)) {
			for _, f := range []api.Spec{unset('x'), unset('X'), sharp('x', -1)} {
				s := text(t, p, size, f)
				digits, x, ok := strings.Cut(strings.ToLower(s), "p")
				ahead, behind, _ := strings.Cut(strings.TrimPrefix(digits, "0x"), ".")
				m, read := new(big.Int).SetString(ahead+behind, 16)
				n, err := strconv.Atoi(x)
				if !ok || !read || err != nil {
					t.Fatalf("%x of size %d by %c: %q", p, size, f.Verb, s)
				}
				got := new(big.Rat).Mul(new(big.Rat).SetInt(m), power(2, n-4*len(behind)))
				if got.Cmp(valueOf(p, size)) != 0 {
					t.Errorf("%x of size %d by %c is %s", p, size, f.Verb, s)
				}
			}
		}
	}
}

// TestSignBitP69: with the sign bit a float is written as without it, - ahead.
func TestSignBitP69(t *testing.T) {
	c := chance(69)
	for _, size := range sizes {
		for _, p := range slices.Concat(edges(size), some(&c, size, 100)) {
			for _, verb := range verbs {
				for _, prec := range []int{-1, 0, 4, 30} {
					for _, flags := range []int{0, 4} {
						f := flagged(by(verb, prec), flags)
						writes(t, p|signBit(size), size, f, "-"+text(t, p, size, f))
					}
				}
			}
		}
		writes(t, infOf(size)|signBit(size), size, unset('v'), "-Inf")
	}
}

// TestOtherVerbs: nothing, and false, of a NaN and of Inf, too.
func TestOtherVerbs(t *testing.T) {
	others := []rune{math.MinInt32, math.MaxInt32, 0xd800, 0xfffd, 0x10ffff, 0x110000, 'e' + 1<<8, 'v' + 1<<16, -'g'}
	for verb := rune(-300); verb < 3000; verb++ {
		if !strings.ContainsRune(verbs, verb) || verb < 0 {
			others = append(others, verb)
		}
	}
	for _, verb := range others {
		for _, size := range sizes {
			for _, p := range []uint64{0, bitsOf(1.5, size), infOf(size), infOf(size) + 1, signBit(size)} {
				for _, f := range []api.Spec{unset(verb), flagged(api.Spec{Verb: verb, Wid: 9, Prec: 2}, 31)} {
					if s, ok := Float(p, size, f); ok || s != "" {
						t.Errorf("Float(%x, %d) by %d = %q, %v", p, size, verb, s, ok)
					}
				}
			}
		}
	}
}

// TestOtherSizes: nothing, and false.
func TestOtherSizes(t *testing.T) {
	others := []int{math.MinInt, math.MinInt + 32, math.MinInt + 64, math.MaxInt, 1<<32 + 32, 1<<32 + 64, 1<<16 + 64}
	for size := -300; size <= 300; size++ {
		if size != 32 && size != 64 {
			others = append(others, size)
		}
	}
	for _, size := range others {
		for _, verb := range verbs + "dz" {
			for _, p := range []uint64{0, b64(1.5), b32(1.5), infOf(64), infOf(32), infOf(64) + 1, math.MaxUint64} {
				for _, f := range []api.Spec{unset(verb), {Verb: verb, Wid: 9, Zero: true, Plus: true}} {
					if s, ok := Float(p, size, f); ok || s != "" {
						t.Errorf("Float(%x, %d) by %c = %q, %v", p, size, verb, s, ok)
					}
				}
			}
		}
	}
}

// TestBitsAboveThe32: they are not looked at.
func TestBitsAboveThe32(t *testing.T) {
	for _, p := range append(edges(32), infOf(32), infOf(32)+1, infOf(32)|signBit(32)) {
		for _, verb := range verbs {
			for _, above := range []uint64{1 << 32, 1 << 63, 0xdeadbeef << 32, 0x7ff00000 << 32, 0xffffffff << 32} {
				writes(t, above|p, 32, unset(verb), text(t, p, 32, unset(verb)))
				writes(t, above|p, 32, by(verb, 3), text(t, p, 32, by(verb, 3)))
			}
		}
	}
}
