package cplx

import (
	"math"
	"slices"
	"strconv"
	"strings"
	"testing"

	"platen/api"
	"platen/floats"
)

const verbs = "veEfFgGbxX"

var sizes = []int{64, 128}

// unset has neither a width nor a precision.
func unset(verb rune) api.Spec { return api.Spec{Verb: verb, Wid: -1, Prec: -1} }

// by has a precision, and no width.
func by(verb rune, prec int) api.Spec { return api.Spec{Verb: verb, Wid: -1, Prec: prec} }

// flagged answers f with the five flags that the bits of n tell.
func flagged(f api.Spec, n int) api.Spec {
	f.Plus, f.Minus, f.Sharp, f.Space, f.Zero = n&1 != 0, n&2 != 0, n&4 != 0, n&8 != 0, n&16 != 0
	return f
}

// plus answers f with Plus.
func plus(f api.Spec) api.Spec {
	f.Plus = true
	return f
}

// bitsOf answers the bits of v as a part of a complex number of that size.
func bitsOf(v float64, size int) uint64 {
	if size == 64 {
		return uint64(math.Float32bits(float32(v)))
	}
	return math.Float64bits(v)
}

// minus answers the bits of a part with its sign bit set.
func minus(bits uint64, size int) uint64 { return bits | 1<<(size/2-1) }

// chance is a row of numbers that is the same in every run.
type chance uint64

func (c *chance) bits() uint64 {
	var b uint64
	for range 4 {
		*c = *c*6364136223846793005 + 1442695040888963407
		b = b<<16 | uint64(*c>>48)
	}
	return b
}

// parts are bits of parts, with either sign bit: 0, NaN, Inf, the least, the
// greatest, and values with exponents of either sign, or without.
func parts(size int) []uint64 {
	l := []uint64{1, bitsOf(math.Inf(1), size) - 1, bitsOf(math.Inf(1), size) + 1, bitsOf(math.NaN(), size)}
	for _, v := range []float64{0, 1, 1.5, 2, 0.1, 1e6, 1e-6, 1e21, 1e30, 1e-30, 1.875, 14, math.Pi, math.Inf(1)} {
		l = append(l, bitsOf(v, size))
	}
	for _, bits := range slices.Clone(l) {
		l = append(l, minus(bits, size))
	}
	return l
}

// writes checks one answer of Complex.
func writes(t *testing.T, re, im uint64, size int, f api.Spec, want string) {
	t.Helper()
	if got, ok := Complex(re, im, size, f); !ok || got != want {
		t.Errorf("Complex(%x, %x, %d, %+v) by %c = %q, %v, not %q", re, im, size, f, f.Verb, got, ok, want)
	}
}

// refuses checks that Complex answers nothing.
func refuses(t *testing.T, re, im uint64, size int, f api.Spec) {
	t.Helper()
	if got, ok := Complex(re, im, size, f); ok || got != "" {
		t.Errorf("Complex(%x, %x, %d, %+v) by %q = %q, %v, not nothing", re, im, size, f, f.Verb, got, ok)
	}
}

// splits checks one answer of Split; two empty parts stand for nothing.
func splits(t *testing.T, s, first, second string) {
	t.Helper()
	ok := first != "" && second != ""
	if a, b, got := Split(s); a != first || b != second || got != ok {
		t.Errorf("Split(%q) = %q, %q, %v, not %q, %q, %v", s, a, b, got, first, second, ok)
	}
}

// part answers what chapter 6 writes of a part of a complex number of that size.
func part(t *testing.T, bits uint64, size int, f api.Spec) string {
	t.Helper()
	s, ok := floats.Float(bits, size/2, f)
	if !ok || s == "" {
		t.Fatalf("Float(%x, %d, %+v) by %c = %q, %v", bits, size/2, f, f.Verb, s, ok)
	}
	return s
}

// TestExamples: the chapter's own.
func TestExamples(t *testing.T) {
	b := math.Float64bits
	writes(t, b(1.5), b(-2), 128, unset('v'), "(1.5-2i)")
	writes(t, 0, 0, 64, unset('e'), "(0.000000e+00+0.000000e+00i)")
	writes(t, b(1), b(1), 128, api.Spec{Verb: 'v', Wid: 3, Prec: -1}, "(  1 +1i)")
	refuses(t, b(1), b(1), 32, unset('v'))
	splits(t, "(1e+06-2i)", "1e+06", "-2")
	splits(t, "(1i)", "", "")
}

// TestComplexP71: written out, of both sizes by every verb, with signs, exponents and flags.
func TestComplexP71(t *testing.T) {
	none, zero, inf, nan := api.Spec{Wid: -1, Prec: -1}, math.Copysign(0, -1), math.Inf(1), math.NaN()
	for _, size := range sizes {
		for _, x := range []struct {
			re, im float64
			verb   rune
			f      api.Spec
			want   string
		}{
			{0, 0, 'v', none, "(0+0i)"}, {zero, zero, 'v', none, "(-0-0i)"}, {zero, 0, 'g', none, "(-0+0i)"}, {0, zero, 'G', none, "(0-0i)"},
			{1, 2, 'v', none, "(1+2i)"}, {-1, 2, 'v', none, "(-1+2i)"}, {1, -2, 'v', none, "(1-2i)"}, {-1, -2, 'v', none, "(-1-2i)"},
			{1, 2, 'v', api.Spec{Wid: -1, Prec: -1, Plus: true}, "(+1+2i)"}, {1, 2, 'v', api.Spec{Wid: -1, Prec: -1, Space: true}, "( 1+2i)"}, {-1, -2, 'v', api.Spec{Wid: -1, Prec: -1, Space: true}, "(-1-2i)"}, {1, 2, 'v', api.Spec{Wid: -1, Prec: -1, Space: true, Plus: true}, "(+1+2i)"},
			{1e6, 1e-6, 'e', none, "(1.000000e+06+1.000000e-06i)"}, {1e6, -1e-6, 'E', none, "(1.000000E+06-1.000000E-06i)"}, {1e-6, 1e6, 'e', api.Spec{Wid: -1, Prec: 0}, "(1e-06+1e+06i)"},
			{1.5, 2.5, 'f', none, "(1.500000+2.500000i)"}, {1.5, -2.5, 'F', api.Spec{Wid: -1, Prec: 1}, "(1.5-2.5i)"}, {1.5, 2.5, 'f', api.Spec{Wid: -1, Prec: 0, Sharp: true}, "(2.+2.i)"}, {1.5, 2.5, 'f', api.Spec{Wid: -1, Prec: 0}, "(2+2i)"},
			{1e21, -1e-5, 'g', none, "(1e+21-1e-05i)"}, {1e21, -1e-5, 'G', none, "(1E+21-1E-05i)"}, {1e21, -1e-5, 'v', none, "(1e+21-1e-05i)"}, {12345, 0.5, 'g', api.Spec{Wid: -1, Prec: 2}, "(1.2e+04+0.5i)"}, {1.5, 2, 'g', api.Spec{Wid: -1, Prec: -1, Sharp: true}, "(1.50000+2.00000i)"}, {1.5, 2, 'v', api.Spec{Wid: -1, Prec: -1, Sharp: true}, "(1.5+2i)"},
			{1.5, -0.75, 'x', none, "(0x1.8p+00-0x1.8p-01i)"}, {1.875, 1.875, 'x', none, "(0x1.ep+00+0x1.ep+00i)"}, {1.875, -1.875, 'X', none, "(0X1.EP+00-0X1.EP+00i)"}, {1.5, 0, 'x', api.Spec{Wid: -1, Prec: 0}, "(0x1p+01+0x0p+00i)"},
			{inf, inf, 'v', none, "(+Inf+Infi)"}, {-inf, -inf, 'e', none, "(-Inf-Infi)"}, {inf, -inf, 'x', api.Spec{Wid: -1, Prec: -1, Space: true}, "( Inf-Infi)"}, {inf, inf, 'b', api.Spec{Wid: -1, Prec: -1, Space: true}, "( Inf+Infi)"},
			{nan, nan, 'v', none, "(NaN+NaNi)"}, {nan, nan, 'X', api.Spec{Wid: -1, Prec: -1, Plus: true}, "(+NaN+NaNi)"}, {nan, nan, 'f', api.Spec{Wid: -1, Prec: -1, Space: true}, "( NaN+NaNi)"},
		} {
			x.f.Verb = x.verb
			writes(t, bitsOf(x.re, size), bitsOf(x.im, size), size, x.f, x.want)
		}
		negative := minus(bitsOf(nan, size), size)
		writes(t, negative, negative, size, unset('v'), "(NaN+NaNi)")
	}
	writes(t, bitsOf(1, 64), bitsOf(-2, 64), 64, unset('b'), "(8388608p-23-8388608p-22i)")
	writes(t, bitsOf(1, 128), bitsOf(1<<60, 128), 128, unset('b'), "(4503599627370496p-52+4503599627370496p+8i)")
	writes(t, bitsOf(0.1, 64), bitsOf(0.1, 64), 64, by('g', 12), "(0.10000000149+0.10000000149i)")
	writes(t, bitsOf(0.1, 128), bitsOf(0.1, 128), 128, by('g', 20), "(0.10000000000000000555+0.10000000000000000555i)")
}

// TestWidthP71: each part by itself is filled, with blanks or noughts.
func TestWidthP71(t *testing.T) {
	for _, size := range sizes {
		for _, x := range []struct {
			re, im float64
			f      api.Spec
			want   string
		}{
			{1, 2, api.Spec{Wid: 4, Prec: -1}, "(   1  +2i)"}, {1, -2, api.Spec{Wid: 4, Prec: -1, Minus: true}, "(1   -2  i)"}, {1, 2, api.Spec{Wid: 4, Prec: -1, Zero: true}, "(0001+002i)"}, {-1, -2, api.Spec{Wid: 4, Prec: -1, Zero: true}, "(-001-002i)"},
			{1, 2, api.Spec{Wid: 4, Prec: -1, Zero: true, Minus: true}, "(1   +2  i)"}, {1, 2, api.Spec{Wid: 4, Prec: -1, Zero: true, Space: true}, "( 001+002i)"}, {1, 2, api.Spec{Wid: 4, Prec: -1, Zero: true, Plus: true}, "(+001+002i)"}, {1, 2, api.Spec{Wid: 4, Prec: -1, Space: true, Minus: true}, "( 1  +2  i)"},
			{1, 2, api.Spec{Wid: 1, Prec: -1}, "(1+2i)"}, {1, 2, api.Spec{Wid: 0, Prec: -1, Zero: true}, "(1+2i)"}, {1, 2, api.Spec{Wid: 2, Prec: -1}, "( 1+2i)"}, {1, 2, api.Spec{Wid: math.MinInt, Prec: math.MinInt, Zero: true}, "(1+2i)"},
			{math.Inf(1), math.NaN(), api.Spec{Wid: 6, Prec: -1, Zero: true}, "(  +Inf  +NaNi)"}, {math.NaN(), math.Inf(-1), api.Spec{Wid: 6, Prec: -1, Minus: true}, "(NaN   -Inf  i)"},
			{1, -2, api.Spec{Wid: math.MaxInt, Prec: -1}, "(" + strings.Repeat(" ", 999) + "1" + strings.Repeat(" ", 998) + "-2i)"}, {1, 2, api.Spec{Wid: 1001, Prec: -1, Zero: true}, "(" + strings.Repeat("0", 999) + "1+" + strings.Repeat("0", 998) + "2i)"},
		} {
			x.f.Verb = 'v'
			writes(t, bitsOf(x.re, size), bitsOf(x.im, size), size, x.f, x.want)
		}
	}
}

// TestPartsP71: by every verb, all flags, many widths and precisions, each
// part is what chapter 6 writes of it.
func TestPartsP71(t *testing.T) {
	for _, size := range sizes {
		all := parts(size)
		for i, re := range all {
			im := all[(i*7+3)%len(all)]
			for _, verb := range verbs {
				for flags := range 32 {
					for _, wid := range []int{math.MinInt, 0, 9, math.MaxInt} {
						for _, prec := range []int{-1, 3} {
							f := flagged(by(verb, prec), flags)
							f.Wid = wid
							writes(t, re, im, size, f, "("+part(t, re, size, f)+part(t, im, size, plus(f))+"i)")
						}
					}
				}
			}
		}
	}
}

// TestAgainstStrconv: e, f and x of many parts, held against Go's own.
func TestAgainstStrconv(t *testing.T) {
	c := chance(71)
	for range 3000 {
		re, im := c.bits(), c.bits()
		wide := complex(math.Float64frombits(re), math.Float64frombits(im))
		narrow := complex(float64(math.Float32frombits(uint32(re))), float64(math.Float32frombits(uint32(im))))
		prec := int(c.bits() % 20)
		for _, verb := range "eEfxX" {
			writes(t, re, im, 128, by(verb, prec), strconv.FormatComplex(wide, byte(verb), prec, 128))
			writes(t, re, im, 64, by(verb, prec), strconv.FormatComplex(narrow, byte(verb), prec, 64))
		}
	}
}

// TestWrongP71: other sizes and other verbs are refused, whatever the rest is.
func TestWrongP71(t *testing.T) {
	one := bitsOf(1, 128)
	for _, size := range []int{math.MinInt, -128, -64, -1, 0, 1, 16, 32, 63, 65, 96, 127, 129, 256, 64 + 1<<32, 128 + 1<<32, math.MaxInt} {
		for _, verb := range verbs {
			for flags := range 32 {
				refuses(t, one, one, size, flagged(unset(verb), flags))
			}
			refuses(t, one, math.MaxUint64, size, api.Spec{Verb: verb, Wid: 9, Prec: 3})
		}
	}
	for _, size := range sizes {
		wrong := []rune{math.MinInt32, -1, 'e' + 1<<16, 'é', 0xd800, 0xfffd, 0x10ffff, 0x110000, math.MaxInt32}
		for verb := range rune(300) {
			if !strings.ContainsRune(verbs, verb) {
				wrong = append(wrong, verb)
			}
		}
		for _, verb := range wrong {
			for _, bits := range []uint64{0, bitsOf(1.5, size), bitsOf(math.NaN(), size), bitsOf(math.Inf(-1), size)} {
				refuses(t, bits, bits, size, unset(verb))
				refuses(t, bits, bits, size, api.Spec{Verb: verb, Wid: 9, Prec: 3, Plus: true, Zero: true})
			}
		}
	}
}

// TestHandedInStays: the spec that is handed in is not changed (R3).
func TestHandedInStays(t *testing.T) {
	f := api.Spec{Verb: 'v', Wid: 3, Prec: 2, Space: true}
	before := f
	for range 2 {
		writes(t, bitsOf(1, 128), bitsOf(1, 128), 128, f, "(  1 +1i)")
	}
	if f != before {
		t.Errorf("the spec is now %+v", f)
	}
}

// TestSplitP72: written out.
func TestSplitP72(t *testing.T) {
	for _, x := range []struct{ s, first, second string }{
		{"(1+2i)", "1", "+2"}, {"(1-2i)", "1", "-2"}, {"(-1-2i)", "-1", "-2"}, {"(+1+2i)", "+1", "+2"}, {"( 1+2i)", " 1", "+2"}, {"(  1 +1i)", "  1 ", "+1"},
		{"(1e+06+2e-07i)", "1e+06", "+2e-07"}, {"(1E+06-2E+07i)", "1E+06", "-2E+07"}, {"(1p-52+3p+8i)", "1p-52", "+3p+8"}, {"(0X1.EP+00-0X1P-04i)", "0X1.EP+00", "-0X1P-04"}, {"(0x1.ep+00+0x1.ep+00i)", "0x1.ep+00", "+0x1.ep+00"},
		{"(NaN+NaNi)", "NaN", "+NaN"}, {"(+Inf-Infi)", "+Inf", "-Inf"},
		// Several signs: the last one that may be, whatever it parts.
		{"(1+2+3i)", "1+2", "+3"}, {"(1+2-3i)", "1+2", "-3"}, {"(1+-2i)", "1+", "-2"}, {"(++i)", "+", "+"}, {"(--2i)", "-", "-2"}, {"(1+2e+3e-4i)", "1", "+2e+3e-4"}, {"(1+e-+2i)", "1+e-", "+2"}, {"(e+-i)", "e+", "-"}, {"(-1e-2e+3i)", "", ""},
		{"(1+i)", "1", "+"}, {"(1-i)", "1", "-"}, {"(x+yi)", "x", "+y"}, {"(1+2ii)", "1", "+2i"}, {"(i+ii)", "i", "+i"}, {"((1+2i)", "(1", "+2"}, {"(1+2i)i)", "1", "+2i)"}, {"(é+日i)", "é", "+日"}, {"(\xff-\x00i)", "\xff", "-\x00"}, {"(\x00+\xc3i)", "\x00", "+\xc3"},
		// A letter that is none of the four parts nothing from its sign.
		{"(d+1i)", "d", "+1"}, {"(f-1i)", "f", "-1"}, {"(o+1i)", "o", "+1"}, {"(q+1i)", "q", "+1"}, {"(D+1i)", "D", "+1"}, {"(Q-1i)", "Q", "-1"}, {"(é+1i)", "é", "+1"}, {"(e +1i)", "e ", "+1"},
		// No second part, or no first one.
		{"(1i)", "", ""}, {"(+1i)", "", ""}, {"(-1i)", "", ""}, {"(+i)", "", ""}, {"(-i)", "", ""}, {"(i)", "", ""}, {"(e+1i)", "", ""}, {"(E-1i)", "", ""}, {"(p+1i)", "", ""}, {"(P-1i)", "", ""}, {"(-1e+06i)", "", ""}, {"(+0x1p-04i)", "", ""}, {"(1e+i)", "", ""},
		// What must be there is not, or not in its place.
		{"1+2i)", "", ""}, {"(1+2i", "", ""}, {"(1+2)", "", ""}, {"1+2i", "", ""}, {"1+2", "", ""}, {"(1+2I)", "", ""}, {"(1+2)i", "", ""}, {" (1+2i)", "", ""}, {"(1+2i) ", "", ""}, {"(1+2i )", "", ""}, {"[1+2i]", "", ""}, {"x(1+2i)", "", ""}, {"(1+2i)x", "", ""}, {"1(+2i)", "", ""}, {"\xff(1+2i)", "", ""},
		{"", "", ""}, {"(", "", ""}, {")", "", ""}, {"i", "", ""}, {"i)", "", ""}, {"()", "", ""}, {"(i", "", ""}, {"+", "", ""}, {"+-i)", "", ""}, {"(+-", "", ""}, {"日本", "", ""}, {"\xff\xfe", "", ""},
	} {
		splits(t, x.s, x.first, x.second)
	}
	many := strings.Repeat("1+", 1<<20)
	splits(t, "("+many+"i)", many[:len(many)-1], "+")
	splits(t, "("+strings.Repeat("e+", 1<<20)+"i)", "", "")
}

// told answers what P7.2 says of s, by going through all the ways to part it.
func told(s string) (first, second string) {
	if len(s) < 3 || s[0] != '(' || s[len(s)-2:] != "i)" {
		return "", ""
	}
	inner := s[1 : len(s)-2]
	for at := range len(inner) {
		if at > 0 && strings.Contains("+-", inner[at:at+1]) && !strings.Contains("eEpP", inner[at-1:at]) {
			first, second = inner[:at], inner[at:]
		}
	}
	return first, second
}

// TestAllShortTextsP72: all texts of few bytes out of those that tell something.
func TestAllShortTextsP72(t *testing.T) {
	const letters = "()i+-eP1"
	texts := []string{""}
	for range 6 {
		var longer []string
		for _, s := range texts {
			for i := range len(letters) {
				longer = append(longer, s+letters[i:i+1])
			}
		}
		for _, s := range longer {
			for _, s := range []string{s, "(" + s + "i)"} {
				first, second := told(s)
				splits(t, s, first, second)
			}
		}
		texts = longer
	}
}

// TestAnyTextP72: texts of any bytes.
func TestAnyTextP72(t *testing.T) {
	c := chance(72)
	for range 20000 {
		var b []byte
		for range c.bits() % 40 {
			b = append(b, byte(c.bits()))
			if c.bits()%3 == 0 {
				b = append(b, "()i+-eEpP"[c.bits()%9])
			}
		}
		for _, s := range []string{string(b), "(" + string(b) + "i)"} {
			first, second := told(s)
			splits(t, s, first, second)
		}
	}
}

// TestReadBackP73: Split of what Complex writes are the texts of its parts.
func TestReadBackP73(t *testing.T) {
	c := chance(73)
	for _, size := range sizes {
		all := parts(size)
		for range 200 {
			all = append(all, c.bits())
		}
		for _, re := range all {
			im := all[c.bits()%uint64(len(all))]
			for _, verb := range verbs {
				for _, prec := range []int{math.MinInt, -1, 0, 2, 17} {
					f := flagged(by(verb, prec), int(c.bits()%32))
					f.Wid = []int{math.MinInt, -1, 0}[c.bits()%3]
					s, ok := Complex(re, im, size, f)
					if !ok {
						t.Fatalf("Complex(%x, %x, %d, %+v) = %q, %v", re, im, size, f, s, ok)
					}
					splits(t, s, part(t, re, size, f), part(t, im, size, plus(f)))
				}
			}
		}
	}
}

// TestPairsP73: every part stands beside every other one.
func TestPairsP73(t *testing.T) {
	for _, size := range sizes {
		for _, re := range parts(size) {
			for _, im := range parts(size) {
				for _, verb := range verbs {
					for _, flags := range []int{0, 1, 8, 20} {
						f := flagged(unset(verb), flags)
						s, _ := Complex(re, im, size, f)
						splits(t, s, part(t, re, size, f), part(t, im, size, plus(f)))
					}
				}
			}
		}
	}
}

// TestUpperBitsP74: of size 64 the upper bits of a part say nothing; of size
// 128 they do.
func TestUpperBitsP74(t *testing.T) {
	const lower = 1<<32 - 1
	c := chance(74)
	all := parts(64)
	for range 50 {
		all = append(all, c.bits()&lower)
	}
	for _, re := range all {
		im := all[c.bits()%uint64(len(all))]
		for _, above := range []uint64{1 << 32, 1 << 63, ^uint64(lower), c.bits() &^ lower, c.bits() &^ lower} {
			for _, verb := range verbs {
				f := flagged(by(verb, int(c.bits()%8)-1), int(c.bits()%32))
				f.Wid = int(c.bits()%30) - 1
				want, _ := Complex(re, im, 64, f)
				writes(t, re|above, im, 64, f, want)
				writes(t, re, im|above, 64, f, want)
				writes(t, re|above, im|above, 64, f, want)
			}
		}
	}
	writes(t, math.MaxUint64-lower, math.MaxUint64-lower, 64, unset('v'), "(0+0i)")
	writes(t, 0xffffffff3f800000, 0x80000000c0000000, 64, unset('v'), "(1-2i)")
	writes(t, 1<<63, 1<<63, 128, unset('v'), "(-0-0i)")
	writes(t, 0x3ff0000000000000, 0xc000000000000000, 128, unset('v'), "(1-2i)")
}
