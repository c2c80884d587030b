package ints

import (
	"fmt"
	"math"
	"math/big"
	"strconv"
	"strings"
	"testing"
	"unicode/utf8"

	"platen/api"
	"platen/quote"
)

// unset has neither a width nor a precision.
func unset(verb rune) api.Spec { return api.Spec{Verb: verb, Wid: -1, Prec: -1} }

// numbers are those around the powers of 2 and of 10, up to the greatest.
func numbers() []uint64 {
	l := []uint64{0, 1, 2, 39, 42, 65, 92, 127, 160, 173, 233, math.MaxUint64 - 1, math.MaxUint64, 0xdeadbeefcafe0123, 0xaaaaaaaaaaaaaaaa}
	for i := range 64 {
		l = append(l, 1<<i-1, 1<<i, 1<<i+1)
	}
	for n := uint64(1); n < 1e19; n *= 10 {
		l = append(l, n-1, n, n+1)
	}
	return l
}

// some are fewer numbers, for tests of many specs.
func some() []uint64 {
	return []uint64{0, 1, 7, 8, 10, 39, 65, 255, 0xad, 0xe9, 0xd800, 0xfffd, 0x1f600, 0x110000, 1<<32 + 65, math.MaxInt64, 1 << 63, math.MaxUint64 - 41, math.MaxUint64}
}

// lengths are widths and precisions below 0, in their range, and above it.
func lengths() []int {
	return []int{math.MinInt, -1, 0, 1, 4, 9, 22, api.MaxWidth, api.MaxWidth + 1, math.MaxInt}
}

const verbs = "dvboOxXcqU"

// specs calls do with every spec of these verbs, lengths and flags.
func specs(verbs string, lengths []int, do func(f api.Spec)) {
	for _, verb := range verbs {
		for _, wid := range lengths {
			for _, prec := range lengths {
				for flags := range 32 {
					do(api.Spec{Plus: flags&1 != 0, Minus: flags&2 != 0, Sharp: flags&4 != 0, Space: flags&8 != 0, Zero: flags&16 != 0, Wid: wid, Prec: prec, Verb: verb})
				}
			}
		}
	}
}

// counted is a width or a precision as it counts: nil, if it is unset.
func counted(n int) *int {
	if n < 0 {
		return nil
	}
	if n > 1000 {
		n = 1000
	}
	return &n
}

// fillTo adds c ahead of s, or behind it, until there are n runes.
func fillTo(s, c string, n *int, behind bool) string {
	if n == nil || utf8.RuneCountInString(s) >= *n {
		return s
	}
	lacking := strings.Repeat(c, *n-utf8.RuneCountInString(s))
	if behind {
		return s + lacking
	}
	return lacking + s
}

// asPoint is what the chapter says of c, q and U.
func asPoint(n *big.Int, f api.Spec) string {
	c := rune(0xfffd)
	if n.IsInt64() && utf8.ValidRune(rune(min(max(n.Int64(), -1), 0x110000))) {
		c = rune(n.Int64())
	}
	pad := func(s string) string {
		if f.Zero && !f.Minus {
			return fillTo(s, "0", counted(f.Wid), false)
		}
		return fillTo(s, " ", counted(f.Wid), f.Minus)
	}
	switch f.Verb {
	case 'c':
		return pad(string(c))
	case 'q':
		return pad(quote.Char(c, f.Plus))
	}
	bits := new(big.Int).And(n, new(big.Int).SetUint64(math.MaxUint64))
	four := 4
	s := fillTo(fillTo(strings.ToUpper(bits.Text(16)), "0", &four, false), "0", counted(f.Prec), false)
	if f.Sharp && bits.Cmp(big.NewInt(0x10ffff)) <= 0 && quote.Plain(rune(bits.Int64())) {
		s += " '" + string(rune(bits.Int64())) + "'"
	}
	return fillTo("U+"+s, " ", counted(f.Wid), f.Minus)
}

// told is what the chapter says of n, put together step by step.
func told(n *big.Int, signed bool, f api.Spec) string {
	if !signed && f.Verb == 'v' && f.Sharp {
		f.Verb = 'x'
	}
	if strings.ContainsRune("cqU", f.Verb) {
		return asPoint(n, f)
	}
	base := map[rune]int{'d': 10, 'v': 10, 'b': 2, 'o': 8, 'O': 8, 'x': 16, 'X': 16}[f.Verb]
	digits := new(big.Int).Abs(n).Text(base)
	if f.Verb == 'X' {
		digits = strings.ToUpper(digits)
	}
	prec := counted(f.Prec)
	if prec != nil && *prec == 0 && digits == "0" {
		return fillTo("", " ", counted(f.Wid), f.Minus)
	}
	digits = fillTo(digits, "0", prec, false)
	mark := ""
	switch {
	case f.Verb == 'O':
		mark = "0o"
	case f.Sharp && f.Verb == 'o' && !strings.HasPrefix(digits, "0"):
		mark = "0"
	case f.Sharp && strings.ContainsRune("bxX", f.Verb):
		mark = "0" + string(f.Verb)
	}
	sign := ""
	switch {
	case n.Sign() < 0:
		sign = "-"
	case f.Plus:
		sign = "+"
	case f.Space:
		sign = " "
	}
	if f.Zero && !f.Minus && prec == nil {
		if w := counted(f.Wid); w != nil && len(sign+mark+digits) < *w {
			digits = strings.Repeat("0", *w-len(sign+mark+digits)) + digits
		}
	}
	return fillTo(sign+mark+digits, " ", counted(f.Wid), f.Minus)
}

// P3.1: the digits of edges, written out.
func TestDigits(t *testing.T) {
	for _, x := range []struct {
		n    uint64
		base int
		want string
	}{
		{0, 2, "0"}, {0, 8, "0"}, {0, 10, "0"}, {0, 16, "0"},
		{1, 2, "1"}, {1, 8, "1"}, {1, 10, "1"}, {1, 16, "1"},
		{10, 2, "1010"}, {8, 8, "10"}, {7, 8, "7"}, {10, 10, "10"}, {9, 10, "9"}, {15, 16, "f"}, {16, 16, "10"}, {0xabcdef, 16, "abcdef"},
		{math.MaxUint64, 2, strings.Repeat("1", 64)}, {math.MaxUint64, 8, "1777777777777777777777"},
		{math.MaxUint64, 10, "18446744073709551615"}, {math.MaxUint64, 16, "ffffffffffffffff"},
		{1 << 63, 2, "1" + strings.Repeat("0", 63)}, {1 << 63, 10, "9223372036854775808"},
	} {
		if got := Digits(x.n, x.base); got != x.want {
			t.Errorf("Digits(%d, %d) = %q, not %q", x.n, x.base, got, x.want)
		}
	}
}

// P3.1: nothing of another base.
func TestDigitsToOtherBases(t *testing.T) {
	bases := []int{math.MinInt, math.MaxInt, 1<<32 + 10, -1<<32 + 16}
	for base := -300; base <= 300; base++ {
		if base != 2 && base != 8 && base != 10 && base != 16 {
			bases = append(bases, base)
		}
	}
	for _, base := range bases {
		for _, n := range []uint64{0, 1, 10, math.MaxUint64} {
			if got := Digits(n, base); got != "" {
				t.Errorf("Digits(%d, %d) = %q", n, base, got)
			}
		}
	}
}

// P3.1 and P3.3: the digits are read as the number again, and are as few as can be.
func TestDigitsAreReadBack(t *testing.T) {
	for _, n := range numbers() {
		for _, base := range []int{2, 8, 10, 16} {
			s := Digits(n, base)
			if got, err := strconv.ParseUint(s, base, 64); err != nil || got != n {
				t.Errorf("Digits(%d, %d) = %q", n, base, s)
			}
			if s != strings.ToLower(s) || n > 0 && s[0] == '0' || n == 0 && s != "0" {
				t.Errorf("Digits(%d, %d) = %q", n, base, s)
			}
		}
	}
}

// P3.2: Signed by the examples and the edges, written out.
func TestSigned(t *testing.T) {
	for _, x := range []struct {
		v    int64
		f    api.Spec
		want string
	}{
		{-42, unset('d'), "-42"},
		{-42, api.Spec{Verb: 'd', Wid: 6, Prec: -1, Zero: true}, "-00042"},
		{-42, api.Spec{Verb: 'd', Wid: -1, Prec: 4}, "-0042"},
		{-42, api.Spec{Verb: 'd', Wid: 6, Prec: 4, Zero: true}, " -0042"},
		{-42, api.Spec{Verb: 'd', Wid: 6, Prec: 4, Zero: true, Minus: true}, "-0042 "},
		{-42, api.Spec{Verb: 'd', Wid: 6, Prec: -1, Zero: true, Minus: true}, "-42   "},
		{-42, api.Spec{Verb: 'd', Wid: 6, Prec: -1}, "   -42"},
		{-42, api.Spec{Verb: 'd', Wid: 3, Prec: -1, Plus: true, Space: true}, "-42"},
		{42, api.Spec{Verb: 'd', Wid: -1, Prec: -1, Plus: true, Space: true}, "+42"},
		{42, api.Spec{Verb: 'd', Wid: -1, Prec: -1, Space: true}, " 42"},
		{42, api.Spec{Verb: 'd', Wid: 6, Prec: -1, Space: true, Zero: true}, " 00042"},
		{42, api.Spec{Verb: 'v', Wid: 6, Prec: -1, Plus: true, Sharp: true, Zero: true}, "+00042"},
		{0, unset('d'), "0"},
		{0, api.Spec{Verb: 'd'}, ""},
		{0, api.Spec{Verb: 'd', Wid: 2}, "  "},
		{0, api.Spec{Verb: 'd', Wid: 2, Zero: true, Plus: true, Space: true}, "  "},
		{0, api.Spec{Verb: 'd', Wid: 2, Minus: true}, "  "},
		{0, api.Spec{Verb: 'd', Wid: -1, Prec: 1, Plus: true}, "+0"},
		{1, api.Spec{Verb: 'd'}, "1"},
		{0, api.Spec{Verb: 'O', Plus: true}, ""},
		{0, api.Spec{Verb: 'o', Sharp: true}, ""},
		{0, api.Spec{Verb: 'x', Sharp: true, Space: true}, ""},
		{0, api.Spec{Verb: 'o', Wid: -1, Prec: -1, Sharp: true}, "0"},
		{0, api.Spec{Verb: 'x', Wid: -1, Prec: -1, Sharp: true}, "0x0"},
		{0, unset('O'), "0o0"},
		{8, api.Spec{Verb: 'o', Wid: -1, Prec: -1, Sharp: true}, "010"},
		{8, api.Spec{Verb: 'o', Wid: -1, Prec: 2, Sharp: true}, "010"},
		{8, api.Spec{Verb: 'o', Wid: -1, Prec: 3, Sharp: true}, "010"},
		{8, api.Spec{Verb: 'o', Wid: -1, Prec: 4, Sharp: true}, "0010"},
		{8, api.Spec{Verb: 'o', Wid: 5, Prec: -1, Sharp: true, Zero: true}, "00010"},
		{-8, unset('O'), "-0o10"},
		{-8, api.Spec{Verb: 'O', Wid: 8, Prec: -1, Sharp: true, Zero: true}, "-0o00010"},
		{5, unset('b'), "101"},
		{-5, api.Spec{Verb: 'b', Wid: 8, Prec: -1, Sharp: true}, "  -0b101"},
		{-255, api.Spec{Verb: 'x', Wid: 8, Prec: -1, Sharp: true, Zero: true}, "-0x000ff"},
		{-255, api.Spec{Verb: 'X', Wid: 9, Prec: 3, Sharp: true, Zero: true}, "   -0X0FF"},
		{255, unset('X'), "FF"},
		{math.MinInt64, unset('x'), "-8000000000000000"},
		{math.MinInt64, unset('d'), "-9223372036854775808"},
		{math.MinInt64, unset('b'), "-1" + strings.Repeat("0", 63)},
		{math.MinInt64, unset('U'), "U+8000000000000000"},
		{math.MaxInt64, unset('v'), "9223372036854775807"},
	} {
		if got, ok := Signed(x.v, x.f); !ok || got != x.want {
			t.Errorf("Signed(%d, %+v) = %q, %v, not %q", x.v, x.f, got, ok, x.want)
		}
	}
}

// P3.2: Unsigned has the greatest numbers, and another v with Sharp.
func TestUnsigned(t *testing.T) {
	for _, x := range []struct {
		v    uint64
		f    api.Spec
		want string
	}{
		{255, api.Spec{Verb: 'x', Wid: 8, Prec: -1, Sharp: true, Zero: true}, "0x0000ff"},
		{255, unset('v'), "255"},
		{255, api.Spec{Verb: 'v', Wid: -1, Prec: -1, Sharp: true}, "0xff"},
		{255, api.Spec{Verb: 'v', Wid: 9, Prec: 3, Sharp: true, Plus: true}, "   +0x0ff"},
		{0, api.Spec{Verb: 'v', Wid: 2, Prec: 0, Sharp: true}, "  "},
		{255, api.Spec{Verb: 'd', Wid: -1, Prec: -1, Sharp: true}, "255"},
		{math.MaxUint64, unset('d'), "18446744073709551615"},
		{math.MaxUint64, api.Spec{Verb: 'X', Wid: -1, Prec: -1, Sharp: true, Space: true}, " 0XFFFFFFFFFFFFFFFF"},
		{1 << 63, unset('d'), "9223372036854775808"},
	} {
		if got, ok := Unsigned(x.v, x.f); !ok || got != x.want {
			t.Errorf("Unsigned(%d, %+v) = %q, %v, not %q", x.v, x.f, got, ok, x.want)
		}
	}
}

// P3.2: every verb with every choice of flags, widths and precisions.
func TestEverySpec(t *testing.T) {
	for _, n := range some() {
		signed, unsigned := big.NewInt(int64(n)), new(big.Int).SetUint64(n)
		specs(verbs, lengths(), func(f api.Spec) {
			if got, ok := Signed(int64(n), f); !ok || got != told(signed, true, f) {
				t.Fatalf("Signed(%d, %+v) = %q, %v, not %q", int64(n), f, got, ok, told(signed, true, f))
			}
			if got, ok := Unsigned(n, f); !ok || got != told(unsigned, false, f) {
				t.Fatalf("Unsigned(%d, %+v) = %q, %v, not %q", n, f, got, ok, told(unsigned, false, f))
			}
		})
	}
}

// asFmt prints n by the library's verbs, where the chapter asks for the same.
func asFmt(n any, f api.Spec) string {
	format := "%"
	for _, x := range []struct {
		set  bool
		flag string
	}{{f.Plus, "+"}, {f.Minus, "-"}, {f.Sharp, "#"}, {f.Space, " "}, {f.Zero, "0"}} {
		if x.set {
			format += x.flag
		}
	}
	if f.Wid >= 0 {
		format += strconv.Itoa(f.Wid)
	}
	if f.Prec >= 0 {
		format += "." + strconv.Itoa(f.Prec)
	}
	return fmt.Sprintf(format+string(f.Verb), n)
}

// P3.2: what the library's own print and the chapter have in common.
func TestAsTheLibrary(t *testing.T) {
	for _, n := range some() {
		specs("dboOxX", []int{-1, 0, 1, 2, 3, 4, 8, 22, api.MaxWidth}, func(f api.Spec) {
			// The library fills with noughts without counting the mark, and
			// has two marks by O with Sharp.
			if f.Zero && (f.Sharp || f.Verb == 'O') || f.Sharp && f.Verb == 'O' {
				return
			}
			if got, _ := Signed(int64(n), f); got != asFmt(int64(n), f) {
				t.Fatalf("Signed(%d, %+v) = %q, not %q", int64(n), f, got, asFmt(int64(n), f))
			}
			if got, _ := Unsigned(n, f); got != asFmt(n, f) {
				t.Fatalf("Unsigned(%d, %+v) = %q, not %q", n, f, got, asFmt(n, f))
			}
		})
	}
}

// P3.2: a width and a precision above MaxWidth are MaxWidth.
func TestAboveMaxWidth(t *testing.T) {
	for _, n := range []int{api.MaxWidth, api.MaxWidth + 1, math.MaxInt} {
		for _, x := range []struct {
			f    api.Spec
			want string
		}{
			{api.Spec{Verb: 'd', Wid: n, Prec: -1}, strings.Repeat(" ", 998) + "-9"},
			{api.Spec{Verb: 'd', Wid: n, Prec: -1, Minus: true}, "-9" + strings.Repeat(" ", 998)},
			{api.Spec{Verb: 'd', Wid: n, Prec: -1, Zero: true}, "-" + strings.Repeat("0", 998) + "9"},
			{api.Spec{Verb: 'x', Wid: n, Prec: -1, Zero: true, Sharp: true}, "-0x" + strings.Repeat("0", 996) + "9"},
			{api.Spec{Verb: 'd', Wid: -1, Prec: n}, "-" + strings.Repeat("0", 999) + "9"},
			{api.Spec{Verb: 'x', Wid: n, Prec: n, Sharp: true}, "-0x" + strings.Repeat("0", 999) + "9"},
			{api.Spec{Verb: 'U', Wid: n, Prec: n}, "U+" + strings.Repeat("0", 984) + "FFFFFFFFFFFFFFF7"},
		} {
			if got, ok := Signed(-9, x.f); !ok || got != x.want {
				t.Errorf("Signed(-9, %+v) has %d bytes, not %d", x.f, len(got), len(x.want))
			}
		}
	}
}

// P3.2: a width or a precision below 0 is none.
func TestBelowNoLength(t *testing.T) {
	for _, n := range []int{math.MinInt, math.MinInt + 1, -1 << 32, -2, -1} {
		for flags := range 4 {
			f := api.Spec{Wid: n, Prec: n, Zero: flags&1 != 0, Minus: flags&2 != 0}
			for _, x := range []struct {
				v    int64
				verb rune
				want string
			}{{0, 'd', "0"}, {-42, 'd', "-42"}, {42, 'v', "42"}, {8, 'O', "0o10"}, {65, 'c', "A"}, {65, 'q', "'A'"}, {65, 'U', "U+0041"}} {
				f.Verb = x.verb
				if got, ok := Signed(x.v, f); !ok || got != x.want {
					t.Errorf("Signed(%d, %+v) = %q, %v", x.v, f, got, ok)
				}
			}
			if f.Zero {
				f.Wid, f.Verb = 5, 'd'
				want := "-0042"
				if f.Minus {
					want = "-42  "
				}
				if got, _ := Signed(-42, f); got != want {
					t.Errorf("Signed(-42, %+v) = %q", f, got)
				}
			}
		}
	}
}

// P3.2: c, q and U of every code point.
func TestCodePoints(t *testing.T) {
	for c := rune(0); c <= 0x110000; c++ {
		if !utf8.ValidRune(c) {
			continue
		}
		behind := ""
		if quote.Plain(c) {
			behind = " '" + string(c) + "'"
		}
		for _, x := range []struct {
			f    api.Spec
			want string
		}{
			{unset('c'), string(c)},
			{unset('q'), quote.Char(c, false)},
			{api.Spec{Verb: 'q', Wid: -1, Prec: -1, Plus: true}, quote.Char(c, true)},
			{unset('U'), fmt.Sprintf("U+%04X", c)},
			{api.Spec{Verb: 'U', Wid: -1, Prec: -1, Sharp: true}, fmt.Sprintf("U+%04X", c) + behind},
		} {
			if got, ok := Signed(int64(c), x.f); !ok || got != x.want {
				t.Fatalf("Signed(%x, %+v) = %q, %v, not %q", c, x.f, got, ok, x.want)
			}
			if got, ok := Unsigned(uint64(c), x.f); !ok || got != x.want {
				t.Fatalf("Unsigned(%x, %+v) = %q, %v, not %q", c, x.f, got, ok, x.want)
			}
		}
	}
}

// P3.2: what is no code point is fffd by c and q, and only its bits by U.
func TestNoCodePoints(t *testing.T) {
	for _, n := range []uint64{0xd800, 0xdabc, 0xdfff, 0x110000, 0x7fffffff, 0x80000041, 0xffffffff, 1 << 32, 1<<32 + 65, 1<<40 + 65, math.MaxInt64, 1 << 63, 1<<63 + 65, math.MaxUint64 - 64, math.MaxUint64} {
		for _, x := range []struct {
			f    api.Spec
			want string
		}{
			{unset('c'), "\ufffd"},
			{api.Spec{Verb: 'c', Wid: 3, Prec: -1}, "  \ufffd"},
			{unset('q'), `'\ufffd'`},
			{api.Spec{Verb: 'q', Wid: -1, Prec: -1, Plus: true}, `'\ufffd'`},
			{api.Spec{Verb: 'U', Wid: -1, Prec: -1, Sharp: true}, fmt.Sprintf("U+%04X", n)},
		} {
			if got, ok := Signed(int64(n), x.f); !ok || got != x.want {
				t.Errorf("Signed(%x, %+v) = %q, %v, not %q", n, x.f, got, ok, x.want)
			}
			if got, ok := Unsigned(n, x.f); !ok || got != x.want {
				t.Errorf("Unsigned(%x, %+v) = %q, %v, not %q", n, x.f, got, ok, x.want)
			}
		}
	}
}

// P3.2: how c, q and U are filled, and which flags say nothing there.
func TestPointsAreFilled(t *testing.T) {
	for _, x := range []struct {
		v    int64
		f    api.Spec
		want string
	}{
		{0xe9, api.Spec{Verb: 'c', Wid: 3, Prec: 0}, "  \u00e9"},
		{0xe9, api.Spec{Verb: 'c', Wid: 3, Zero: true}, "00\u00e9"},
		{0xe9, api.Spec{Verb: 'c', Wid: 3, Zero: true, Minus: true, Plus: true, Space: true, Sharp: true}, "\u00e9  "},
		{0, api.Spec{Verb: 'c', Wid: -1, Prec: 0}, "\x00"},
		{39, unset('q'), `'\''`},
		{0xe9, api.Spec{Verb: 'q', Wid: 5}, "  '\u00e9'"},
		{0xe9, api.Spec{Verb: 'q', Wid: 5, Zero: true}, "00'\u00e9'"},
		{0xe9, api.Spec{Verb: 'q', Wid: 10, Plus: true, Minus: true}, `'\u00e9'  `},
		{0xe9, api.Spec{Verb: 'q', Wid: -1, Sharp: true, Space: true}, "'\u00e9'"},
		{65, api.Spec{Verb: 'U', Wid: -1, Prec: -1, Sharp: true}, "U+0041 'A'"},
		{39, api.Spec{Verb: 'U', Wid: -1, Prec: -1, Sharp: true}, "U+0027 '''"},
		{10, api.Spec{Verb: 'U', Wid: -1, Prec: -1, Sharp: true}, "U+000A"},
		{65, api.Spec{Verb: 'U', Wid: -1, Prec: 0}, "U+0041"},
		{0, api.Spec{Verb: 'U', Wid: -1, Prec: 0}, "U+0000"},
		{65, api.Spec{Verb: 'U', Wid: -1, Prec: 5, Plus: true, Space: true}, "U+00041"},
		{65, api.Spec{Verb: 'U', Wid: 8, Prec: -1, Zero: true}, "  U+0041"},
		{65, api.Spec{Verb: 'U', Wid: 8, Prec: -1, Zero: true, Minus: true}, "U+0041  "},
		{0xe9, api.Spec{Verb: 'U', Wid: 12, Prec: -1, Zero: true, Sharp: true}, "  U+00E9 '\u00e9'"},
		{-1, unset('U'), "U+FFFFFFFFFFFFFFFF"},
		{-1, api.Spec{Verb: 'U', Wid: -1, Prec: 18}, "U+00FFFFFFFFFFFFFFFF"},
	} {
		if got, ok := Signed(x.v, x.f); !ok || got != x.want {
			t.Errorf("Signed(%d, %+v) = %q, %v, not %q", x.v, x.f, got, ok, x.want)
		}
	}
}

// P3.2: any other verb says nothing.
func TestOtherVerbs(t *testing.T) {
	others := []rune{math.MinInt32, math.MaxInt32, 'd' + 0x10000, 'd' - 0x100, 0xd800, 0x110000, 0xfffd}
	for verb := rune(-300); verb < 0x300; verb++ {
		if verb < 0 || !strings.ContainsRune(verbs, verb) {
			others = append(others, verb)
		}
	}
	for _, verb := range others {
		for _, f := range []api.Spec{unset(verb), {Verb: verb}, {Verb: verb, Wid: 9, Prec: 3, Sharp: true, Plus: true, Zero: true}} {
			if got, ok := Signed(1, f); ok || got != "" {
				t.Errorf("Signed(1, %+v) = %q, %v", f, got, ok)
			}
			if got, ok := Unsigned(1, f); ok || got != "" {
				t.Errorf("Unsigned(1, %+v) = %q, %v", f, got, ok)
			}
		}
	}
}

// read reads a text back: its sign, its mark, its digits by their base.
func read(s string, f api.Spec) (*big.Int, bool) {
	s = strings.Trim(s, " ")
	minus := strings.HasPrefix(s, "-")
	s = strings.TrimLeft(s, "+-")
	base := map[rune]int{'d': 10, 'v': 10, 'b': 2, 'o': 8, 'O': 8, 'x': 16, 'X': 16}[f.Verb]
	for _, mark := range []string{"0b", "0o", "0x", "0X"} {
		if f.Sharp && mark == "0"+string(f.Verb) || f.Verb == 'O' && mark == "0o" {
			s = strings.TrimPrefix(s, mark)
		}
	}
	n, ok := new(big.Int).SetString(s, base)
	if ok && minus {
		n.Neg(n)
	}
	return n, ok
}

// P3.3: the digits, read by their base, are the number again.
func TestNumbersAreReadBack(t *testing.T) {
	for _, n := range numbers() {
		specs("dvboOxX", []int{-1, 1, 24, 80}, func(f api.Spec) {
			s, _ := Signed(int64(n), f)
			if got, ok := read(s, f); !ok || !got.IsInt64() || got.Int64() != int64(n) {
				t.Fatalf("Signed(%d, %+v) = %q", int64(n), f, s)
			}
			s, _ = Unsigned(n, f)
			if f.Verb == 'v' && f.Sharp {
				f.Verb = 'x'
			}
			if got, ok := read(s, f); !ok || !got.IsUint64() || got.Uint64() != n {
				t.Fatalf("Unsigned(%d, %+v) = %q", n, f, s)
			}
		})
	}
}

// P3.4: what is written has the width's runes, or, where it has more without a
// width, as many as that.
func TestWidths(t *testing.T) {
	for _, n := range some() {
		specs(verbs, lengths(), func(f api.Spec) {
			free := f
			free.Wid = -1
			for _, x := range []struct{ text, free string }{
				{first(Signed(int64(n), f)), first(Signed(int64(n), free))},
				{first(Unsigned(n, f)), first(Unsigned(n, free))},
			} {
				want := max(min(f.Wid, 1000), utf8.RuneCountInString(x.free))
				if got := utf8.RuneCountInString(x.text); got != want {
					t.Fatalf("%d by %+v: %q has %d runes, not %d", n, f, x.text, got, want)
				}
			}
		})
	}
}

func first(s string, ok bool) string { return s }

// P3.5: with Plus every number by d has a sign (where it has digits at all).
func TestSigns(t *testing.T) {
	for _, n := range numbers() {
		specs("d", []int{-1, 1, 2, 9, 30}, func(f api.Spec) {
			f.Plus = true
			sign := "+"
			if int64(n) < 0 {
				sign = "-"
			}
			if s := strings.Trim(first(Signed(int64(n), f)), " "); !strings.HasPrefix(s, sign) || strings.ContainsAny(s[1:], "+-") {
				t.Fatalf("Signed(%d, %+v) = %q", int64(n), f, s)
			}
			if s := strings.Trim(first(Unsigned(n, f)), " "); !strings.HasPrefix(s, "+") || strings.ContainsAny(s[1:], "+-") {
				t.Fatalf("Unsigned(%d, %+v) = %q", n, f, s)
			}
		})
	}
}

// P3.6: Signed and Unsigned say the same of what is not below 0, but by v with Sharp.
func TestSignedAndUnsigned(t *testing.T) {
	for _, n := range numbers() {
		if n > math.MaxInt64 {
			continue
		}
		specs(verbs+"zs", []int{-1, 0, 5, 70}, func(f api.Spec) {
			s, ok := Signed(int64(n), f)
			u, okay := Unsigned(n, f)
			if same := s == u && ok == okay; !same && !(f.Verb == 'v' && f.Sharp) {
				t.Fatalf("%d by %+v: %q, %v and %q, %v", n, f, s, ok, u, okay)
			}
		})
	}
	f := api.Spec{Verb: 'v', Sharp: true, Wid: -1, Prec: -1}
	if s, u := first(Signed(9, f)), first(Unsigned(9, f)); s != "9" || u != "0x9" {
		t.Errorf("9 by v with Sharp: %q and %q", s, u)
	}
}
