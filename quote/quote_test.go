package quote

import (
	"encoding/hex"
	"fmt"
	"math"
	"strings"
	"testing"
	"unicode/utf8"

	"platen/api"
)

// unset has neither a width nor a precision.
func unset(verb rune) api.Spec { return api.Spec{Verb: verb, Wid: -1, Prec: -1} }

// plainRange is the chapter's list of plain code points, as pairs of ends.
func plainRange(c int) bool {
	for _, r := range [][2]int{{0x20, 0x7e}, {0xa1, 0xac}, {0xae, 0xd7ff}, {0xe000, 0xfffc}, {0x10000, 0x10ffff}} {
		if c >= r[0] && c <= r[1] {
			return true
		}
	}
	return false
}

// written is what the chapter says of a code point in quotes q.
func written(c int, q string, ascii bool) string {
	switch {
	case c == int(q[0]) || c == '\\':
		return `\` + string(rune(c))
	case c >= 7 && c <= 13:
		return strings.Fields(`\a \b \t \n \v \f \r`)[c-7]
	case plainRange(c) && !(ascii && c > 0x7e):
		return string(rune(c))
	case c < 0x80:
		return fmt.Sprintf(`\x%02x`, c)
	case c < 0x10000:
		return fmt.Sprintf(`\u%04x`, c)
	}
	return fmt.Sprintf(`\U%08x`, c)
}

// texts are ordinary texts, every short text of edge bytes, and long ones.
func texts() []string {
	l := []string{
		"", "a", "hello, world", "\"", "\\", "'", "`", "\\\"", "\\x61", "\"\"", "\u00e9\u65e5", "\x00\x1f\x7f\u0080\u00a0\u00ad",
		"\ufffd", "\xef\xbf\xbd\xef\xbf", "\ufffc\ufffe\uffff\ufeff", "\U00010000\U0010ffff\ud7ff\ue000", "\a\b\t\n\v\f\r", "abtnvfrxuU",
		strings.Repeat("a\u00e9\u65e5\U0001f600\xff\n", 700),
	}
	edges := []byte{0x00, 0x09, 0x0a, '"', '\\', 'a', 'x', 0x7f, 0x80, 0x9f, 0xa9, 0xbd, 0xbf, 0xc3, 0xe0, 0xed, 0xef, 0xf0, 0xf4, 0xff}
	for a := range 256 {
		l = append(l, string([]byte{byte(a)}))
	}
	for _, a := range edges {
		for _, b := range edges {
			l = append(l, string([]byte{a, b}))
			for _, c := range edges {
				l = append(l, string([]byte{a, b, c}), string([]byte{a, b, c, 0x80}), string([]byte{'z', a, b, c}))
			}
		}
	}
	return l
}

// P2.1: the plain ones are those of the chapter's ranges, whatever number it is.
func TestPlain(t *testing.T) {
	for c := -0x1000; c < 0x111000; c++ {
		if Plain(rune(c)) != plainRange(c) {
			t.Fatalf("Plain(%x) = %v", c, Plain(rune(c)))
		}
	}
	for _, c := range []rune{math.MinInt32, math.MaxInt32, 0x7fff0041, -0x20} {
		if Plain(c) {
			t.Errorf("Plain(%x)", c)
		}
	}
}

// P2.1 and P2.2: every code point in both quotes, with ascii and without.
func TestCodePointsInQuotes(t *testing.T) {
	for c := range 0x110000 {
		if !utf8.ValidRune(rune(c)) {
			continue
		}
		for _, ascii := range []bool{false, true} {
			if got, want := Quote(string(rune(c)), ascii), `"`+written(c, `"`, ascii)+`"`; got != want {
				t.Fatalf("Quote of %x, %v: %s, not %s", c, ascii, got, want)
			}
			if got, want := Char(rune(c), ascii), `'`+written(c, `'`, ascii)+`'`; got != want {
				t.Fatalf("Char(%x, %v) = %s, not %s", c, ascii, got, want)
			}
		}
	}
}

// P2.1: the forms and their edges, written out.
func TestQuote(t *testing.T) {
	for _, x := range []struct {
		s, free, ascii string
	}{
		{"", `""`, `""`},
		{"a\n\"", `"a\n\""`, `"a\n\""`},
		{"\u00e9", "\"\u00e9\"", `"\u00e9"`},
		{"\xff", `"\xff"`, `"\xff"`},
		{"\xef\xbf", `"\xef\xbf"`, `"\xef\xbf"`},
		{"\ufffd", `"\ufffd"`, `"\ufffd"`},
		{"\xef\ufffd\xbd", `"\xef\ufffd\xbd"`, `"\xef\ufffd\xbd"`},
		{"'`\\", "\"'`\\\\\"", "\"'`\\\\\""},
		{"\a\b\t\n\v\f\r", `"\a\b\t\n\v\f\r"`, `"\a\b\t\n\v\f\r"`},
		{"\x00\x06\x0e\x1b\x1f\x7f", `"\x00\x06\x0e\x1b\x1f\x7f"`, `"\x00\x06\x0e\x1b\x1f\x7f"`},
		{" ~", `" ~"`, `" ~"`},
		{"\u0080\u00a0\u00a1\u00ad", "\"\\u0080\\u00a0\u00a1\\u00ad\"", `"\u0080\u00a0\u00a1\u00ad"`},
		{"\ufffc\ufffe\uffff", "\"\ufffc\\ufffe\\uffff\"", `"\ufffc\ufffe\uffff"`},
		{"\U00010000\U0010ffff", "\"\U00010000\U0010ffff\"", `"\U00010000\U0010ffff"`},
		{"\xc3A\xa9", `"\xc3A\xa9"`, `"\xc3A\xa9"`},
		{"\xed\xa0\x80", `"\xed\xa0\x80"`, `"\xed\xa0\x80"`},
	} {
		if got := Quote(x.s, false); got != x.free {
			t.Errorf("Quote(%x, false) = %s, not %s", x.s, got, x.free)
		}
		if got := Quote(x.s, true); got != x.ascii {
			t.Errorf("Quote(%x, true) = %s, not %s", x.s, got, x.ascii)
		}
	}
}

// P2.2: a text is in quotes what its runes are, one by one.
func TestQuoteIsRuneByRune(t *testing.T) {
	for _, s := range texts() {
		for _, ascii := range []bool{false, true} {
			want := `"`
			for rest := s; rest != ""; {
				c, n := utf8.DecodeRuneInString(rest)
				if c == utf8.RuneError && n == 1 {
					want += fmt.Sprintf(`\x%02x`, rest[0])
				} else {
					want += written(int(c), `"`, ascii)
				}
				rest = rest[n:]
			}
			if got := Quote(s, ascii); got != want+`"` {
				t.Fatalf("Quote(%x, %v) = %s, not %s", s, ascii, got, want)
			}
		}
	}
}

// P2.2: what is no code point counts as fffd.
func TestChar(t *testing.T) {
	for _, c := range []rune{-1, math.MinInt32, math.MaxInt32, 0xd800, 0xdfff, 0x110000, 0xfffd} {
		for _, ascii := range []bool{false, true} {
			if got := Char(c, ascii); got != `'\ufffd'` {
				t.Errorf("Char(%x, %v) = %s", c, ascii, got)
			}
		}
	}
	for _, x := range []struct {
		c           rune
		free, ascii string
	}{
		{39, `'\''`, `'\''`}, {'"', `'"'`, `'"'`}, {'\\', `'\\'`, `'\\'`}, {'A', "'A'", "'A'"}, {0, `'\x00'`, `'\x00'`},
		{0xe9, "'\u00e9'", `'\u00e9'`}, {'\n', `'\n'`, `'\n'`}, {0x1f600, "'\U0001f600'", `'\U0001f600'`},
	} {
		if Char(x.c, false) != x.free || Char(x.c, true) != x.ascii {
			t.Errorf("Char(%x) = %s, %s", x.c, Char(x.c, false), Char(x.c, true))
		}
	}
}

// P2.2: Raw of every code point, alone and amid others.
func TestRawOfCodePoints(t *testing.T) {
	for c := range 0x110000 {
		if !utf8.ValidRune(rune(c)) {
			continue
		}
		want := !(c < 0x20 && c != 9) && c != 0x60 && c != 0x7f && c != 0xfeff
		for _, s := range []string{string(rune(c)), "a" + string(rune(c)) + "b"} {
			got, ok := Raw(s)
			if ok != want || ok && got != "`"+s+"`" || !ok && got != "" {
				t.Fatalf("Raw(%x) = %q, %v", s, got, ok)
			}
		}
	}
}

// P2.2: Raw's examples, and broken runes.
func TestRaw(t *testing.T) {
	for _, s := range []string{"", `a\b`, `"`, "\t", "\ufffd", "\u0080\u00e9", "\U0010ffff"} {
		if got, ok := Raw(s); !ok || got != "`"+s+"`" {
			t.Errorf("Raw(%q) = %q, %v", s, got, ok)
		}
	}
	for _, s := range []string{"\xff", "a\xef\xbf", "\ufffd\xc3", "\xed\xa0\x80", "`", "a\nb", "\r", "\x00", "\x7f", "\ufeff", "ab\ufeff"} {
		if got, ok := Raw(s); ok || got != "" {
			t.Errorf("Raw(%q) = %q, %v", s, got, ok)
		}
	}
}

// P2.2: what is no Quote of any text is refused.
func TestUnquoteOfOthers(t *testing.T) {
	for _, s := range []string{
		"", `"`, `a`, `"a`, `a"`, `'a'`, "`a`", `"""`, `"a"b"`, ` "a"`, `"a" `, `"a""`, `""a"`,
		`"\"`, `"\`, `"\\\"`, `"\x"`, `"\x6"`, `"\xf"`, `"\u"`, `"\u00e"`, `"\U0001f60"`, `"\U"`, `"\xf`, `"\u00`,
		`"\x61"`, `\x61`, `"\u0061"`, `"\U00000061"`, `"\U000000e9"`, `"\u000a"`, `"\x0a"`, `"\x07"`, `"\x22"`, `"\x5c"`,
		`"\xFF"`, `"\u00E9"`, `"\u00eg"`, `"\xgg"`, `"\x-1"`, `"\u+0e9"`, `"\101"`, `"\0"`, `"\e"`, `"\z"`, `"\'"`, `"\A"`,
		`"\xc3\xa9"`, `"\xef\xbf\xbd"`, `"\xe6\x97\xa5"`, "\"\xff\"", "\"\xef\xbf\"", "\"\n\"", "\"\x00\"", "\"\x7f\"", "\"\u00ad\"", "\"\ufffd\"", "\"\ufeff\x01\"",
		`"\ud800"`, `"\udfff"`, `"\U0000d800"`, `"\U00110000"`, `"\Uffffffff"`, `"\U80000041"`, `"\U0000ffff"`, `"\uffff0"` + "\n",
		"\"\u00e9\\u00e9\"", "\"\\U0001f600\u65e5\"", `"\u007f"`, `"\u001f"`,
	} {
		if got, ok := Unquote(s); ok || got != "" {
			t.Errorf("Unquote(%q) = %q, %v", s, got, ok)
		}
	}
}

// P2.2: a Quote is read, and near it only what is a Quote, too.
func TestUnquoteNearQuotes(t *testing.T) {
	isQuote := func(s, of string) bool { return Quote(of, false) == s || Quote(of, true) == s }
	for _, s := range []string{"", "a\"\\\n", "\u00e9\xff\x00", "\U0001f600\ufffd\u00ad", "\xc3 \xa9"} {
		for _, q := range []string{Quote(s, false), Quote(s, true)} {
			for i := range len(q) {
				for b := range 256 {
					for _, near := range []string{q[:i] + string([]byte{byte(b)}) + q[i+1:], q[:i] + string([]byte{byte(b)}) + q[i:], q[:i] + q[i+1:]} {
						if got, ok := Unquote(near); ok && !isQuote(near, got) || !ok && got != "" {
							t.Fatalf("Unquote(%q) = %q, %v", near, got, ok)
						}
					}
				}
			}
		}
	}
}

// P2.5: Unquote of Quote is the text.
func TestUnquoteOfQuote(t *testing.T) {
	for _, s := range texts() {
		for _, ascii := range []bool{false, true} {
			if got, ok := Unquote(Quote(s, ascii)); !ok || got != s {
				t.Fatalf("Unquote of %s = %x, %v, not %x", Quote(s, ascii), got, ok, s)
			}
		}
	}
	for c := range 0x110000 {
		if s := string(rune(c)); c%7 == 0 || c < 0x3000 || c&0xffff > 0xff00 {
			if got, ok := Unquote(Quote(s, true)); !ok || got != s {
				t.Fatalf("Unquote of %s = %x, %v", Quote(s, true), got, ok)
			}
			if got, ok := Unquote(Quote(s, false)); !ok || got != s {
				t.Fatalf("Unquote of %s = %x, %v", Quote(s, false), got, ok)
			}
		}
	}
}

// P2.6: with ascii there are bytes from 20 to 7e alone.
func TestAsciiBytes(t *testing.T) {
	check := func(s string) {
		for i := range len(s) {
			if s[i] < 0x20 || s[i] > 0x7e {
				t.Fatalf("%q", s)
			}
		}
	}
	for _, s := range texts() {
		check(Quote(s, true))
		f := unset('q')
		f.Plus = true
		q, _ := Text(s, f)
		check(q)
	}
	for c := rune(-3); c < 0x110003; c++ {
		check(Char(c, true))
	}
}

// P2.3: the flags, by which marks and blanks stand between the digits.
func TestHex(t *testing.T) {
	for _, x := range []struct {
		s    string
		f    api.Spec
		want string
	}{
		{"ab", api.Spec{Verb: 'x', Space: true, Sharp: true, Wid: -1, Prec: -1}, "0x61 0x62"},
		{"ab", api.Spec{Verb: 'x', Sharp: true, Wid: -1, Prec: -1}, "0x6162"},
		{"ab", api.Spec{Verb: 'x', Space: true, Wid: -1, Prec: -1}, "61 62"},
		{"ab", api.Spec{Verb: 'x', Wid: -1, Prec: -1}, "6162"},
		{"\xab\xcd\x0f", api.Spec{Verb: 'X', Wid: -1, Prec: -1}, "ABCD0F"},
		{"\xab\xcd\x0f", api.Spec{Verb: 'x', Wid: -1, Prec: -1}, "abcd0f"},
		{"\xab\xcd", api.Spec{Verb: 'X', Sharp: true, Wid: -1, Prec: -1}, "0XABCD"},
		{"\xab\xcd", api.Spec{Verb: 'X', Sharp: true, Space: true, Wid: -1, Prec: -1}, "0XAB 0XCD"},
		{"\xab", api.Spec{Verb: 'X', Sharp: true, Space: true, Wid: -1, Prec: -1}, "0XAB"},
		{"\xab", api.Spec{Verb: 's', Wid: -1, Prec: -1}, "ab"},
		{"\xab", api.Spec{Verb: 0, Sharp: true, Wid: -1, Prec: -1}, "0xab"},
		{"", api.Spec{Verb: 'x', Sharp: true, Space: true, Wid: -1, Prec: -1}, ""},
		{"", api.Spec{Verb: 'x', Sharp: true, Wid: 3, Prec: -1}, "   "},
		{"ab", api.Spec{Verb: 'x', Sharp: true, Space: true}, ""},
		{"ab", api.Spec{Verb: 'x', Sharp: true, Wid: 2}, "  "},
		{"ab", api.Spec{Verb: 'x', Wid: -1, Prec: 1}, "61"},
		{"ab", api.Spec{Verb: 'x', Wid: -1, Prec: 2}, "6162"},
		{"ab", api.Spec{Verb: 'x', Wid: -1, Prec: 3}, "6162"},
		{"ab", api.Spec{Verb: 'x', Wid: -1, Prec: math.MaxInt}, "6162"},
		{"ab", api.Spec{Verb: 'x', Wid: -1, Prec: math.MinInt}, "6162"},
		{"\u00e9b", api.Spec{Verb: 'x', Wid: -1, Prec: 1}, "c3"},
		{"\u00e9b", api.Spec{Verb: 'x', Space: true, Wid: -1, Prec: 2}, "c3 a9"},
		{"a", api.Spec{Verb: 'x', Wid: 4, Prec: -1}, "  61"},
		{"a", api.Spec{Verb: 'x', Minus: true, Wid: 4, Prec: -1}, "61  "},
		{"a", api.Spec{Verb: 'x', Zero: true, Sharp: true, Wid: 6, Prec: -1}, "000x61"},
		{"a", api.Spec{Verb: 'x', Plus: true, Wid: 2, Prec: -1}, "61"},
	} {
		if got := Hex(x.s, x.f); got != x.want {
			t.Errorf("Hex(%q, %+v) = %q, not %q", x.s, x.f, got, x.want)
		}
	}
}

// P2.7: the digits of a text are read back as its bytes.
func TestHexIsReadBack(t *testing.T) {
	for _, s := range texts() {
		for flags := range 8 {
			f := unset('x')
			f.Space, f.Sharp = flags&1 != 0, flags&2 != 0
			if flags&4 != 0 {
				f.Verb = 'X'
			}
			got := strings.ReplaceAll(Hex(s, f), " ", "")
			got = strings.ReplaceAll(strings.ReplaceAll(got, "0x", ""), "0X", "")
			if b, err := hex.DecodeString(got); err != nil || string(b) != s {
				t.Fatalf("Hex(%x, %+v) = %s", s, f, Hex(s, f))
			}
		}
	}
}

// P2.4: the verbs and what the flags, the width and the precision do by them.
func TestText(t *testing.T) {
	for _, x := range []struct {
		s    string
		f    api.Spec
		want string
	}{
		{"\u00e9b", api.Spec{Verb: 's', Wid: -1, Prec: -1}, "\u00e9b"},
		{"\u00e9b", api.Spec{Verb: 'v', Wid: -1, Prec: -1}, "\u00e9b"},
		{"\u00e9b", api.Spec{Verb: 's', Wid: 3, Prec: 1}, "  \u00e9"},
		{"\u00e9b", api.Spec{Verb: 'v', Wid: 3, Prec: 1, Minus: true}, "\u00e9  "},
		{"\u00e9b", api.Spec{Verb: 'v', Wid: 3, Prec: 1, Zero: true}, "00\u00e9"},
		{"\u00e9b", api.Spec{Verb: 's', Wid: 2, Prec: 0}, "  "},
		{"\u00e9b", api.Spec{Verb: 's', Wid: 2, Prec: 2}, "\u00e9b"},
		{"\u00e9b", api.Spec{Verb: 's', Wid: 2, Prec: math.MaxInt}, "\u00e9b"},
		{"\u00e9b", api.Spec{Verb: 's', Wid: math.MinInt, Prec: math.MinInt}, "\u00e9b"},
		{"a\xff\xfe", api.Spec{Verb: 's', Wid: 4, Prec: 2}, "  a\xff"},
		{"a\n", api.Spec{Verb: 's', Wid: -1, Prec: -1, Sharp: true, Plus: true, Space: true}, "a\n"},
		{"a\n", api.Spec{Verb: 'v', Wid: -1, Prec: -1, Plus: true, Space: true}, "a\n"},
		{"\u00e9\n", api.Spec{Verb: 'v', Wid: 7, Prec: 1, Sharp: true}, "  \"\u00e9\\n\""},
		{"\u00e9\n", api.Spec{Verb: 'v', Wid: 7, Prec: 0, Sharp: true, Minus: true, Plus: true}, "\"\u00e9\\n\"  "},
		{"", api.Spec{Verb: 'v', Wid: 4, Prec: -1, Sharp: true, Zero: true}, `00""`},
		{"\u00e9", api.Spec{Verb: 'q', Wid: -1, Prec: -1, Plus: true}, `"\u00e9"`},
		{"\u00e9", api.Spec{Verb: 'q', Wid: 5, Prec: -1}, "  \"\u00e9\""},
		{"\u00e9b", api.Spec{Verb: 'q', Wid: 10, Prec: 1, Plus: true}, `  "\u00e9"`},
		{"\u00e9b", api.Spec{Verb: 'q', Wid: 5, Prec: 1, Sharp: true, Minus: true}, "`\u00e9`  "},
		{"\u00e9b", api.Spec{Verb: 'q', Wid: -1, Prec: -1, Sharp: true, Plus: true}, "`\u00e9b`"},
		{"ab`", api.Spec{Verb: 'q', Wid: -1, Prec: -1, Sharp: true}, "\"ab`\""},
		{"ab`", api.Spec{Verb: 'q', Wid: -1, Prec: 2, Sharp: true}, "`ab`"},
		{"\u00e9\n", api.Spec{Verb: 'q', Wid: -1, Prec: -1, Sharp: true, Plus: true}, `"\u00e9\n"`},
		{"\u00e9\n", api.Spec{Verb: 'q', Wid: -1, Prec: -1, Sharp: true}, "\"\u00e9\\n\""},
		{"ab", api.Spec{Verb: 'q', Wid: 4, Prec: 0, Zero: true}, `00""`},
		{"\xffb", api.Spec{Verb: 'q', Wid: -1, Prec: 1}, `"\xff"`},
		{"\xe9b", api.Spec{Verb: 'x', Wid: 8, Prec: 1, Sharp: true}, "    0xe9"},
		{"\xe9b", api.Spec{Verb: 'X', Wid: -1, Prec: -1, Space: true}, "E9 62"},
		{"\u00e9", api.Spec{Verb: 'x', Wid: -1, Prec: 1}, "c3"},
	} {
		if got, ok := Text(x.s, x.f); !ok || got != x.want {
			t.Errorf("Text(%q, %+v) = %q, %v, not %q", x.s, x.f, got, ok, x.want)
		}
	}
}

// P2.4: any other verb says nothing.
func TestTextByOtherVerbs(t *testing.T) {
	for verb := rune(-300); verb < 0x300; verb++ {
		want := verb > 0 && strings.ContainsRune("svqxX", verb)
		f := unset(verb)
		for _, f.Sharp = range []bool{false, true} {
			if got, ok := Text("ab", f); ok != want || !ok && got != "" {
				t.Errorf("Text by %q = %q, %v", verb, got, ok)
			}
		}
	}
	for _, verb := range []rune{math.MinInt32, math.MaxInt32, 's' + 0x10000, 0xd800} {
		if got, ok := Text("ab", api.Spec{Verb: verb, Wid: 9}); ok || got != "" {
			t.Errorf("Text by %x = %q, %v", verb, got, ok)
		}
	}
}

// P2.3 and P2.4: a precision above MaxWidth counts as MaxWidth.
func TestPrecisionAboveMaxWidth(t *testing.T) {
	s := strings.Repeat("\u00e9", api.MaxWidth+5)
	for _, n := range []int{api.MaxWidth, api.MaxWidth + 1, len(s), len(s) + 1, math.MaxInt} {
		f := api.Spec{Verb: 's', Wid: -1, Prec: n}
		if got, _ := Text(s, f); got != s[:2*api.MaxWidth] {
			t.Errorf("s, precision %d: %d bytes", n, len(got))
		}
		f.Verb = 'q'
		if got, _ := Text(s, f); got != `"`+s[:2*api.MaxWidth]+`"` {
			t.Errorf("q, precision %d: %d bytes", n, len(got))
		}
		f.Verb = 'x'
		if got := Hex(s, f); got != strings.Repeat("c3a9", api.MaxWidth/2) {
			t.Errorf("x, precision %d: %d bytes", n, len(got))
		}
	}
	if got, _ := Text(s, unset('v')); got != s {
		t.Error("an unset precision cuts")
	}
	if got := Hex(s, unset('x')); len(got) != 2*len(s) {
		t.Error("an unset precision cuts the bytes")
	}
}
