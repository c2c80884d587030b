package buf

import (
	"math"
	"strings"
	"testing"

	"platen/api"
)

// encode writes a code point by the table of UTF-8, without the library's help.
func encode(c int) string {
	last := func(shift int) byte { return byte(0x80 | c>>shift&0x3f) }
	switch {
	case c < 0x80:
		return string([]byte{byte(c)})
	case c < 0x800:
		return string([]byte{byte(0xc0 | c>>6), last(0)})
	case c < 0x10000:
		return string([]byte{byte(0xe0 | c>>12), last(6), last(0)})
	}
	return string([]byte{byte(0xf0 | c>>18), last(12), last(6), last(0)})
}

func isCodePoint(c int) bool {
	return c >= 0 && c <= 0x10ffff && (c < 0xd800 || c > 0xdfff)
}

// points holds every code point by its UTF-8.
func points() map[string]rune {
	m := make(map[string]rune, 0x110000)
	for c := range 0x110000 {
		if isCodePoint(c) {
			m[encode(c)] = rune(c)
		}
	}
	return m
}

// firstRune finds the first rune of s as the chapter words it.
func firstRune(m map[string]rune, s string) (rune, int) {
	if s == "" {
		return 0, 0
	}
	for n := min(4, len(s)); n > 0; n-- {
		if c, ok := m[s[:n]]; ok {
			return c, n
		}
	}
	return 0xfffd, 1
}

// samples are texts with whole and broken runes at the edges of UTF-8.
func samples() []string {
	edges := []byte{0x00, 0x41, 0x7f, 0x80, 0x8f, 0x90, 0x9f, 0xa0, 0xbf, 0xc0, 0xc1, 0xc2, 0xdf, 0xe0, 0xe1, 0xec, 0xed, 0xee, 0xef, 0xf0, 0xf1, 0xf3, 0xf4, 0xf5, 0xff}
	l := []string{""}
	for a := range 256 {
		l = append(l, string([]byte{byte(a)}))
		for b := range 256 {
			l = append(l, string([]byte{byte(a), byte(b)}))
		}
	}
	for _, a := range edges {
		for _, b := range edges {
			for _, c := range edges {
				l = append(l, string([]byte{a, b, c}))
				for _, d := range edges {
					l = append(l, string([]byte{a, b, c, d}), string([]byte{a, b, c, d, 0x80}))
				}
			}
		}
	}
	return l
}

// P1.1 and P1.4: every code point is written as its UTF-8, and read back.
func TestRuneOfCodePoints(t *testing.T) {
	for c := range 0x110000 {
		if !isCodePoint(c) {
			continue
		}
		s := Rune(rune(c))
		if s != encode(c) {
			t.Fatalf("Rune(%x) = %x", c, s)
		}
		for _, behind := range []string{"", "a", "\x80", "\u65e5"} {
			if got, n := Decode(s + behind); got != rune(c) || n != len(s) {
				t.Fatalf("Decode(Rune(%x) + %x) = %x, %d", c, behind, got, n)
			}
		}
	}
}

// P1.1: what is no code point is written as fffd.
func TestRuneOfOthers(t *testing.T) {
	for _, c := range []rune{-1, math.MinInt32, 0xd800, 0xdabc, 0xdbff, 0xdc00, 0xdfff, 0x110000, math.MaxInt32} {
		if s := Rune(c); s != "\xef\xbf\xbd" {
			t.Errorf("Rune(%x) = %x", c, s)
		}
	}
}

// P1.1: Decode, Count and Cut go by the runes that the chapter words.
func TestRunesOfTexts(t *testing.T) {
	m := points()
	for _, s := range samples() {
		c, n := firstRune(m, s)
		if got, w := Decode(s); got != c || w != n {
			t.Fatalf("Decode(%x) = %x, %d, not %x, %d", s, got, w, c, n)
		}
		count := 0
		for at := 0; ; count++ {
			if got := Cut(s, count); got != s[:at] {
				t.Fatalf("Cut(%x, %d) = %x, not %x", s, count, got, s[:at])
			}
			if at == len(s) {
				break
			}
			_, n = firstRune(m, s[at:])
			at += n
		}
		if got := Count(s); got != count {
			t.Fatalf("Count(%x) = %d, not %d", s, got, count)
		}
	}
}

// P1.1: the examples and edges that the document names.
func TestDecodeEdges(t *testing.T) {
	for _, x := range []struct {
		s string
		c rune
		n int
	}{
		{"", 0, 0},
		{"\x00", 0, 1},
		{"\xff", 0xfffd, 1},
		{"\ufffd", 0xfffd, 3},
		{"\xef\xbf", 0xfffd, 1},
		{"\xc0\x80", 0xfffd, 1},
		{"\xed\xa0\x80", 0xfffd, 1},
		{"\xf4\x90\x80\x80", 0xfffd, 1},
		{"\xf4\x8f\xbf\xbf", 0x10ffff, 4},
		{"\u00e9\u65e5", 0xe9, 2},
	} {
		if c, n := Decode(x.s); c != x.c || n != x.n {
			t.Errorf("Decode(%x) = %x, %d", x.s, c, n)
		}
	}
}

// P1.1: a number below 0, or above how many runes there are, cuts nothing.
func TestCutAll(t *testing.T) {
	for _, s := range []string{"", "ab", "\u00e9\u65e5", "\xff\xff"} {
		for _, n := range []int{-1, math.MinInt, Count(s), Count(s) + 1, math.MaxInt} {
			if got := Cut(s, n); got != s {
				t.Errorf("Cut(%x, %d) = %x", s, n, got)
			}
		}
	}
	if Cut("\u00e9\u65e5", 1) != "\u00e9" || Cut("\u00e9\u65e5", 0) != "" || Cut("\xff\xfe", 1) != "\xff" {
		t.Error("cut")
	}
}

// P1.2: Fill is bytes, from none up to MaxWidth.
func TestFill(t *testing.T) {
	for _, x := range []struct{ n, want int }{
		{math.MinInt, 0}, {-1, 0}, {0, 0}, {1, 1}, {2, 2},
		{api.MaxWidth - 1, api.MaxWidth - 1}, {api.MaxWidth, api.MaxWidth},
		{api.MaxWidth + 1, api.MaxWidth}, {math.MaxInt, api.MaxWidth},
	} {
		for _, c := range []byte{0, ' ', '0', 0x7f, 0x80, 0xe9, 0xff} {
			s := Fill(c, x.n)
			if len(s) != x.want {
				t.Fatalf("Fill(%x, %d) has %d bytes", c, x.n, len(s))
			}
			for i := range len(s) {
				if s[i] != c {
					t.Fatalf("Fill(%x, %d) has %x", c, x.n, s[i])
				}
			}
		}
	}
}

// P1.2: the examples, the choice of the flags, and widths that do nothing.
func TestPad(t *testing.T) {
	for _, x := range []struct {
		s    string
		f    api.Spec
		want string
	}{
		{"\u00e9", api.Spec{Wid: 3}, "  \u00e9"},
		{"\u00e9", api.Spec{Wid: 3, Minus: true}, "\u00e9  "},
		{"\u00e9", api.Spec{Wid: 3, Zero: true}, "00\u00e9"},
		{"\u00e9", api.Spec{Wid: 3, Minus: true, Zero: true}, "\u00e9  "},
		{"\u00e9", api.Spec{Wid: -1}, "\u00e9"},
		{"\u00e9", api.Spec{Wid: math.MinInt, Zero: true}, "\u00e9"},
		{"\u00e9", api.Spec{Wid: 0}, "\u00e9"},
		{"\u00e9", api.Spec{Wid: 1}, "\u00e9"},
		{"\u00e9\u00e9", api.Spec{Wid: 1, Minus: true}, "\u00e9\u00e9"},
		{"", api.Spec{}, ""},
		{"", api.Spec{Wid: 2, Zero: true}, "00"},
		{"-1", api.Spec{Wid: 4, Zero: true}, "00-1"},
		{"\xff\xff", api.Spec{Wid: 3}, " \xff\xff"},
		{"a", api.Spec{Wid: 2, Plus: true, Sharp: true, Space: true, Prec: 0, Verb: 'd'}, " a"},
	} {
		if got := Pad(x.s, x.f); got != x.want {
			t.Errorf("Pad(%q, %+v) = %q, not %q", x.s, x.f, got, x.want)
		}
	}
}

// P1.2: a width above MaxWidth counts as MaxWidth.
func TestPadToMaxWidth(t *testing.T) {
	long := strings.Repeat("\u00e9", api.MaxWidth)
	for _, w := range []int{api.MaxWidth, api.MaxWidth + 1, math.MaxInt} {
		if got := Pad("\u00e9", api.Spec{Wid: w}); got != strings.Repeat(" ", api.MaxWidth-1)+"\u00e9" {
			t.Errorf("width %d: %d runes", w, Count(got))
		}
		if Pad(long, api.Spec{Wid: w}) != long || Pad(long+"a", api.Spec{Wid: w}) != long+"a" {
			t.Errorf("width %d fills what is long enough", w)
		}
	}
}

// P1.3: a Buf from the zero one on.
func TestBuf(t *testing.T) {
	var b Buf
	if b.Len() != 0 || b.Over() || b.Text() != "" {
		t.Error("the zero Buf is not empty")
	}
	b.Put("a\xff")
	b.Put("")
	b.PutRune(0xe9)
	b.PutRune(0xd800)
	b.PutRune(-1)
	b.PutRune(0)
	if want := "a\xff\u00e9\ufffd\ufffd\x00"; b.Text() != want || b.Len() != len(want) || b.Over() {
		t.Errorf("%q, %d", b.Text(), b.Len())
	}
	b.Reset()
	if b.Len() != 0 || b.Over() || b.Text() != "" {
		t.Error("a Buf is not empty behind Reset")
	}
	b.Put("b")
	if b.Text() != "b" || b.Len() != 1 {
		t.Errorf("%q, %d", b.Text(), b.Len())
	}
}

// P1.3: MaxOut bytes are all told; of more the first MaxOut, and TooLong.
func TestBufAtMaxOut(t *testing.T) {
	full := strings.Repeat("0123456789abcdef", api.MaxOut/16)
	for _, x := range []struct {
		put  []string
		n    int
		over bool
		want string
	}{
		{[]string{full[1:]}, api.MaxOut - 1, false, full[1:]},
		{[]string{full}, api.MaxOut, false, full},
		{[]string{full, ""}, api.MaxOut, false, full},
		{[]string{full, "x"}, api.MaxOut + 1, true, full + "%!(TOOLONG)"},
		{[]string{full + "x", "y"}, api.MaxOut + 2, true, full + "%!(TOOLONG)"},
		{[]string{full[2:], "\u65e5", "z"}, api.MaxOut + 2, true, full[2:] + "\xe6\x97" + TooLong},
		{[]string{full + full + full}, 3 * api.MaxOut, true, full + TooLong},
	} {
		var b Buf
		for _, s := range x.put {
			b.Put(s)
		}
		if b.Len() != x.n || b.Over() != x.over || b.Text() != x.want {
			t.Errorf("%d bytes: %d, %v, %d bytes of text", x.n, b.Len(), b.Over(), len(b.Text()))
		}
		if b.Text() != x.want {
			t.Errorf("%d bytes: Text changes what it tells", x.n)
		}
		b.Reset()
		if b.Len() != 0 || b.Over() || b.Text() != "" {
			t.Errorf("%d bytes: not empty behind Reset", x.n)
		}
	}
}

// P1.3: runes at the end of the room count whole and are cut by bytes.
func TestPutRuneAtMaxOut(t *testing.T) {
	var b Buf
	b.Put(strings.Repeat("a", api.MaxOut-1))
	b.PutRune(0x65e5)
	if want := strings.Repeat("a", api.MaxOut-1) + "\xe6" + TooLong; b.Text() != want || b.Len() != api.MaxOut+2 {
		t.Errorf("%q, %d", b.Text()[api.MaxOut-1:], b.Len())
	}
}

// P1.3: what was done with one Buf, or with its copy, is told by it alone.
func TestBufsAreApart(t *testing.T) {
	var a, b Buf
	a.Put("one")
	b.Put("two")
	c := a
	a.Put("A")
	c.Put("C")
	told := a.Text()
	a.Reset()
	a.Put("zero")
	if told != "oneA" || a.Text() != "zero" || b.Text() != "two" || c.Text() != "oneC" {
		t.Errorf("%q %q %q %q", told, a.Text(), b.Text(), c.Text())
	}
}

// P1.4: the runes of whole texts add up.
func TestCountOfTwo(t *testing.T) {
	whole := []string{"", "a", "\x00", "\u00e9", "\u65e5\u00e9", "\U0010ffff", "\ufffd", "a\u07ff\u0800\uffff\U00010000"}
	for _, a := range whole {
		for _, b := range whole {
			if Count(a+b) != Count(a)+Count(b) {
				t.Errorf("Count(%q + %q) = %d", a, b, Count(a+b))
			}
		}
	}
}

// P1.5: what is padded has the width's runes, or its own, and s at an end.
func TestPadded(t *testing.T) {
	for _, s := range []string{"", "a", "\u00e9\u65e5", "\x00\x7f\ufffd", "\xff\xfe", strings.Repeat("\u65e5", 40)} {
		for _, w := range []int{math.MinInt, -1, 0, 1, 2, 3, 4, 39, 40, 41, api.MaxWidth, api.MaxWidth + 1, math.MaxInt} {
			for flags := range 4 {
				f := api.Spec{Wid: w, Minus: flags&1 != 0, Zero: flags&2 != 0}
				got := Pad(s, f)
				if want := max(Count(s), min(w, api.MaxWidth)); Count(got) != want {
					t.Errorf("Pad(%q, %+v) has %d runes", s, f, Count(got))
				}
				if f.Minus && !strings.HasPrefix(got, s) || !f.Minus && !strings.HasSuffix(got, s) {
					t.Errorf("Pad(%q, %+v) = %q", s, f, got)
				}
			}
		}
	}
}

// P1.6: in whatever parts a text is put, Text is the same.
func TestPutInParts(t *testing.T) {
	for _, size := range []int{0, 1, 10, api.MaxOut - 1, api.MaxOut, api.MaxOut + 1, api.MaxOut + 2, 2*api.MaxOut + 7} {
		s := strings.Repeat("a\u00e9\u65e5\U0001f600\xff", size)[:size]
		var whole Buf
		whole.Put(s)
		for _, step := range []int{1, 2, 3, 7, 1000, api.MaxOut - 1, api.MaxOut, api.MaxOut + 1} {
			var parts Buf
			for at := 0; at < len(s); at += step {
				parts.Put(s[at:min(at+step, len(s))])
				parts.Put("")
			}
			if parts.Text() != whole.Text() || parts.Len() != whole.Len() || parts.Over() != whole.Over() {
				t.Errorf("%d bytes by %d: %d", size, step, parts.Len())
			}
		}
	}
}

// P1.6: runes that are put one by one make the text that they make together.
func TestPutRunes(t *testing.T) {
	for _, n := range []int{1, 400, 500, 2000} {
		s := strings.Repeat("a\u00e9\u65e5\U0001f600\ufffd", n)
		var whole, runes Buf
		whole.Put(s)
		for _, c := range s {
			runes.PutRune(c)
		}
		if runes.Text() != whole.Text() || runes.Len() != whole.Len() {
			t.Errorf("%d: %d, %d", n, runes.Len(), whole.Len())
		}
	}
}
