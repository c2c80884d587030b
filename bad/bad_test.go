package bad

import (
	"math"
	"regexp"
	"slices"
	"strings"
	"testing"
	"unicode/utf8"
)

// The numbers of the kinds are the chapter's.
func TestKinds(t *testing.T) {
	for i, k := range []int{IsNone, IsVerb, IsNil, IsMissing, IsIndex, IsPanic, IsOpen, IsWidth, IsPrec, IsDepth, IsExtra} {
		if k != i {
			t.Errorf("kind %d is %d", i, k)
		}
	}
}

// P10.1: the texts, of ordinary verbs, of every kind of rune, of what is none.
func TestTexts(t *testing.T) {
	for _, x := range []struct {
		verb rune
		v    string
	}{
		{'d', "d"}, {'%', "%"}, {'(', "("}, {')', ")"}, {'!', "!"}, {'=', "="}, {0, "\x00"}, {0x7f, "\x7f"}, {0x80, "\xc2\x80"},
		{0xe9, "\xc3\xa9"}, {0x65e5, "\xe6\x97\xa5"}, {0xd7ff, "\xed\x9f\xbf"}, {0xe000, "\xee\x80\x80"}, {0xfffd, "\xef\xbf\xbd"},
		{0x10000, "\xf0\x90\x80\x80"}, {0x10ffff, "\xf4\x8f\xbf\xbf"}, {0xd800, "\xef\xbf\xbd"}, {0xdfff, "\xef\xbf\xbd"},
		{0x110000, "\xef\xbf\xbd"}, {-1, "\xef\xbf\xbd"}, {math.MinInt32, "\xef\xbf\xbd"}, {math.MaxInt32, "\xef\xbf\xbd"},
	} {
		for _, y := range [][2]string{
			{Verb(x.verb, "string", "hi"), "%!" + x.v + "(string=hi)"},
			{Verb(x.verb, "", ""), "%!" + x.v + "(=)"},
			{Verb(x.verb, "\xff=", ")(\n%!"), "%!" + x.v + "(\xff==)(\n%!)"},
			{Nil(x.verb), "%!" + x.v + "(<nil>)"},
			{Missing(x.verb), "%!" + x.v + "(MISSING)"},
			{Index(x.verb), "%!" + x.v + "(BADINDEX)"},
			{Panic(x.verb, "String", "boo"), "%!" + x.v + "(PANIC=String method: boo)"},
			{Panic(x.verb, "", ""), "%!" + x.v + "(PANIC= method: )"},
			{Panic(x.verb, "\xff", "%!v(PANIC=Error method: x)"), "%!" + x.v + "(PANIC=\xff method: %!v(PANIC=Error method: x))"},
		} {
			if y[0] != y[1] {
				t.Errorf("verb %x: %q, not %q", x.verb, y[0], y[1])
			}
		}
	}
	for _, y := range [][2]string{
		{Open(), "%!(NOVERB)"}, {Width(), "%!(BADWIDTH)"}, {Prec(), "%!(BADPREC)"}, {Depth(), "%!(DEPTH)"},
	} {
		if y[0] != y[1] {
			t.Errorf("%q, not %q", y[0], y[1])
		}
	}
	long := strings.Repeat("é", 100000)
	if got := Verb('d', long, long); got != "%!d("+long+"="+long+")" {
		t.Error(len(got))
	}
}

// P10.2: as many as the shorter list has; the lists stay as they are.
func TestExtra(t *testing.T) {
	none := "%!(EXTRA )"
	for _, x := range []struct {
		types, vals []string
		want        string
	}{
		{nil, nil, none},
		{[]string{}, nil, none},
		{[]string{}, []string{}, none},
		{nil, []string{"5"}, none},
		{[]string{"int"}, nil, none},
		{[]string{"int", "bool"}, []string{}, none},
		{[]string{"int"}, []string{"5"}, "%!(EXTRA int=5)"},
		{[]string{""}, []string{""}, "%!(EXTRA =)"},
		{[]string{"", ""}, []string{"", ""}, "%!(EXTRA =, =)"},
		{[]string{"int", "string"}, []string{"5", "a, b"}, "%!(EXTRA int=5, string=a, b)"},
		{[]string{"int", "string", "bool"}, []string{"5", "x", "true"}, "%!(EXTRA int=5, string=x, bool=true)"},
		{[]string{"int", "string"}, []string{"5"}, "%!(EXTRA int=5)"},
		{[]string{"int"}, []string{"5", "x", "y"}, "%!(EXTRA int=5)"},
		{[]string{"complex128", "\xff"}, []string{"(1+2i)", ")"}, "%!(EXTRA complex128=(1+2i), \xff=))"},
		{[]string{"int", "string"}[:1], []string{"5", "x"}, "%!(EXTRA int=5)"},
		{[]string{"int", "string"}, []string{"5", "x"}[:0], none},
	} {
		types, vals := slices.Clone(x.types[:cap(x.types)]), slices.Clone(x.vals[:cap(x.vals)])
		if got := Extra(x.types, x.vals); got != x.want {
			t.Errorf("Extra(%q, %q) = %q, not %q", x.types, x.vals, got, x.want)
		}
		if !slices.Equal(types, x.types[:cap(x.types)]) || !slices.Equal(vals, x.vals[:cap(x.vals)]) {
			t.Errorf("Extra changed %q, %q", types, vals)
		}
	}
	many := slices.Repeat([]string{"T"}, 10000)
	if got, want := Extra(many, many), "%!(EXTRA "+strings.Join(slices.Repeat([]string{"T=T"}, 10000), ", ")+")"; got != want {
		t.Error(len(got), len(want))
	}
}

// hold holds Read of s against what is wanted.
func hold(t *testing.T, s string, kind int, verb rune, inside string) {
	t.Helper()
	if k, c, in := Read(s); k != kind || c != verb || in != inside {
		t.Errorf("Read(%q) = %d, %x, %q, not %d, %x, %q", s, k, c, in, kind, verb, inside)
	}
}

// P10.3: what is one of the texts.
func TestRead(t *testing.T) {
	hold(t, "%!d(MISSING)", IsMissing, 'd', "MISSING")
	hold(t, "%!d(BADINDEX)", IsIndex, 'd', "BADINDEX")
	hold(t, "%!d(<nil>)", IsNil, 'd', "<nil>")
	hold(t, "%!d(string=hi)", IsVerb, 'd', "string=hi")
	hold(t, "%!d(=)", IsVerb, 'd', "=")
	hold(t, "%!d(MISSING=)", IsVerb, 'd', "MISSING=")
	hold(t, "%!d(EXTRA int=5)", IsVerb, 'd', "EXTRA int=5")
	hold(t, "%!d(a=))", IsVerb, 'd', "a=)")
	hold(t, "%!d(a=)b)", IsVerb, 'd', "a=)b")
	hold(t, "%!d((a=b)", IsVerb, 'd', "(a=b")
	hold(t, "%!v(PANIC=String method: boo)", IsPanic, 'v', "PANIC=String method: boo")
	hold(t, "%!v(PANIC= method: )", IsPanic, 'v', "PANIC= method: ")
	hold(t, "%!v(PANIC=a method: b method: c)", IsPanic, 'v', "PANIC=a method: b method: c")
	hold(t, "%!v(PANIC=x)", IsVerb, 'v', "PANIC=x")
	hold(t, "%!v(PANIC=)", IsVerb, 'v', "PANIC=")
	hold(t, "%!v(PANIC=x method:)", IsVerb, 'v', "PANIC=x method:")
	hold(t, "%!v(PANIC=xmethod: y)", IsVerb, 'v', "PANIC=xmethod: y")
	hold(t, "%!v(PANICS=x method: y)", IsVerb, 'v', "PANICS=x method: y")
	hold(t, "%!v( PANIC=x method: y)", IsVerb, 'v', " PANIC=x method: y")
	hold(t, "%!(NOVERB)", IsOpen, 0, "NOVERB")
	hold(t, "%!(BADWIDTH)", IsWidth, 0, "BADWIDTH")
	hold(t, "%!(BADPREC)", IsPrec, 0, "BADPREC")
	hold(t, "%!(DEPTH)", IsDepth, 0, "DEPTH")
	hold(t, "%!(EXTRA )", IsExtra, 0, "EXTRA ")
	hold(t, "%!(EXTRA int=5)", IsExtra, 0, "EXTRA int=5")
	hold(t, "%!(EXTRA x)", IsExtra, 0, "EXTRA x")
	hold(t, "%!(EXTRA complex128=(1+2i))", IsExtra, 0, "EXTRA complex128=(1+2i)")
	hold(t, "%!((a=b)", IsVerb, '(', "a=b")
	hold(t, "%!((MISSING)", IsMissing, '(', "MISSING")
	hold(t, "%!(((a=b)", IsVerb, '(', "(a=b")
	hold(t, "%!((PANIC=x method: y)", IsPanic, '(', "PANIC=x method: y")
	hold(t, "%!)(a=b)", IsVerb, ')', "a=b")
	hold(t, "%!!(a=b)", IsVerb, '!', "a=b")
	hold(t, "%!\x00(MISSING)", IsMissing, 0, "MISSING")
	hold(t, "%!\u65e5(<nil>)", IsNil, 0x65e5, "<nil>")
	hold(t, "%!\ufffd(<nil>)", IsNil, 0xfffd, "<nil>")
	hold(t, "%!d(\xff=\xc3)", IsVerb, 'd', "\xff=\xc3")
}

// P10.3: of any other text there is nothing.
func TestReadNone(t *testing.T) {
	for _, s := range []string{
		"", "%", "%!", "!", "%!(", "%!)", "%!()", "%!(()", "%!((", "%!d", "%!d(", "%!d)", "%!d()", "%!(x)", "%!(x=y)", "%!x=y)", "%!(a(b=c)",
		"%!d(x)", "%!d(MISSING", "%!dMISSING)", "d(MISSING)", "%d(MISSING)", "!d(MISSING)", "%%!d(MISSING)", " %!d(MISSING)", "x%!(NOVERB)",
		"%!d(MISSING) ", "%!d(MISSING)\n", "%!d(missing)", "%!d(MISSING )", "%!d( MISSING)", "%!d(<nil)", "%!d(nil)", "%!d(BADINDEX()", "%!d(<nil>>)",
		"%!(MISSING)", "%!(BADINDEX)", "%!(<nil>)", "%!(PANIC=x method: y)", "%!d(NOVERB)", "%!d(BADWIDTH)", "%!d(BADPREC)", "%!d(DEPTH)",
		"%!((NOVERB)", "%!((EXTRA )", "%!(EXTRA)", "%!(EXTRAint=5)", "%!( EXTRA int=5)", "%!(extra int=5)", "%!(NOVERB", "%!(NOVERB))", "%!(DEPTH )",
		"%!(EXTRA int=5", "%!\xff(MISSING)", "%!\xc3(MISSING)", "%!\xed\xa0\x80(MISSING)", "%!\xe6\x97(a=b)", "%!\xff(a=b)", "%!dd(a=b)", "%!d", "%!\xc3)",
		"%!d(EXTRA )", "%!(TOOLONG)", "%!d(method: )", "%!d(PANIC method: y)", "%!d\xff(a=b)", "%!d(a=b)x",
	} {
		hold(t, s, IsNone, 0, "")
	}
}

var (
	bare   = regexp.MustCompile(`(?s)\A%!\((NOVERB|BADWIDTH|BADPREC|DEPTH|EXTRA .*)\)\z`)
	verbed = regexp.MustCompile(`(?s)\A%!(.)\((?:(MISSING)|(BADINDEX)|(<nil>)|(PANIC=.* method: .*)|(.*=.*))\)\z`)
)

// reckoned is Read by two expressions.
func reckoned(s string) (int, rune, string) {
	if m := bare.FindStringSubmatch(s); m != nil {
		kinds := map[string]int{"NOVERB": IsOpen, "BADWIDTH": IsWidth, "BADPREC": IsPrec, "DEPTH": IsDepth}
		if k, ok := kinds[m[1]]; ok {
			return k, 0, m[1]
		}
		return IsExtra, 0, m[1]
	}
	if m := verbed.FindStringSubmatch(s); m != nil && utf8.ValidString(m[1]) {
		verb, _ := utf8.DecodeRuneInString(m[1])
		for i, k := range []int{IsMissing, IsIndex, IsNil, IsPanic, IsVerb} {
			if m[2+i] != "" {
				return k, verb, m[2+i]
			}
		}
	}
	return IsNone, 0, ""
}

// each goes through all texts of at most that many parts.
func each(parts []string, n int, ahead string, f func(s string)) {
	f(ahead)
	if n == 0 {
		return
	}
	for _, x := range parts {
		each(parts, n-1, ahead+x, f)
	}
}

// P10.3: every short text of the parts that say something, and all its cuts.
func TestReadAllShort(t *testing.T) {
	against := func(s string) {
		kind, verb, inside := reckoned(s)
		if k, c, in := Read(s); k != kind || c != verb || in != inside {
			t.Fatalf("Read(%q) = %d, %x, %q, not %d, %x, %q", s, k, c, in, kind, verb, inside)
		}
	}
	words := []string{
		"(", ")", "=", " ", "d", "\u00e9", "\ufffd", "\xff", "MISSING", "BADINDEX", "<nil>", "PANIC=", " method: ", "method:",
		"NOVERB", "BADWIDTH", "BADPREC", "DEPTH", "EXTRA ", "EXTRA",
	}
	each(words, 3, "%!", func(s string) { against(s); against(s + ")") })
	each(words, 3, "%!(", func(s string) { against(s + ")") })
	each(words, 3, "%!d(", func(s string) { against(s + ")") })
	each([]string{"%", "!", "(", ")", "=", "d", "\xc3", "\xa9"}, 6, "", against)
	for _, s := range []string{
		Verb('d', "string", "hi"), Verb('(', "string", "(h)"), Nil(0x65e5), Missing('d'), Index('d'), Panic('v', "String", "a=b"),
		Open(), Width(), Prec(), Depth(), Extra([]string{"int", "T"}, []string{"5", "(6)"}), Extra(nil, nil),
	} {
		for i := range s {
			against(s[:i])
			against(s[i:])
			against(s[:i] + s[i+1:])
			for _, x := range []string{"(", ")", "=", "%", " ", "\xff"} {
				against(s[:i] + x + s[i:])
				against(s[:i] + x + s[i+1:])
			}
		}
		against(s + " ")
		against(s + ")")
		against(s + s)
	}
}

// P10.4: of every code point what is written with it is read with it.
func TestReadWrittenOfAllVerbs(t *testing.T) {
	for c := range rune(utf8.MaxRune + 1) {
		if !utf8.ValidRune(c) {
			continue
		}
		if k, v, in := Read(Verb(c, "T", "(x)")); k != IsVerb || v != c || in != "T=(x)" {
			t.Fatal(c, k, v, in)
		}
		if k, v, in := Read(Panic(c, "String", "x)")); k != IsPanic || v != c || in != "PANIC=String method: x)" {
			t.Fatal(c, k, v, in)
		}
		if k, v, in := Read(Nil(c)); k != IsNil || v != c || in != "<nil>" {
			t.Fatal(c, k, v, in)
		}
		if k, v, in := Read(Missing(c)); k != IsMissing || v != c || in != "MISSING" {
			t.Fatal(c, k, v, in)
		}
		if k, v, in := Read(Index(c)); k != IsIndex || v != c || in != "BADINDEX" {
			t.Fatal(c, k, v, in)
		}
	}
	for _, c := range []rune{-1, 0xd800, 0xdfff, 0x110000, math.MinInt32, math.MaxInt32} {
		hold(t, Verb(c, "T", "x"), IsVerb, 0xfffd, "T=x")
	}
}

// P10.4: whatever types, values and methods there are.
func TestReadWrittenOfAllTexts(t *testing.T) {
	var l []string
	each([]string{"(", ")", "=", "%!", ", ", "\xff", "MISSING", "EXTRA ", " method: ", "NOVERB", "<nil>"}, 2, "", func(s string) { l = append(l, s) })
	for _, a := range l {
		for _, b := range l {
			hold(t, Verb('d', a, b), IsVerb, 'd', a+"="+b)
			hold(t, Verb('(', a, b), IsVerb, '(', a+"="+b)
			hold(t, Verb('d', a, "PANIC="+b), IsVerb, 'd', a+"=PANIC="+b)
			hold(t, Panic('(', a, b), IsPanic, '(', "PANIC="+a+" method: "+b)
			hold(t, Extra([]string{a, b}, []string{b, a}), IsExtra, 0, "EXTRA "+a+"="+b+", "+b+"="+a)
		}
	}
	hold(t, Extra(nil, nil), IsExtra, 0, "EXTRA ")
	hold(t, Extra([]string{"PANIC"}, []string{" method: "}), IsExtra, 0, "EXTRA PANIC= method: ")
	hold(t, Open(), IsOpen, 0, "NOVERB")
	hold(t, Width(), IsWidth, 0, "BADWIDTH")
	hold(t, Prec(), IsPrec, 0, "BADPREC")
	hold(t, Depth(), IsDepth, 0, "DEPTH")
	// A type that begins with PANIC is read as what was thrown: the chapter leaves it out.
	hold(t, Verb('v', "PANIC", "x method: y"), IsPanic, 'v', "PANIC=x method: y")
}
