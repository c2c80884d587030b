package parse

import (
	"regexp"
	"slices"
	"strconv"
	"strings"
	"testing"
	"unicode/utf8"

	"platen/api"
)

var (
	next  = Index{}
	wrong = Index{Kind: Wrong}
)

func good(n int) Index       { return Index{Kind: Good, N: n} }
func given(n int) Num        { return Num{Kind: Given, N: n} }
func star(arg Index) Num     { return Num{Kind: Star, Arg: arg} }
func literal(s string) Piece { return Piece{Kind: Lit, Text: s} }

// directive is a piece without flags.
func directive(text string, verb rune, wid, prec Num, arg Index) Piece {
	return Piece{Kind: Dir, Text: text, Spec: api.Spec{Wid: -1, Prec: -1, Verb: verb}, Wid: wid, Prec: prec, Arg: arg}
}

func open(text string, wid, prec Num, arg Index) Piece {
	p := directive(text, 0, wid, prec, arg)
	p.Kind = Open
	return p
}

// flagged is p with the flags of that text.
func flagged(flags string, p Piece) Piece {
	p.Spec.Plus = strings.Contains(flags, "+")
	p.Spec.Minus = strings.Contains(flags, "-")
	p.Spec.Sharp = strings.Contains(flags, "#")
	p.Spec.Space = strings.Contains(flags, " ")
	p.Spec.Zero = strings.Contains(flags, "0")
	return p
}

// check holds Parse of a format against the pieces that are wanted.
func check(t *testing.T, format string, want ...Piece) {
	t.Helper()
	if got := Parse(format); !slices.Equal(got, want) {
		t.Errorf("Parse(%q) =\n%+v, not\n%+v", format, got, want)
	}
}

// The numbers of the kinds are the chapter's.
func TestKinds(t *testing.T) {
	for i, l := range [][3]int{{Lit, Unset, Next}, {Dir, Given, Good}, {Open, Star, Wrong}} {
		if l != [3]int{i, i, i} {
			t.Error(i, l)
		}
	}
}

// P9.1: literals go up to a % or the end, directives to their verb.
func TestPieces(t *testing.T) {
	var no Num
	check(t, "")
	check(t, "a", literal("a"))
	check(t, "\x00\xff]*.5[1]é\ufffd\n", literal("\x00\xff]*.5[1]é\ufffd\n"))
	check(t, "%d", directive("%d", 'd', no, no, next))
	check(t, "%%", directive("%%", '%', no, no, next))
	check(t, "%%%", directive("%%", '%', no, no, next), open("%", no, no, next))
	check(t, "%5%d", directive("%5%", '%', given(5), no, next), literal("d"))
	check(t, "a%db%s", literal("a"), directive("%d", 'd', no, no, next), literal("b"), directive("%s", 's', no, no, next))
	check(t, "%d%d", directive("%d", 'd', no, no, next), directive("%d", 'd', no, no, next))
	check(t, "\xff%d\xc3", literal("\xff"), directive("%d", 'd', no, no, next), literal("\xc3"))
	check(t, "%\n", directive("%\n", '\n', no, no, next))
	check(t, "%\x00x", directive("%\x00", 0, no, no, next), literal("x"))
	check(t, "%]", directive("%]", ']', no, no, next))
	check(t, "a%-5.2fb", literal("a"), flagged("-", directive("%-5.2f", 'f', given(5), given(2), next)), literal("b"))
}

// P9.1: the verb is any rune, of a broken one fffd and one byte.
func TestVerbs(t *testing.T) {
	for c := range rune(utf8.MaxRune + 1) {
		if !utf8.ValidRune(c) || strings.ContainsRune("+-# 0123456789*.[", c) {
			continue
		}
		s := "%" + string(c)
		want := []Piece{directive(s, c, Num{}, Num{}, next), literal("z")}
		if got := Parse(s + "z"); !slices.Equal(got, want) {
			t.Fatalf("Parse(%q) = %+v", s+"z", got)
		}
	}
	for _, s := range []string{"\x80", "\xff", "\xc3", "\xed", "\xf4", "\xc0", "\xef"} {
		check(t, "%"+s, directive("%"+s, 0xfffd, Num{}, Num{}, next))
		check(t, "%"+s+"d", directive("%"+s, 0xfffd, Num{}, Num{}, next), literal("d"))
		check(t, "%[1]"+s+"%d", directive("%[1]"+s, 0xfffd, Num{}, Num{}, good(1)), directive("%d", 'd', Num{}, Num{}, next))
	}
	check(t, "%\xed\xa0\x80", directive("%\xed", 0xfffd, Num{}, Num{}, next), literal("\xa0\x80"))
	check(t, "%\xe6\x97", directive("%\xe6", 0xfffd, Num{}, Num{}, next), literal("\x97"))
	check(t, "%\ufffd", directive("%\ufffd", 0xfffd, Num{}, Num{}, next))
}

// P9.1 and P9.3: what is open has no verb, and all else that stands there.
func TestOpen(t *testing.T) {
	var no Num
	check(t, "%", open("%", no, no, next))
	check(t, "a%", literal("a"), open("%", no, no, next))
	check(t, "%+-# 0", flagged("+-# 0", open("%+-# 0", no, no, next)))
	check(t, "%5", open("%5", given(5), no, next))
	check(t, "%*", open("%*", star(next), no, next))
	check(t, "%.", open("%.", no, given(0), next))
	check(t, "%5.", open("%5.", given(5), given(0), next))
	check(t, "%.*", open("%.*", no, star(next), next))
	check(t, "%[", open("%[", no, no, wrong))
	check(t, "%[1", open("%[1", given(1), no, wrong))
	check(t, "%[1]", open("%[1]", no, no, good(1)))
	check(t, "%[2]*", open("%[2]*", star(good(2)), no, next))
	check(t, "%[2]*.[3]*[4]", open("%[2]*.[3]*[4]", star(good(2)), star(good(3)), good(4)))
}

// P9.1 and P9.3: widths and precisions, at and above the limit, of any length.
func TestNumbers(t *testing.T) {
	var no Num
	nines, noughts := strings.Repeat("9", 5000), strings.Repeat("0", 5000)
	for _, x := range []struct {
		digits string
		n      int
	}{
		{"1", 1}, {"9", 9}, {"10", 10}, {"007", 7}, {"999", 999}, {"1000", 1000}, {"1001", -1}, {"9999", -1}, {"10000", -1},
		{"0", 0}, {"00", 0}, {"0001000", 1000}, {"0001001", -1}, {"999999999", -1}, {"1000000000", -1}, {"4294967297", -1},
		{"2147483648", -1}, {"18446744073709551617", -1}, {"9223372036854775808", -1}, {"18446744073709551616", -1},
		{nines, -1}, {noughts, 0}, {noughts + "5", 5}, {noughts + "1000", 1000}, {noughts + "1001", -1}, {"1" + noughts, -1},
	} {
		check(t, "%."+x.digits+"d", directive("%."+x.digits+"d", 'd', no, given(x.n), next))
		check(t, "%*."+x.digits+"d", directive("%*."+x.digits+"d", 'd', star(next), given(x.n), next))
		if x.digits[0] == '0' {
			wid := no
			if x.n != 0 {
				wid = given(x.n)
			}
			check(t, "%"+x.digits+"d", flagged("0", directive("%"+x.digits+"d", 'd', wid, no, next)))
			continue
		}
		check(t, "%"+x.digits+"d", directive("%"+x.digits+"d", 'd', given(x.n), no, next))
		check(t, "%"+x.digits+".3d", directive("%"+x.digits+".3d", 'd', given(x.n), given(3), next))
	}
	check(t, "%.d", directive("%.d", 'd', no, given(0), next))
	check(t, "%5.d", directive("%5.d", 'd', given(5), given(0), next))
	check(t, "%.-3d", directive("%.-", '-', no, given(0), next), literal("3d"))
	check(t, "%5-d", directive("%5-", '-', given(5), no, next), literal("d"))
	check(t, "%..d", directive("%..", '.', no, given(0), next), literal("d"))
	check(t, "%*5d", directive("%*5", '5', star(next), no, next), literal("d"))
	check(t, "%**d", directive("%**", '*', star(next), no, next), literal("d"))
	check(t, "%.**d", directive("%.**", '*', no, star(next), next), literal("d"))
	check(t, "%.5*d", directive("%.5*", '*', no, given(5), next), literal("d"))
	check(t, "%*.*f", directive("%*.*f", 'f', star(next), star(next), next))
	check(t, "%-0*d", flagged("-0", directive("%-0*d", 'd', star(next), no, next)))
	check(t, "%\u0661d", directive("%\u0661", '\u0661', no, no, next), literal("d"))
}

// P9.2: what an index is, and which one is good.
func TestIndex(t *testing.T) {
	var no Num
	for _, x := range []struct {
		digits string
		arg    Index
	}{
		{"1", good(1)}, {"9", good(9)}, {"16", good(16)}, {"17", good(17)}, {"0", wrong}, {"00", wrong}, {"007", good(7)},
		{"999999999", good(999999999)}, {"100000000", good(100000000)}, {"123456789", good(123456789)}, {"000000001", good(1)},
		{"0000000001", wrong}, {"1000000000", wrong}, {"9999999999", wrong}, {"000000000", wrong}, {"0000000000", wrong},
		{"4294967297", wrong}, {"18446744073709551617", wrong}, {strings.Repeat("1", 5000), wrong},
	} {
		i := "[" + x.digits + "]"
		check(t, "%"+i+"d", directive("%"+i+"d", 'd', no, no, x.arg))
		check(t, "%"+i+"*d", directive("%"+i+"*d", 'd', star(x.arg), no, next))
		check(t, "%."+i+"*d", directive("%."+i+"*d", 'd', no, star(x.arg), next))
		check(t, "%5"+i+"d", directive("%5"+i+"d", 'd', given(5), no, x.arg))
		check(t, "%."+i+"d", directive("%."+i+"d", 'd', no, given(0), x.arg))
	}
	check(t, "%[x]d", directive("%[x", 'x', no, no, wrong), literal("]d"))
	check(t, "%[]d", directive("%[]", ']', no, no, wrong), literal("d"))
	check(t, "%[-1]d", directive("%[-", '-', no, no, wrong), literal("1]d"))
	check(t, "%[+1]d", directive("%[+", '+', no, no, wrong), literal("1]d"))
	check(t, "%[ 1]d", directive("%[ ", ' ', no, no, wrong), literal("1]d"))
	check(t, "%[1d", directive("%[1d", 'd', given(1), no, wrong))
	check(t, "%[1 ]d", directive("%[1 ", ' ', given(1), no, wrong), literal("]d"))
	check(t, "%[01d", directive("%[0", '0', no, no, wrong), literal("1d"))
	check(t, "%[d", directive("%[d", 'd', no, no, wrong))
	check(t, "%[*d", directive("%[*d", 'd', star(wrong), no, next))
	check(t, "%[.[*d", directive("%[.[*d", 'd', no, star(wrong), wrong))
	check(t, "%.[*d", directive("%.[*d", 'd', no, star(wrong), next))
	check(t, "%.[3d", directive("%.[3d", 'd', no, given(3), wrong))
	check(t, "%[1\xff]d", directive("%[1\xff", 0xfffd, given(1), no, wrong), literal("]d"))
	check(t, "%[[d", directive("%[[d", 'd', no, no, wrong))
	check(t, "%[[[d", directive("%[[[", '[', no, no, wrong), literal("d"))
	check(t, "%[[1]d", directive("%[[1]d", 'd', no, no, wrong))
	check(t, "%[1]-d", directive("%[1]-", '-', no, no, good(1)), literal("d"))
	check(t, "%-[1]d", flagged("-", directive("%-[1]d", 'd', no, no, good(1))))
	check(t, "%[2]05d", directive("%[2]0", '0', no, no, good(2)), literal("5d"))
}

// P9.2: whose index it is, and when the verb's is wrong.
func TestVerbsIndex(t *testing.T) {
	var no Num
	check(t, "%[2]*.[1]*[3]d", directive("%[2]*.[1]*[3]d", 'd', star(good(2)), star(good(1)), good(3)))
	check(t, "%[2]*[3]d", directive("%[2]*[3]d", 'd', star(good(2)), no, good(3)))
	check(t, "%*[3]d", directive("%*[3]d", 'd', star(next), no, good(3)))
	check(t, "%[0]*[3]d", directive("%[0]*[3]d", 'd', star(wrong), no, good(3)))
	check(t, "%[2]*d", directive("%[2]*d", 'd', star(good(2)), no, next))
	check(t, "%[2]*.3d", directive("%[2]*.3d", 'd', star(good(2)), given(3), next))
	check(t, "%[2]*.d", directive("%[2]*.d", 'd', star(good(2)), given(0), next))
	check(t, "%[2]*.3[4]d", directive("%[2]*.3[4]d", 'd', star(good(2)), given(3), good(4)))
	check(t, "%[2]*.[4]d", directive("%[2]*.[4]d", 'd', star(good(2)), given(0), good(4)))
	check(t, "%5.3[4]d", directive("%5.3[4]d", 'd', given(5), given(3), good(4)))
	check(t, "%.*[4]d", directive("%.*[4]d", 'd', no, star(next), good(4)))
	check(t, "%.[1]*[4]d", directive("%.[1]*[4]d", 'd', no, star(good(1)), good(4)))

	check(t, "%[2]5d", directive("%[2]5d", 'd', given(5), no, wrong))
	check(t, "%[2]1001d", directive("%[2]1001d", 'd', given(-1), no, wrong))
	check(t, "%[2].3d", directive("%[2].3d", 'd', no, given(3), wrong))
	check(t, "%[2].d", directive("%[2].d", 'd', no, given(0), wrong))
	check(t, "%[2].*d", directive("%[2].*d", 'd', no, star(next), wrong))
	check(t, "%[2].[1]*d", directive("%[2].[1]*d", 'd', no, star(good(1)), wrong))
	check(t, "%[2]5.3d", directive("%[2]5.3d", 'd', given(5), given(3), wrong))
	check(t, "%.[2]3d", directive("%.[2]3d", 'd', no, given(3), wrong))
	check(t, "%.[2]0d", directive("%.[2]0d", 'd', no, given(0), wrong))
	check(t, "%[1][2]d", directive("%[1][2]d", 'd', no, no, wrong))
	check(t, "%[1][1]d", directive("%[1][1]d", 'd', no, no, wrong))
	check(t, "%.[1][2]d", directive("%.[1][2]d", 'd', no, given(0), wrong))
	check(t, "%[1]5[2]d", directive("%[1]5[2]d", 'd', given(5), no, wrong))
	check(t, "%[1].[2]d", directive("%[1].[2]d", 'd', no, given(0), wrong))
	check(t, "%[1].[2]*[3]d", directive("%[1].[2]*[3]d", 'd', no, star(good(2)), wrong))
	check(t, "%[1]5.[2]3[3]d", directive("%[1]5.[2]3[3]d", 'd', given(5), given(3), wrong))
	check(t, "%[1]*.[2]3[3]d", directive("%[1]*.[2]3[3]d", 'd', star(good(1)), given(3), wrong))

	// A point or a digit that is the verb is neither the point nor a number's.
	check(t, "%5[1].3d", directive("%5[1].", '.', given(5), no, good(1)), literal("3d"))
	check(t, "%5[1]7d", directive("%5[1]7", '7', given(5), no, good(1)), literal("d"))
	check(t, "%.[1].d", directive("%.[1].", '.', no, given(0), good(1)), literal("d"))
	check(t, "%5[1]*d", directive("%5[1]*", '*', given(5), no, good(1)), literal("d"))
	check(t, "%*[1]*d", directive("%*[1]*", '*', star(next), no, good(1)), literal("d"))
	check(t, "%[1][2][3]d", directive("%[1][2][", '[', no, no, wrong), literal("3]d"))
}

// form is a directive without its verb: every part may be lacking, so the
// expression never goes back, and each part is as long as the chapter says.
var form = regexp.MustCompile(`^%([-+# 0]*)(\[[0-9]+\]|\[)?(\*|[1-9][0-9]*)?(\.(\[[0-9]+\]|\[)?(\*|[0-9]*))?(\[[0-9]+\]|\[)?`)

func told(index string) Index {
	n, _ := strconv.Atoi(strings.Trim(index, "[]"))
	switch {
	case index == "":
		return next
	case index == "[" || len(index) > 11 || n == 0:
		return wrong
	}
	return good(n)
}

func toldNumber(number, index string) Num {
	if number == "*" {
		return star(told(index))
	}
	number = strings.TrimLeft(number, "0")
	n, _ := strconv.Atoi("0" + number)
	if len(number) > 4 || n > 1000 {
		n = -1
	}
	return given(n)
}

// reckoned is Parse by the expression; the verb's index is looked for in the
// directive without those that a * takes.
func reckoned(format string) []Piece {
	var l []Piece
	for format != "" {
		m := form.FindStringSubmatch(format)
		if m == nil {
			ahead, _, _ := strings.Cut(format, "%")
			l = append(l, literal(ahead))
			format = format[len(ahead):]
			continue
		}
		p := flagged(m[1], directive("", 0, Num{}, Num{}, next))
		if m[3] != "" {
			p.Wid = toldNumber(m[3], m[2])
		}
		if m[4] != "" {
			p.Prec = toldNumber(m[6], m[5])
		}
		var free []string
		for _, x := range [][2]string{{m[2], m[3]}, {m[5], m[6]}, {m[7], ""}} {
			if x[0] != "" && x[1] != "*" {
				free = append(free, x[0])
			}
		}
		parted := m[2] != "" && m[3] != "*" && m[3]+m[4] != "" || m[5] != "" && m[6] != "*" && m[6] != ""
		switch {
		case len(free) > 1 || parted:
			p.Arg = wrong
		case len(free) == 1:
			p.Arg = told(free[0])
		}
		verb, size := utf8.DecodeRuneInString(format[len(m[0]):])
		if size == 0 {
			p.Kind, verb = Open, 0
		}
		p.Spec.Verb = verb
		p.Text = format[:len(m[0])+size]
		l = append(l, p)
		format = format[len(p.Text):]
	}
	return l
}

// each goes through all texts of at most that many parts.
func each(parts []string, n int, ahead string, f func(s string)) {
	f(ahead)
	if n == 0 {
		return
	}
	for _, x := range parts {
		each(parts, n-1, ahead+x, f)
	}
}

// P9.1 to P9.4: every short format of the parts that say something.
func TestAllShortFormats(t *testing.T) {
	hold := func(s string) {
		got := Parse(s)
		if want := reckoned(s); !slices.Equal(got, want) {
			t.Fatalf("Parse(%q) =\n%+v, not\n%+v", s, got, want)
		}
		if Text(got) != s {
			t.Fatalf("Text of Parse(%q) = %q", s, Text(got))
		}
	}
	each([]string{"%", "-", "0", "1", "[", "]", "*", ".", "d", "\xc3"}, 5, "", hold)
	each([]string{"0", "7", "[", "]", "*", ".", "\xff"}, 6, "%", hold)
	each([]string{"[2]", "[0]", "[", "*", ".", "5", "1001", "0", "d", "%"}, 5, "a%", hold)
	each([]string{"[1234567890]", "[999999999]", "*", ".", "99999999999999999999", "é"}, 5, "%+", hold)
}

// P9.3: of a literal all but its kind and its text is zero, whatever stands in it.
func TestLiteralIsBare(t *testing.T) {
	each([]string{"-", "5", ".", "*", "[1]", "d", "\xff", "é"}, 4, "", func(s string) {
		got := Parse(s + "%d")
		if s != "" && (len(got) != 2 || got[0] != Piece{Text: s}) || len(got) == 0 || got[len(got)-1].Text != "%d" {
			t.Fatalf("Parse(%q) = %+v", s+"%d", got)
		}
	})
}

// P9.3: Text looks at the texts alone, and Parse's answers share nothing.
func TestText(t *testing.T) {
	for _, x := range []struct {
		l    []Piece
		want string
	}{
		{nil, ""},
		{[]Piece{}, ""},
		{[]Piece{{}}, ""},
		{[]Piece{literal("a")}, "a"},
		{[]Piece{literal("a"), literal("b")}, "ab"},
		{[]Piece{{Kind: -7, Text: "\xff"}, {}, {Kind: Open, Text: "%", Spec: api.Spec{Verb: 'd'}}, {Kind: 99, Text: "é", Wid: star(wrong)}}, "\xff%é"},
		{[]Piece{literal("a"), literal("b"), literal("c")}[:1], "a"},
	} {
		kept := slices.Clone(x.l)
		if got := Text(x.l); got != x.want || !slices.Equal(kept, x.l) {
			t.Errorf("Text(%+v) = %q, not %q", x.l, got, x.want)
		}
	}
	a, b := Parse("a%5d"), Parse("a%5d")
	a[1] = Piece{}
	if b[1] != directive("%5d", 'd', given(5), Num{}, next) {
		t.Error(b)
	}
}

// P9.4: of long formats, too.
func TestTextOfParse(t *testing.T) {
	for _, s := range []string{
		strings.Repeat("%", 100001), strings.Repeat("%d", 50000), strings.Repeat("a", 100000), strings.Repeat("%[", 50000),
		"%" + strings.Repeat("[", 100000), "%" + strings.Repeat("[1]", 30000), "%[" + strings.Repeat("1", 100000),
		"%" + strings.Repeat("+-# 0", 20000), "%" + strings.Repeat("9", 100000) + "d", strings.Repeat("\xff\x80é日%[2]*.[1]*[3]\xc3", 5000),
	} {
		if got := Text(Parse(s)); got != s {
			t.Errorf("Text of Parse of %q.. has %d bytes, not %d", s[:8], len(got), len(s))
		}
	}
}

// joined makes one of literals that stand behind one another.
func joined(l []Piece) []Piece {
	var out []Piece
	for _, p := range l {
		if k := len(out) - 1; k >= 0 && p.Kind == Lit && out[k].Kind == Lit {
			out[k].Text += p.Text
			continue
		}
		out = append(out, p)
	}
	return out
}

// P9.5: behind a letter what follows is parsed by itself; it may only go on with
// a literal.
func TestCutBehindLetter(t *testing.T) {
	var behind []string
	each([]string{"%", "-", "5", "[1]", "*", ".", "d", "\xff"}, 2, "", func(s string) { behind = append(behind, s) })
	each([]string{"%", "0", "[", "2", "]", "*", ".", "é"}, 3, "", func(s string) {
		for _, letter := range []string{"a", "z", "A", "Z", "é", "日"} {
			for _, ahead := range []string{s + letter, "%" + s + letter} {
				for _, b := range behind {
					if got, want := Parse(ahead+b), joined(append(Parse(ahead), Parse(b)...)); !slices.Equal(got, want) {
						t.Fatalf("Parse(%q + %q) =\n%+v, not\n%+v", ahead, b, got, want)
					}
				}
			}
		}
	})
}

// P9.6: each flag is the same wherever and however often it stands.
func TestFlagsInAnyOrder(t *testing.T) {
	each([]string{"+", "-", "#", " ", "0"}, 5, "", func(flags string) {
		for _, behind := range []string{"d", "5d", "[2]*.3x", ".[", ""} {
			want := Parse("%" + behind)[0]
			want = flagged(flags, want)
			want.Text = "%" + flags + behind
			check(t, "%"+flags+behind, want)
		}
	})
	check(t, "%+5+d", flagged("+", directive("%+5+", '+', given(5), Num{}, next)), literal("d"))
}
