package press

import (
	"fmt"
	"math"
	"math/big"
	"strconv"
	"strings"
	"testing"

	"platen/api"
	"platen/buf"
	"platen/cplx"
	"platen/printer"
	"platen/quote"
)

// said holds all prints of a format, by presses with that table, against what
// is wanted.
func said(t *testing.T, table []api.Hook, want, format string, args ...api.Desc) {
	t.Helper()
	for _, p := range both(table) {
		for range 2 {
			is(t, p.Sprintf(format, args...), want)
		}
		is(t, string(p.Appendf([]byte("<"), format, args...)), "<"+want)
		w := &taker{left: 9000}
		n, e := p.Fprintf(w, format, args...)
		is(t, n, len(want))
		is(t, e, nil)
		is(t, w.took, want)
	}
}

func TestTenExamples(t *testing.T) {
	seven, half, tenth := ofInt(7), ofFloat(1.5), ofFloat(0.1)
	said(t, nil, "7%|    7|7    |00007", "%d%%|%5d|%-5d|%05d", seven, seven, seven, seven)
	said(t, nil, "b a", "%[2]s %[1]s", ofText("a"), ofText("b"))
	said(t, nil, "%!d(BADINDEX)", "%[3]d", ofInt(1))
	said(t, nil, "%!d(MISSING)", "%d")
	said(t, nil, "x%!(EXTRA int=1)", "x", ofInt(1))
	said(t, nil, "%!z(int=1)", "%z", ofInt(1))
	said(t, nil, "%!(NOVERB)", "%")
	said(t, nil, "    1.50|", "%*.*f|", ofInt(8), ofInt(2), half)
	said(t, nil, "%!(BADWIDTH)1", "%*d", ofInt(1001), ofInt(1))
	said(t, nil, "0.1 0.1 1.000000e-01 0x1.999999999999ap-04", "%v %g %e %x", tenth, tenth, tenth, tenth)
	pair := ofStruct(ofInt(1), ofText("x"))
	said(t, nil, "{1 x}", "%v", pair)
	said(t, nil, "{A:1 B:x}", "%+v", pair)
	said(t, nil, `T{A:1, B:"x"}`, "%#v", pair)
	no := hooked(1, api.Desc{Kind: api.Bool})
	boo := rowsOf(api.Hook{String: throws(ofText("boo"))})
	said(t, boo, "%!v(PANIC=String method: boo)", "%v", no)
	said(t, boo, "false", "%t", no)
	said(t, rowsOf(api.Hook{Error: prints("<%v>", no)}), "<<<%!(DEPTH)>>>", "%v", no)
	said(t, boo, "<nil>", "%v", hooked(1, of(api.Ptr)))
	for _, p := range both(nil) {
		w := &taker{left: 3}
		n, e := p.Fprintf(w, "%s", ofText("hello"))
		is(t, n, 3)
		is(t, e, errFull)
		is(t, strings.Join(w.given, "|"), "hello")
		is(t, string(p.Appendf([]byte("ab"), "%d", ofInt(5))), "ab5")
	}
}

// P1: each chapter's texts, by the face.
func TestWrittenOutP1(t *testing.T) {
	pair := ofStruct(ofInt(1), ofText("x"))
	entries := of(api.Map, ofText("b"), ofInt(2), ofText("a"), ofInt(1))
	raw := api.Desc{Kind: api.Bytes, Text: "ab"}
	one := math.Float64bits(1)
	complex := api.Desc{Kind: api.Complex128, Bits: one, Imag: math.Float64bits(-2)}
	yes := api.Desc{Kind: api.Bool, Bits: 3}
	for _, x := range []struct {
		want, format string
		args         list
	}{
		{"-1 255 -1", "%d %d %d", list{{Kind: api.Int8, Bits: 255}, {Kind: api.Uint8, Bits: 511}, {Kind: api.Int, Bits: math.MaxUint64}}},
		{"true|false| true", "%v|%t|%5v", list{yes, {Kind: api.Bool, Bits: 2}, yes}},
		{"0x2a|0b101010|052|0o52|2A|U+002A '*'|*|'*'", "%#x|%#b|%#o|%O|%X|%#U|%c|%q", list{ofInt(42), ofInt(42), ofInt(42), ofInt(42), ofInt(42), ofInt(42), ofInt(42), ofInt(42)}},
		{"1.5|2|1.500000e+00|1.50000|0x1.8p+00|6755399441055744p-52", "%v|%.0f|%e|%#g|%x|%b", list{ofFloat(1.5), ofFloat(1.5), ofFloat(1.5), ofFloat(1.5), ofFloat(1.5), ofFloat(1.5)}},
		{"+Inf|   NaN|-Inf|-0", "%v|%06v|%f|%v", list{ofFloat(math.Inf(1)), ofFloat(math.NaN()), ofFloat(math.Inf(-1)), ofFloat(math.Copysign(0, -1))}},
		{"0.1|100000000000000000000|1e+21|1e-05|5e-324", "%v|%v|%v|%v|%v", list{{Kind: api.Float32, Bits: 0x3dcccccd}, ofFloat(1e20), ofFloat(1e21), ofFloat(1e-5), {Kind: api.Float64, Bits: 1}}},
		{"(1-2i)|(1.0-2.0i)|(  1 -2i)", "%v|%.1f|%3v", list{complex, complex, complex}},
		{`"té\n"|"t\u00e9\n"|74 c3 a9 0a|té` + "\n|té|   té", "%q|%+q|% x|%s|%.2s|%5.2v", list{ofText("té\n"), ofText("té\n"), ofText("té\n"), ofText("té\n"), ofText("té\n"), ofText("té\n")}},
		{"[97 98]|[]uint8{0x61, 0x62}|6162|ab|slice{(ptr)(nil)}", "%v|%#v|%x|%s|%#v", list{raw, raw, raw, raw, of(api.Slice, of(api.Ptr))}},
		{"map[a:1 b:2]|map{\"a\":1, \"b\":2}|&map[a:1 b:2]|[0x0]", "%v|%#v|%v|%v", list{entries, entries, of(api.Ptr, entries), of(api.Slice, of(api.Ptr, pair))}},
		{"{1 %!d(string=x)}|&{1 x}|<nil>|(ptr)(nil)|(ptr)(0x10)|0x10|16", "%d|%v|%v|%#v|%#v|%v|%d", list{pair, of(api.Ptr, pair), of(api.Ptr), of(api.Ptr), {Kind: api.Ptr, Bits: 16, Parts: list{ofInt(1)}}, {Kind: api.Ptr, Bits: 16, Parts: list{ofInt(1)}}, {Kind: api.Ptr, Bits: 16, Parts: list{ofInt(1)}}}},
		{"int|T|[]uint8|<nil>|N", "%T|%T|%T|%T|%T", list{ofInt(1), pair, raw, {}, {Kind: api.Int, Type: "N"}}},
		{"<nil>|%!d(<nil>)|  <nil>|%!d(bool=true)", "%v|%d|%7v|%d", list{{Kind: 77}, {}, {}, yes}},
		{"%!(BADPREC)1.500000|%!(BADWIDTH)%!d(MISSING)", "%.*f|%*d", list{ofInt(-1), ofFloat(1.5)}},
		{"3 1 2 %!d(BADINDEX)%!x(BADINDEX)]d", "%[3]d %[1]d %d %[0]d%[x]d", ints(3)},
		{"1 2%!(EXTRA int=3, T={1 x}, <nil>=<nil>)", "%d %d", append(ints(3), pair, api.Desc{})},
		{"1 2 3 4 5 6 7 8 9 10 11 12 13 14 15 16 %!d(MISSING)", strings.Repeat("%d ", 16) + "%d", ints(17)},
	} {
		said(t, nil, x.want, x.format, x.args...)
	}
}

// chance is a row of numbers that is the same in each run.
type chance uint64

// below answers a number from 0 to n - 1.
func (c *chance) below(n int) int {
	*c ^= *c << 13
	*c ^= *c >> 7
	*c ^= *c << 17
	return int(uint64(*c) >> 11 % uint64(n))
}

// bits answers a number of any size.
func (c *chance) bits() uint64 { return uint64(c.below(1<<32))<<32 | uint64(c.below(1<<32)) }

// one answers one of these.
func one[T any](c *chance, l ...T) T { return l[c.below(len(l))] }

// known is a value of Go's, its descriptor, and the verbs that are for it. Go
// takes Bytes in a list for numbers by some verbs that are not for them here.
type known struct {
	value    any
	desc     api.Desc
	verbs    string
	hasBytes bool
}

// fields is a struct of Go's.
type fields struct{ A, B any }

// leaf answers a value without parts, for which Go has the same texts.
func (c *chance) leaf() known {
	const whole, float, text = "vdboOxXcqU", "vefgEFGbxX", "vsqxX"
	n := one(c, 0, 1, 7, 65, 127)
	x := one(c, 0, 1, 1.5, -2.25, 0.1, 12345.678, 1e-7, 3e30)
	s := one(c, "", "a", "té", "b\n", "\xff", `q"\`)
	switch c.below(10) {
	case 0:
		return known{n%2 == 1, api.Desc{Kind: api.Bool, Bits: uint64(n)}, "vt", false}
	case 1:
		return known{int8(-n), api.Desc{Kind: api.Int8, Bits: uint64(-n)}, whole, false}
	case 2:
		return known{n, ofInt(n), whole, false}
	case 3:
		return known{uint16(n), api.Desc{Kind: api.Uint16, Bits: uint64(n)}, whole, false}
	case 4:
		return known{uint64(n), api.Desc{Kind: api.Uint64, Bits: uint64(n)}, whole, false}
	case 5:
		return known{x, ofFloat(x), float, false}
	case 6:
		return known{float32(x), api.Desc{Kind: api.Float32, Bits: uint64(math.Float32bits(float32(x)))}, float, false}
	case 7:
		return known{complex(x, -x), api.Desc{Kind: api.Complex128, Bits: math.Float64bits(x), Imag: math.Float64bits(-x)}, float, false}
	case 8:
		return known{[]byte(s), api.Desc{Kind: api.Bytes, Text: s}, text, true}
	}
	return known{s, ofText(s), text, false}
}

// known answers a value with parts, so many in one another, or a leaf.
func (c *chance) known(deep int) known {
	if deep == 0 || c.below(3) == 0 {
		return c.leaf()
	}
	a, b := c.known(deep-1), c.known(deep-1)
	hasBytes := a.hasBytes || b.hasBytes
	switch c.below(5) {
	case 0:
		return known{[]any{a.value, b.value}, of(api.Slice, a.desc, b.desc), "v", hasBytes}
	case 1:
		return known{[1]any{a.value}, of(api.Array, a.desc), "v", hasBytes}
	case 2:
		return known{map[int]any{7: a.value, -7: b.value}, of(api.Map, ofInt(7), a.desc, ofInt(-7), b.desc), "v", hasBytes}
	case 3:
		return known{map[string]any{"b": a.value, "a": b.value, "": 1}, of(api.Map, ofText("b"), a.desc, ofText("a"), b.desc, ofText(""), ofInt(1)), "v", hasBytes}
	}
	return known{fields{a.value, b.value}, ofStruct(a.desc, b.desc), "v", hasBytes}
}

// directive answers one by which Go prints k as the document says.
func (c *chance) directive(k known) string {
	if !k.hasBytes && c.below(3) == 0 {
		return "%" + string(one(c, []byte("vdsqxXtboOcUeEfFgGz")...))
	}
	verb := string(one(c, []byte(k.verbs)...))
	flags := one(c, "", "", "-", "+", " ", "+-")
	// What # says by v, by O and of floats by x is not what Go says.
	if !strings.Contains("vO", verb) && !(strings.Contains(k.verbs, "e") && strings.Contains("xX", verb)) {
		flags += one(c, "", "#")
	}
	// Go fills to the width beside the mark of a whole number, not with it.
	if strings.Contains("dboefg", verb) && !strings.Contains(flags, "#") {
		flags += one(c, "", "0")
	}
	return "%" + flags + one(c, "", "", "3", "9", "20") + one(c, "", "", ".", ".1", ".5") + verb
}

// P1: where the document says the same as Go, the whole is Go's print.
func TestAsGoPrintsP1(t *testing.T) {
	c := chance(1)
	presses := both(nil)
	for range 60000 {
		format := one(&c, "", "a", "é")
		var args []any
		var descs list
		for range c.below(4) {
			k := c.known(3)
			format += c.directive(k) + one(&c, "", " ", "%%", "b")
			args, descs = append(args, k.value), append(descs, k.desc)
		}
		want := fmt.Sprintf(format, args...)
		// Go counts fffd among the plain ones.
		if strings.Contains(want, "'\ufffd'") {
			continue
		}
		if len(want) > api.MaxOut {
			want = want[:api.MaxOut] + buf.TooLong
		}
		for _, p := range presses {
			if got := p.Sprintf(format, descs...); got != want {
				t.Fatalf("%q of %+v:\n%q, not\n%q", format, descs, got, want)
			}
		}
	}
}

// P1: a print is the prints of its pieces, cut where it has more than MaxOut
// bytes.
func TestPiecesP1(t *testing.T) {
	table := sayingRows()
	args := list{ofInt(7), ofText("té\n"), ofFloat(1.5), hooked(1, ofInt(1)), hooked(2, ofInt(1)), hooked(3, ofInt(1)), hooked(4, ofInt(1)), hooked(1, of(api.Ptr)), ofStruct(hooked(2, ofInt(1)), ofText("x"))}
	presses := both(table)
	c := chance(2)
	cut := 0
	for range 3000 {
		format, want := "", ""
		for range c.below(60) {
			piece := "%" + one(&c, "", "-", "+", "#", "0") + one(&c, "", "5", "100", "1000", "1001") + "[1]d"
			switch c.below(3) {
			case 0:
				piece = one(&c, "a", "é", "%%", "%[77]d", "%[0]v", strings.Repeat("x", 1+c.below(300)))
			case 1:
				piece = "%[" + strconv.Itoa(1+c.below(len(args))) + "]" + one(&c, "v", "s", "q", "d", "T", "z")
			}
			format += piece
			want += New(table, true).Sprintf("%[1]T"+piece, args...)[len("int"):]
		}
		if !strings.Contains(format, "[") {
			continue
		}
		if len(want) > api.MaxOut {
			want = want[:api.MaxOut] + buf.TooLong
			cut++
		}
		for _, p := range presses {
			is(t, p.Sprintf(format, args...), want)
		}
	}
	if cut < 300 {
		t.Errorf("%d were cut", cut)
	}
}

// anyDesc answers a descriptor, of which there is a value or not.
func (c *chance) anyDesc(deep int) api.Desc {
	d := api.Desc{Kind: c.below(26) - 2, Bits: one(c, 0, 1, 5, 1001, c.bits(), math.MaxUint64), Imag: c.bits(), Hook: one(c, 0, 0, 0, 1, 2, 3, 4, 5, -1, 17)}
	d.Text = one(c, "", "a", "té", "%d", "\xff", strings.Repeat("x", api.MaxText), strings.Repeat("x", api.MaxText+1))
	d.Type = one(c, "", "", "", "", "T", "a b", strings.Repeat("t", api.MaxName))
	if deep == 0 || d.Kind < api.Struct {
		return d
	}
	n := c.below(4)
	switch {
	case d.Kind == api.Ptr:
		n = c.below(2)
	case d.Kind == api.Map:
		n = 0
		d.Parts = list{ofInt(c.below(3)), c.anyDesc(deep - 1), ofText("k"), c.anyDesc(deep - 1)}
	}
	for i := range n {
		d.Parts = append(d.Parts, c.anyDesc(deep-1))
		d.Names = append(d.Names, "f"+strconv.Itoa(i))
	}
	return d
}

func (c *chance) anyArgs(most int) list {
	var l list
	for range c.below(most + 1) {
		l = append(l, c.anyDesc(3))
	}
	return l
}

// anyFormat answers bytes that say something in a format, in any order.
func (c *chance) anyFormat(most int) string {
	s := ""
	for range c.below(most) {
		s += one(c, "%", "%", "%", "%", "[", "]", "1", "2", "0", "3", "9", "*", ".", "-", "+", "#", " ", "v", "v", "d", "s", "x", "q", "e", "T", "t", "é", "\xff", "\x00", "z", "%v", "%v", "%d", "%[1]v")
	}
	return s
}

// anyTable answers rows whose methods ask for prints with rows of it.
func (c *chance) anyTable() []api.Hook {
	act := func() api.Act {
		return api.Act{Kind: one(c, 0, 0, api.Tells, api.Throws, api.Prints, api.Prints, 4, -1), Text: one(c, "", "té", strings.Repeat("x", 3000)), Format: c.anyFormat(9), Args: c.anyArgs(2), Panic: c.anyDesc(1)}
	}
	var l []api.Hook
	for range c.below(6) {
		h := api.Hook{Syntax: act(), Error: act(), String: act()}
		if c.below(3) == 0 {
			h.Format = act()
		}
		l = append(l, h)
	}
	return l
}

// fits fails unless s is a text that a print may answer.
func fits(t *testing.T, s string) {
	t.Helper()
	if len(s) > api.MaxOut && (len(s) != api.MaxOut+len(buf.TooLong) || !strings.HasSuffix(s, buf.TooLong)) {
		t.Errorf("%d bytes, ending by %q", len(s), s[len(s)-20:])
	}
}

// P1, P4, P15.6: whatever is handed to a press, it prints what chapter 14 says,
// and what a new press prints.
func TestAnyPrintP1P4P156(t *testing.T) {
	c := chance(3)
	for range 1500 {
		table := c.anyTable()
		used := New(table, false)
		for range 12 {
			format, args := c.anyFormat(20), c.anyArgs(5)
			want, line := printer.Sprintf(table, format, args), printer.Sprintln(table, args)
			fits(t, want)
			fits(t, line)
			for _, p := range []*Press{used, New(table, false), New(table, true)} {
				is(t, p.Sprintf(format, args...), want)
				is(t, p.Sprintln(args...), line)
				is(t, p.Sprint(args...), printer.Sprint(table, args))
				is(t, string(p.Appendf([]byte("ab"), format, args...)), "ab"+want)
				w := &taker{left: c.below(30)}
				n, _ := p.Fprintf(w, format, args...)
				is(t, w.took, want[:n])
			}
		}
		is(t, used.Calls(), 60)
		if t.Failed() {
			t.FailNow()
		}
	}
}

// P1: a call beyond the bound ends, and the press prints on.
func TestEndsP1(t *testing.T) {
	items := of(api.Slice, hooked(1, ofInt(1)), hooked(1, ofInt(2)))
	format := strings.Repeat("%.0[1]v", 150)
	for _, p := range both(rowsOf(api.Hook{Error: prints(format, items)}, api.Hook{String: tells("two")})) {
		fits(t, p.Sprintf(format, items))
		fits(t, p.Sprint(items, items))
		is(t, p.Sprintf("%v", hooked(2, ofInt(1))), "two")
	}
}

// readsAs fails unless s is read as the float x of that size.
func readsAs(t *testing.T, s string, x float64, size int) {
	t.Helper()
	got, err := strconv.ParseFloat(s, size)
	if err != nil || math.Float64bits(got) != math.Float64bits(x) {
		t.Errorf("%q: %v, not %v", s, got, x)
	}
}

// anyFloats are floats at the edges, and any others.
func (c *chance) anyFloats() []float64 {
	l := []float64{0, 1, 0.1, 0.3, 1.5, 2.5, 5e-324, math.MaxFloat64, 1e21, 1e22, 1e23, 1e-5, 123456789, 4503599627370497.5, 2.2250738585072014e-308, math.Pi}
	for len(l) < 400 {
		if x := math.Float64frombits(c.bits()); !math.IsNaN(x) && !math.IsInf(x, 0) {
			l = append(l, x)
		}
	}
	for _, x := range l[:16] {
		l = append(l, -x, math.Copysign(x, -1))
	}
	return l
}

// P2: floats are exact, or the shortest (6.6 to 6.9, 5.4, 5.5).
func TestFloatsP2(t *testing.T) {
	c := chance(4)
	p := New(nil, false)
	for _, x := range c.anyFloats() {
		d := ofFloat(x)
		for _, format := range []string{"%v", "%g", "%G", "%x", "%X", "%.17g", "%.16e", "%+v", "%.1000e"} {
			readsAs(t, p.Sprintf(format, d), x, 64)
		}
		shortest := strconv.FormatFloat(x, 'e', -1, 64)
		text := p.Sprintf("%v", d)
		if digits := func(s string) string {
			s, _, _ = strings.Cut(s, "e")
			return strings.Trim(strings.ReplaceAll(strings.TrimPrefix(s, "-"), ".", ""), "0")
		}; digits(text) != digits(shortest) {
			t.Errorf("%q, not as %q", text, shortest)
		}
		for _, prec := range []int{0, 1, 6, 50, 1000} {
			is(t, p.Sprintf("%.*f", ofInt(prec), d), strconv.FormatFloat(x, 'f', prec, 64))
			is(t, p.Sprintf("%.*e", ofInt(prec), d), strconv.FormatFloat(x, 'e', prec, 64))
		}
		exact := new(big.Float).SetFloat64(x)
		is(t, p.Sprintf("%.800e", d), exact.Text('e', 800))
		m, e, _ := strings.Cut(p.Sprintf("%b", d), "p")
		mantissa, _ := strconv.ParseInt(strings.TrimPrefix(m, "-"), 10, 64)
		exponent, _ := strconv.Atoi(e)
		is(t, math.Ldexp(float64(mantissa), exponent), math.Abs(x))

		small := float32(x)
		d = api.Desc{Kind: api.Float32, Bits: uint64(math.Float32bits(small)) | 5<<32}
		if !math.IsInf(float64(small), 0) {
			readsAs(t, p.Sprintf("%v", d), float64(small), 32)
			readsAs(t, p.Sprintf("%x", d), float64(small), 32)
			is(t, p.Sprintf("%.40f", d), strconv.FormatFloat(float64(small), 'f', 40, 32))
		}
		if !math.Signbit(x) {
			is(t, p.Sprintf("%v|%e|%f", ofFloat(-x), ofFloat(-x), ofFloat(-x)), "-"+strings.ReplaceAll(p.Sprintf("%v|%e|%f", ofFloat(x), ofFloat(x), ofFloat(x)), "|", "|-"))
		}
	}
}

// P2: whole numbers are read back (3.3).
func TestWholeNumbersP2(t *testing.T) {
	c := chance(5)
	p := New(nil, false)
	l := []uint64{0, 1, 9, 10, 255, 256, math.MaxInt64, 1 << 63, math.MaxUint64}
	for range 500 {
		l = append(l, c.bits()>>c.below(64))
	}
	for _, n := range l {
		for verb, base := range map[string]int{"d": 10, "v": 10, "b": 2, "o": 8, "x": 16, "X": 16, ".70d": 10, "090d": 10, "+d": 10, "O": 0, "#x": 0, "#b": 0, "#o": 0} {
			s := strings.TrimPrefix(p.Sprintf("%"+verb, api.Desc{Kind: api.Uint64, Bits: n}), "+")
			if got, err := strconv.ParseUint(s, base, 64); got != n || err != nil {
				t.Errorf("%d by %s: %q", n, verb, s)
			}
			s = p.Sprintf("%"+verb, api.Desc{Kind: api.Int64, Bits: n})
			if got, err := strconv.ParseInt(s, base, 64); got != int64(n) || err != nil {
				t.Errorf("%d by %s: %q", int64(n), verb, s)
			}
		}
	}
}

// P2: texts and complex numbers are read back (2.5, 2.7, 7.3).
func TestTextsAndComplexP2(t *testing.T) {
	c := chance(6)
	p := New(nil, false)
	for range 2000 {
		s := ""
		for range c.below(12) {
			s += one(&c, "a", "é", "日", "\n", "\\", `"`, "'", "`", "\x7f", "\xff", "\x00", string(rune(c.below(0x110000))), string([]byte{byte(c.below(256))}))
		}
		for _, d := range []api.Desc{ofText(s), {Kind: api.Bytes, Text: s}} {
			for _, format := range []string{"%q", "%+q"} {
				text := p.Sprintf(format, d)
				got, ok := quote.Unquote(text)
				is(t, got, s)
				is(t, ok, true)
				got, err := strconv.Unquote(text)
				is(t, got, s)
				is(t, err, nil)
			}
			is(t, p.Sprintf("%s", d), s)
			for _, format := range []string{"%x", "%X", "% x", "%# X"} {
				var read []byte
				digits := strings.NewReplacer(" ", "", "0x", "", "0X", "").Replace(p.Sprintf(format, d))
				for i := 0; i+1 < len(digits); i += 2 {
					b, err := strconv.ParseUint(digits[i:i+2], 16, 8)
					is(t, err, nil)
					read = append(read, byte(b))
				}
				is(t, string(read), s)
			}
		}
		if got, err := strconv.Unquote(p.Sprintf("%#q", ofText(s))); got != s || err != nil {
			t.Errorf("%q: %q", s, got)
		}
	}
	for _, x := range c.anyFloats() {
		y := one(&c, 0, -1.5, 1e300, -1e-300, 7)
		a, b, ok := cplx.Split(p.Sprintf("%v", api.Desc{Kind: api.Complex128, Bits: math.Float64bits(x), Imag: math.Float64bits(y)}))
		is(t, ok, true)
		readsAs(t, a, x, 64)
		readsAs(t, b, y, 64)
	}
}

// P3: of all rows by all verbs just the method that chapter 11 says is asked.
func TestMethodThatIsAskedP3(t *testing.T) {
	for there := range 16 {
		for _, kind := range []int{api.Tells, api.Prints, api.Throws} {
			method := func(bit int, name string) api.Act {
				if there&bit == 0 {
					return api.Act{Kind: api.Lacks, Text: "no", Format: "no", Panic: ofText("no")}
				}
				return api.Act{Kind: kind, Text: name, Format: name, Panic: ofText(name)}
			}
			table := rowsOf(api.Hook{Format: method(8, "Format"), Syntax: method(4, "GoString"), Error: method(2, "Error"), String: method(1, "String")})
			for _, format := range []string{"%v", "%+v", "%#v", "%s", "%x", "%X", "%q", "%d", "%c", "%z", "%t", "%5d"} {
				verb := format[len(format)-1:]
				plain := New(nil, false).Sprintf(format, ofInt(65))
				asked := ""
				switch {
				case there&8 != 0:
					asked = "Format"
				case format == "%#v":
					asked = []string{"", "GoString"}[there>>2&1]
				case strings.Contains("vsxXq", verb):
					asked = []string{"", "String", "Error", "Error"}[there&3]
				}
				want := asked
				switch {
				case asked == "":
					want = plain
				case kind == api.Throws:
					want = "%!" + verb + "(PANIC=" + asked + " method: " + asked + ")"
				case asked != "Format" && strings.Contains("xXq", verb):
					want = fmt.Sprintf(format, asked)
				}
				for _, p := range both(table) {
					is(t, p.Sprintf(format, hooked(1, ofInt(65))), want)
				}
			}
		}
	}
}

// P3: what is thrown is told a depth deeper, and prints within prints end at
// MaxHookDepth, by whichever method, and by prints and throws by turns.
func TestDepthP3(t *testing.T) {
	self := hooked(1, ofInt(1))
	for _, throwing := range []bool{false, true} {
		act := prints("<%v>", self)
		if throwing {
			act = throws(self)
		}
		for name, h := range map[string]api.Hook{"Format": {Format: act}, "Error": {Error: act, String: tells("no")}, "String": {String: act}} {
			want := "%!(DEPTH)"
			for range api.MaxHookDepth + 1 {
				switch {
				case throwing:
					want = "%!v(PANIC=" + name + " method: " + want + ")"
				case len(want) < len("<<<%!(DEPTH)>>>"):
					want = "<" + want + ">"
				}
			}
			for _, p := range both(rowsOf(h)) {
				is(t, p.Sprintf("%v", self), want)
				is(t, p.Sprint(self), want)
				is(t, p.Sprintln(self, ofText("a")), want+" a\n")
				is(t, p.Sprintf("%v%v", ofStruct(self), ofInt(2)), "{"+want+"}2")
			}
		}
	}
	// A row that prints the one ahead of it, the first of which tells.
	var rows []api.Hook
	want := "told"
	for i := range 6 {
		act := tells("told")
		if i > 0 {
			act = prints("("+strconv.Itoa(i)+"%v)", hooked(i, ofInt(1)))
		}
		rows = append(rows, api.Hook{String: act})
	}
	for i := range 6 {
		if i > 0 {
			want = "(" + strconv.Itoa(i) + want + ")"
		}
		if i > api.MaxHookDepth {
			want = []string{"(4(3(2%!(DEPTH))))", "(5(4(3%!(DEPTH))))"}[i-4]
		}
		for _, p := range both(rows) {
			is(t, p.Sprintf("%v", hooked(i+1, ofInt(1))), want)
		}
	}
}

// P4, P15.6: each print behind each other one is as by a new press.
func TestWhateverWasPrintedAheadP4P156(t *testing.T) {
	table := sayingRows()
	long := list{ofText(strings.Repeat("x", api.MaxText))}
	ahead := []func(p *Press){
		func(p *Press) {},
		func(p *Press) { p.Sprintf("%v %v", hooked(1, ofInt(1)), hooked(1, ofInt(2))) },
		func(p *Press) { p.Sprint(hooked(3, ofInt(1))) },
		func(p *Press) { p.Sprintln(hooked(4, ofInt(1)), hooked(4, of(api.Ptr))) },
		func(p *Press) { p.Sprintf("%s%[1]s%[1]s%[1]s%[1]s", long...) },
		func(p *Press) { p.Appendf(make([]byte, 3, 50), "%v", hooked(6, ofInt(1))) },
		func(p *Press) { p.Fprintf(&taker{left: 2}, "%v", hooked(5, ofInt(1))) },
		func(p *Press) { p.Fprintf(writes(func([]byte) (int, error) { panic("boo") }), "%d") },
		func(p *Press) { p.Fprintf(nil, "%d", ofInt(1)) },
		func(p *Press) { p.Sprintf("%[9]d %*d %", ints(20)...) },
		func(p *Press) { p.Sprint(ints(40)...) },
		func(p *Press) { p.Sprint(api.Desc{Kind: 99}) },
		func(p *Press) { p.Sprintf("%-+# 010.5v", ofStruct(ofInt(1))) },
	}
	for _, first := range ahead {
		for _, second := range ahead {
			p := New(table, false)
			first(p)
			second(p)
			for _, x := range sayings() {
				is(t, p.Sprintf(x.format, x.args...), New(table, false).Sprintf(x.format, x.args...))
			}
			first(p)
			is(t, p.Sprint(ints(3)...), "1 2 3")
			second(p)
			is(t, p.Sprintln(hooked(2, ofInt(1))), "té\n")
			first(p)
			is(t, string(p.Appendf([]byte("a"), "%v", hooked(1, ofInt(1)))), "a%!v(PANIC=String method: boo)")
			second(p)
			w := &taker{left: 1}
			n, e := p.Fprintf(w, "%d", ofInt(12))
			is(t, n, 1)
			is(t, e, errFull)
			is(t, w.took, "1")
		}
	}
}
