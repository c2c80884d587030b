package printer

import (
	"math"
	"reflect"
	"strconv"
	"strings"
	"testing"

	"platen/api"
	"platen/bad"
	"platen/buf"
	"platen/hooks"
	"platen/parse"
	"platen/tree"
	"platen/values"
)

// list has the arguments of a print.
type list = []api.Desc

func ofInt(n int) api.Desc                    { return api.Desc{Kind: api.Int, Bits: uint64(n)} }
func ofText(s string) api.Desc                { return api.Desc{Kind: api.Text, Text: s} }
func ofFloat(x float64) api.Desc              { return api.Desc{Kind: api.Float64, Bits: math.Float64bits(x)} }
func of(kind int, parts ...api.Desc) api.Desc { return api.Desc{Kind: kind, Parts: parts} }

// number is a whole number of that kind.
func number(kind, n int) api.Desc { return api.Desc{Kind: kind, Bits: uint64(n)} }

// hooked answers d with that hook.
func hooked(hook int, d api.Desc) api.Desc {
	d.Hook = hook
	return d
}

// ofStruct has these parts by the names A, B and so on.
func ofStruct(parts ...api.Desc) api.Desc {
	d := of(api.Struct, parts...)
	d.Type = "T"
	for i := range parts {
		d.Names = append(d.Names, string(rune('A'+i)))
	}
	return d
}

// ints are the Ints from 1 to n.
func ints(n int) list {
	var l list
	for i := range n {
		l = append(l, ofInt(i+1))
	}
	return l
}

// repeated has d n times.
func repeated(n int, d api.Desc) list {
	var l list
	for range n {
		l = append(l, d)
	}
	return l
}

// What a method does.
func tells(s string) api.Act    { return api.Act{Kind: api.Tells, Text: s} }
func throws(d api.Desc) api.Act { return api.Act{Kind: api.Throws, Panic: d} }
func prints(format string, args ...api.Desc) api.Act {
	return api.Act{Kind: api.Prints, Format: format, Args: args}
}
func rowsOf(rows ...api.Hook) []api.Hook             { return rows }
func sprintf(format string, args ...api.Desc) string { return Sprintf(nil, format, args) }
func blanks(n int) string                            { return strings.Repeat(" ", n) }

// refused are descriptors that Build refuses, each for another reason.
func refused() list {
	deep := ofInt(1)
	for range api.MaxDeep {
		deep = of(api.Ptr, deep)
	}
	return list{
		{Kind: 23}, {Kind: -1}, {Kind: api.Int, Type: "a b"}, of(api.Map, ofInt(1)), of(api.Slice, ints(api.MaxNodes)...),
		ofText(strings.Repeat("a", api.MaxText+1)), deep, {Kind: api.Struct, Names: []string{"a", "a"}, Parts: ints(2)},
	}
}

// say is a print that is wanted of a format and arguments.
type say struct {
	format string
	args   list
	want   string
}

// holdAll holds Sprintf and At of depth 0 against what is wanted.
func holdAll(t *testing.T, table []api.Hook, l []say) {
	t.Helper()
	for _, x := range l {
		if got := Sprintf(table, x.format, x.args); got != x.want {
			t.Errorf("%q of %+v: %q, not %q", x.format, x.args, got, x.want)
		}
		if got := At(0, table, x.format, x.args); got != x.want {
			t.Errorf("At of %q of %+v: %q, not %q", x.format, x.args, got, x.want)
		}
	}
}

func TestExamples(t *testing.T) {
	half, tenth, seven := ofFloat(1.5), ofFloat(0.1), ofInt(7)
	holdAll(t, nil, []say{
		{"%d%%", list{ofInt(5)}, "5%"},
		{"%d", nil, "%!d(MISSING)"},
		{"x", ints(1), "x%!(EXTRA int=1)"},
		{"%[2]d", ints(2), "2"},
		{"%[3]d", ints(1), "%!d(BADINDEX)"},
		{"%*d", list{ofInt(5), ofInt(1)}, "    1"},
		{"%1001d", ints(1), "%!(BADWIDTH)1"},
		{"%.*f", list{ofInt(-1), half}, "%!(BADPREC)1.500000"},
		{"%d%%|%5d|%-5d|%05d", list{seven, seven, seven, seven}, "7%|    7|7    |00007"},
		{"%[2]s %[1]s", list{ofText("a"), ofText("b")}, "b a"},
		{"%z", ints(1), "%!z(int=1)"},
		{"%", nil, "%!(NOVERB)"},
		{"%*.*f|", list{ofInt(8), ofInt(2), half}, "    1.50|"},
		{"%*d", list{ofInt(1001), ofInt(1)}, "%!(BADWIDTH)1"},
		{"%v %g %e %x", list{tenth, tenth, tenth, tenth}, "0.1 0.1 1.000000e-01 0x1.999999999999ap-04"},
		{"%v %+[1]v %#[1]v", list{ofStruct(ofInt(1), ofText("x"))}, `{1 x} {A:1 B:x} T{A:1, B:"x"}`},
	})
	no := hooked(1, api.Desc{Kind: api.Bool})
	holdAll(t, rowsOf(api.Hook{String: throws(ofText("boo"))}), []say{
		{"%v", list{no}, "%!v(PANIC=String method: boo)"},
		{"%t", list{no}, "false"},
		{"%v", list{hooked(1, of(api.Ptr))}, "<nil>"},
	})
	holdAll(t, rowsOf(api.Hook{Error: prints("<%v>", no)}), []say{{"%v", list{no}, "<<<%!(DEPTH)>>>"}})
	if got := Sprint(nil, list{ofInt(1), ofInt(2), ofText("a"), ofText("b"), ofInt(3)}); got != "1 2ab3" {
		t.Error(got)
	}
	if got := Sprintln(nil, list{ofText("a"), ofInt(1)}); got != "a 1\n" {
		t.Error(got)
	}
}

func TestLiteralsP141(t *testing.T) {
	for _, s := range []string{"", "a", " ", "\x00", "é日", "\xff", "\xe6\x97", "d", "]", "*", "[1]", ".5", "a\nb\t", "!(EXTRA int=1)", strings.Repeat("é", 2048)} {
		if got := sprintf(s); got != s {
			t.Errorf("%q: %q", s, got)
		}
		if got, want := sprintf(s+"%d"+s, ofInt(7)), s+"7"+s; len(want) <= api.MaxOut && got != want {
			t.Errorf("%q: %q", want, got)
		}
	}
}

func TestFlagsP141(t *testing.T) {
	text := ofText("é\n")
	holdAll(t, nil, []say{
		{"%+d|% d|%-4d|%04d|%#x", list{ofInt(1), ofInt(2), ofInt(3), ofInt(4), ofInt(5)}, "+1| 2|3   |0004|0x5"},
		{"%+q|%#q|%q|% x|%# X", list{text, ofText("a"), text, text, text}, "\"\\u00e9\\n\"|`a`|\"é\\n\"|c3 a9 0a|0XC3 0XA9 0X0A"},
		{"%+-6d|%-+6d|%+06d|%0+6d|%-06d|%0-6d", ints(6), "+1    |+2    |+00003|+00004|5     |6     "},
		{"%++d|%  d|%##x|%00003d|%--3d", ints(5), "+1| 2|0x3|004|5  "},
		{"%+v|%#v|%+d|%v", list{ofInt(1), ofText("a"), ofInt(2), ofText("b")}, "1|\"a\"|+2|b"},
		{"%T|%8T|%-8T|%.2T|%#T", list{ofInt(1), text, text, text, ofStruct()}, "int|  string|string  |st|T"},
		// The flags of one directive say nothing of the next one.
		{"%+-#05x|%d", ints(2), "+0x1 |2"},
	})
}

func TestWidthsP141(t *testing.T) {
	one := ofInt(1)
	holdAll(t, nil, []say{
		{"%3d|%-3d|%03d|%1d", ints(4), "  1|2  |003|4"},
		{"%1000d", list{one}, blanks(999) + "1"},
		{"%-1000d|", list{one}, "1" + blanks(999) + "|"},
		{"%01000d", list{one}, strings.Repeat("0", 999) + "1"},
		{"%1001d|", list{one}, "%!(BADWIDTH)1|"},
		{"%-1001d|%01001d|", ints(2), "%!(BADWIDTH)1|%!(BADWIDTH)2|"},
		{"%99999999999999999999999999d|", list{one}, "%!(BADWIDTH)1|"},
		{"%18446744073709551621d|", list{one}, "%!(BADWIDTH)1|"},
		{"%1001d %2d", ints(2), "%!(BADWIDTH)1  2"},
		{"%1001d", nil, "%!(BADWIDTH)%!d(MISSING)"},
		{"%3z|%3d", list{one, ofText("a")}, "%!z(int=1)|%!d(string=a)"},
	})
}

// star is what a * takes, and what the width then is; above MaxWidth: none.
type star struct {
	arg   api.Desc
	width int
}

func stars() []star {
	var l []star
	add := func(arg api.Desc, width int) { l = append(l, star{arg, width}) }
	for kind := api.Int8; kind <= api.Uint; kind++ {
		add(number(kind, 0), 0)
		add(number(kind, 5), 5)
		add(number(kind, 127), 127)
	}
	for kind := api.Int8; kind <= api.Int; kind++ {
		add(number(kind, -5), -5)
		add(number(kind, -128), -128)
	}
	add(number(api.Int8, 256+5), 5)
	add(number(api.Int8, 200), -56)
	add(number(api.Uint8, -5), 251)
	add(number(api.Uint16, 1<<16+5), 5)
	for _, kind := range []int{api.Int16, api.Int32, api.Int64, api.Int} {
		add(number(kind, 1000), 1000)
		add(number(kind, -1000), -1000)
		for _, n := range []int{1001, -1001, 32767, -32768} {
			add(number(kind, n), 1001)
		}
	}
	for _, kind := range []int{api.Uint16, api.Uint32, api.Uint64, api.Uint} {
		add(number(kind, 1000), 1000)
		add(number(kind, 1001), 1001)
		add(number(kind, -5), 1001)
		add(number(kind, -1), 1001)
	}
	for _, n := range []int{math.MaxInt64, math.MinInt64, math.MinInt64 + 5, math.MaxInt32, math.MinInt32, 1<<32 + 5, -(1 << 32)} {
		add(ofInt(n), 1001)
	}
	for _, d := range append(refused(), ofFloat(5), ofText("5"), ofText(""), api.Desc{}, api.Desc{Kind: api.Bool, Bits: 1}, api.Desc{Kind: api.Float32, Bits: 5},
		api.Desc{Kind: api.Float64, Bits: 5}, api.Desc{Kind: api.Complex128, Bits: 5}, api.Desc{Kind: api.Complex64, Bits: 5}, api.Desc{Kind: api.Bytes, Text: "5", Bits: 5},
		of(api.Slice, ofInt(5)), ofStruct(ofInt(5)), of(api.Ptr, ofInt(5)), api.Desc{Kind: api.Ptr, Bits: 5}, of(api.Map)) {
		add(d, 1001)
	}
	// Neither the type nor the hook of a number says anything.
	add(api.Desc{Kind: api.Int, Bits: 5, Type: "T", Hook: 1}, 5)
	return l
}

func TestStarsP141(t *testing.T) {
	table := rowsOf(api.Hook{Format: tells("9")})
	for _, x := range stars() {
		for _, flags := range []string{"", "-", "0", "+", "-0"} {
			minus := flags != "" && flags[0] == '-'
			text := "7"
			if flags == "+" {
				text = "+7"
			}
			want := ""
			switch gap := max(x.width, -x.width) - len(text); {
			case x.width > api.MaxWidth:
				want = "%!(BADWIDTH)" + text
			case minus || x.width < 0:
				want = text + blanks(max(gap, 0))
			case flags == "0":
				want = strings.Repeat("0", max(gap, 0)) + text
			default:
				want = blanks(max(gap, 0)) + text
			}
			holdAll(t, table, []say{{"a%" + flags + "*db%d", list{x.arg, ofInt(7), ofInt(8)}, "a" + want + "b8"}})
		}
		want := "%!(BADPREC)7"
		if x.width >= 0 && x.width <= api.MaxWidth {
			want = strings.Repeat("0", max(x.width-1, 0)) + "7"
		}
		holdAll(t, table, []say{{"a%.*db%d", list{x.arg, ofInt(7), ofInt(8)}, "a" + want + "b8"}})
	}
}

func TestStarsThatFindNoneP141(t *testing.T) {
	holdAll(t, nil, []say{
		{"%*d", nil, "%!(BADWIDTH)%!d(MISSING)"},
		{"%.*d", nil, "%!(BADPREC)%!d(MISSING)"},
		{"%*.*d", nil, "%!(BADWIDTH)%!(BADPREC)%!d(MISSING)"},
		{"%*.*d", list{ofInt(5)}, "%!(BADPREC)%!d(MISSING)"},
		{"%*d", list{ofInt(5)}, "%!d(MISSING)"},
		{"%*d", list{ofText("a")}, "%!(BADWIDTH)%!d(MISSING)"},
		{"%*.*d|", list{ofText("a"), ofText("b"), ofInt(1)}, "%!(BADWIDTH)%!(BADPREC)1|"},
		{"%1001.1001d|", ints(1), "%!(BADWIDTH)%!(BADPREC)1|"},
		{"%1001.*d|", list{ofInt(-1), ofInt(1)}, "%!(BADWIDTH)%!(BADPREC)1|"},
		{"%*.1001d|", list{ofInt(3), ofInt(1)}, "%!(BADPREC)  1|"},
		// An index that finds none leaves the next argument where it was.
		{"%[3]*d", ints(2), "%!(BADWIDTH)1"},
		{"%[0]*d", ints(2), "%!(BADWIDTH)1"},
		{"%[3]*.[4]*d", ints(2), "%!(BADWIDTH)%!(BADPREC)1"},
		{"%[2]*.[9]*[1]d", ints(2), "%!(BADPREC) 1"},
		{"%d%[3]*d%d", ints(2), "1%!(BADWIDTH)2%!d(MISSING)"},
		{"%[1234567890]*d", ints(2), "%!(BADWIDTH)1"},
		{"%[999999999]*d", ints(2), "%!(BADWIDTH)1"},
		// What a bad star has said ahead is all that is unlike.
		{"%-+*d|", list{ofText(""), ofInt(1)}, "%!(BADWIDTH)+1|"},
		{"%.*s|%.*s|", list{ofInt(1), ofText("éa"), ofInt(-2), ofText("éa")}, "é|%!(BADPREC)éa|"},
		{"%5.*d|", list{ofInt(-2), ofInt(1)}, "%!(BADPREC)    1|"},
	})
}

func TestPrecisionsP141(t *testing.T) {
	holdAll(t, nil, []say{
		{"%.3d|%.d|%.0d|%.1d|%5.2d|%-5.2d|", append(ints(2), ofInt(0), ofInt(0), ofInt(5), ofInt(6)), "001|2||0|   05|06   |"},
		{"%.0f|%.1f|%.f|%.3s|%.0s|%.s|%.2q", list{ofFloat(1.5), ofFloat(1.5), ofFloat(2.5), ofText("abcd"), ofText("a"), ofText("a"), ofText("abc")}, "2|1.5|2|abc|||\"ab\""},
		{"%.1000d", ints(1), strings.Repeat("0", 999) + "1"},
		{"%.1001d|", ints(1), "%!(BADPREC)1|"},
		{"%.01000d", ints(1), strings.Repeat("0", 999) + "1"},
		{"%.99999999999999999999s|", list{ofText("ab")}, "%!(BADPREC)ab|"},
		{"%.*f", list{ofInt(0), ofFloat(2.5)}, "2"},
		{"%.*d", list{ofInt(1000), ofInt(1)}, strings.Repeat("0", 999) + "1"},
		{"%.*d", list{ofInt(1001), ofInt(1)}, "%!(BADPREC)1"},
		{"%.*d", list{ofInt(-1000), ofInt(1)}, "%!(BADPREC)1"},
		{"%.-1d", ints(1), "%!-(int=1)1d"},
		// A precision below 0 is no Minus.
		{"%4.*d|", list{ofInt(-3), ofInt(1)}, "%!(BADPREC)   1|"},
	})
}

func TestOpenP141(t *testing.T) {
	for _, s := range []string{"%", "%5", "%-", "%.", "%.5", "%+-# 0", "%1001", "%5.1001"} {
		if got, want := sprintf("a"+s), "a%!(NOVERB)"; got != want {
			t.Errorf("%q: %q", s, got)
		}
		if got, want := sprintf("%d"+s, ints(2)...), "1%!(NOVERB)%!(EXTRA int=2)"; got != want {
			t.Errorf("%q: %q", s, got)
		}
	}
	holdAll(t, nil, []say{
		{"%%%", nil, "%%!(NOVERB)"},
		// Nothing is taken by what is open; but an index in it is one of the format.
		{"%*", list{ofInt(5)}, "%!(NOVERB)%!(EXTRA int=5)"},
		{"%*.*", list{ofInt(5)}, "%!(NOVERB)%!(EXTRA int=5)"},
		{"%[1]", list{ofInt(5)}, "%!(NOVERB)"},
		{"%[0]", list{ofInt(5)}, "%!(NOVERB)"},
		{"%[", list{ofInt(5)}, "%!(NOVERB)"},
		{"%[1]*", list{ofInt(5)}, "%!(NOVERB)"},
		{"%.[1]*", list{ofInt(5)}, "%!(NOVERB)"},
	})
}

func TestPercentP141(t *testing.T) {
	for _, s := range []string{"%%", "%5%", "%-05%", "%+%", "%.3%", "%5.3%", "%1000%"} {
		if got := sprintf("a" + s + "b"); got != "a%b" {
			t.Errorf("%q: %q", s, got)
		}
		if got := sprintf(s+"%d", ofInt(1)); got != "%1" {
			t.Errorf("%q: %q", s, got)
		}
	}
	holdAll(t, nil, []say{
		{"%1001%", nil, "%!(BADWIDTH)%"},
		{"%.1001%", nil, "%!(BADPREC)%"},
		{"%*%", nil, "%!(BADWIDTH)%"},
		{"%*%|%d", ints(2), "%|2"},
		{"%*%%d", list{ofText("a"), ofInt(2)}, "%!(BADWIDTH)%2"},
		{"%.*%|%d", ints(2), "%|2"},
		{"%%", ints(1), "%%!(EXTRA int=1)"},
		// An index of this verb takes nothing, wrong or not.
		{"%[2]%%d", ints(3), "%1"},
		{"%[9]%%d", ints(3), "%1"},
		{"%[0]%%d", ints(3), "%1"},
		{"%[1]5%%d", ints(3), "%1"},
		{"%[2]*%%d", ints(3), "%3"},
	})
}

func TestIndicesP141(t *testing.T) {
	holdAll(t, nil, []say{
		{"%[1]d %[2]d %[3]d", ints(3), "1 2 3"},
		{"%[3]d %[2]d %[1]d", ints(3), "3 2 1"},
		{"%[2]d %d", ints(3), "2 3"},
		{"%[3]d %d", ints(3), "3 %!d(MISSING)"},
		{"%[3]d %d %[1]d %d", ints(3), "3 %!d(MISSING) 1 2"},
		{"%d %[1]d %d", ints(3), "1 1 2"},
		{"%[002]d", ints(3), "2"},
		{"%[3]d", ints(2), "%!d(BADINDEX)"},
		{"%d %[3]d %d", ints(2), "1 %!d(BADINDEX) 2"},
		{"%[1]d", nil, "%!d(BADINDEX)"},
		{"%[999999999]d", ints(2), "%!d(BADINDEX)"},
		{"%[4294967297]d", ints(2), "%!d(BADINDEX)"},
		{"%[18446744073709551617]d", ints(2), "%!d(BADINDEX)"},
		{"%[0]d %d", ints(2), "%!d(BADINDEX) 1"},
		{"%[-1]d %d", ints(2), "%!-(BADINDEX)1]d 1"},
		{"%[]d %d", ints(2), "%!](BADINDEX)d 1"},
		{"%[x]d %d", ints(2), "%!x(BADINDEX)]d 1"},
		{"%[1d %d", ints(2), "%!d(BADINDEX) 1"},
		{"%[1]", ints(2), "%!(NOVERB)"},
		{"%[2]5d %d", ints(2), "%!d(BADINDEX) 1"},
		{"%[2].3d %d", ints(2), "%!d(BADINDEX) 1"},
		{"%.[2]3d %d", ints(2), "%!d(BADINDEX) 1"},
		{"%[1][2]d %d", ints(2), "%!d(BADINDEX) 1"},
		{"%5[2]d", ints(2), "    2"},
		{"%.3[2]d", ints(2), "002"},
		{"%.[2]d|", ints(2), "2|"},
		{"%-5.3[1]d|", ints(2), "001  |"},
		{"%[0]日 %[0]\xff", nil, "%!日(BADINDEX) %!\ufffd(BADINDEX)"},
		// Of a *.
		{"%[2]*[1]d|", list{ofInt(7), ofInt(3)}, "  7|"},
		{"%[2]*d|", list{ofInt(7), ofInt(3), ofInt(9)}, "  9|"},
		{"%[2]*.[1]*[3]f|", list{ofInt(2), ofInt(6), ofFloat(12)}, " 12.00|"},
		{"%[3]*.[2]*[1]f|", list{ofFloat(12), ofInt(2), ofInt(6)}, " 12.00|"},
		{"%[3]*.*f|", list{ofFloat(12), ofInt(2), ofInt(6)}, "%!(BADPREC)%!f(MISSING)|"},
		{"%[1]*.*f|", list{ofInt(6), ofInt(2), ofFloat(12)}, " 12.00|"},
		{"%.[1]*d|", ints(2), "2|"},
		{"%[1]*[1]d|", list{ofInt(3)}, "  3|"},
		// A bad star's argument is gone all the same.
		{"%[1]*d %d", list{ofText("a"), ofInt(2), ofInt(3)}, "%!(BADWIDTH)2 3"},
		{"%[2]*[0]d|%d", list{ofInt(7), ofInt(3), ofInt(9)}, "%!d(BADINDEX)|9"},
	})
}

func TestMissingP141(t *testing.T) {
	holdAll(t, nil, []say{
		{"%d %s", ints(1), "1 %!s(MISSING)"},
		{"%日", nil, "%!日(MISSING)"},
		{"%\xff", nil, "%!\ufffd(MISSING)"},
		{"%!", nil, "%!!(MISSING)"},
		{"%(", nil, "%!((MISSING)"},
		{"%\x00", nil, "%!\x00(MISSING)"},
		{"%5.3d|%-d", nil, "%!d(MISSING)|%!d(MISSING)"},
		{"%d %d %d", ints(2), "1 2 %!d(MISSING)"},
		{"%T %v", nil, "%!T(MISSING) %!v(MISSING)"},
	})
}

func TestExtraP141(t *testing.T) {
	nilPointer := of(api.Ptr)
	holdAll(t, nil, []say{
		{"", nil, ""},
		{"", ints(2), "%!(EXTRA int=1, int=2)"},
		{"%d", ints(3), "1%!(EXTRA int=2, int=3)"},
		{"a%*d", append(ints(2), ofText("b")), "a2%!(EXTRA string=b)"},
		{"x", list{ofText("a b"), {}, nilPointer, ofStruct(ofInt(1), ofText("x")), of(api.Slice), api.Desc{Kind: api.Bytes, Text: "a"}}, "x%!(EXTRA string=a b, <nil>=<nil>, ptr=<nil>, T={1 x}, slice=[], []uint8=[97])"},
		{"x", list{{Kind: api.Int, Bits: 5, Type: "T"}}, "x%!(EXTRA T=5)"},
		// The flags of a directive say nothing of what is left.
		{"%+05.3d", ints(2), " +001%!(EXTRA int=2)"},
		{"%#v", list{ofText("a"), ofText("b")}, `"a"%!(EXTRA string=b)`},
		{"%", ints(1), "%!(NOVERB)%!(EXTRA int=1)"},
		// An index in the format, wherever it stands, and nothing is told.
		{"%[1]d", ints(3), "1"},
		{"%[2]d", ints(3), "2"},
		{"%d%[1]d", ints(3), "11"},
		{"%[1]d%d", ints(3), "12"},
		{"%d%[9]d", ints(3), "1%!d(BADINDEX)"},
		{"%d%[0]d", ints(3), "1%!d(BADINDEX)"},
		{"%d%[x", ints(3), "1%!x(BADINDEX)"},
		{"%[1]*d", ints(3), "2"},
		{"%[0]*d", ints(3), "%!(BADWIDTH)1"},
		{"%.[1]*d", ints(3), "2"},
		{"%.[0]*d", ints(3), "%!(BADPREC)1"},
		{"%[1]%", ints(3), "%"},
		{"[1]%d", ints(2), "[1]1%!(EXTRA int=2)"},
		{"%d[1]", ints(2), "1[1]%!(EXTRA int=2)"},
		{"%%[1]d", ints(2), "%[1]d%!(EXTRA int=1, int=2)"},
	})
	// Hooks are asked of what is left, by v alone.
	holdAll(t, rowsOf(api.Hook{String: tells("hi")}, api.Hook{String: throws(ofInt(1))}, api.Hook{Syntax: tells("no"), Error: prints("<%v>", ofInt(9))}), []say{
		{"%#5v", list{ofInt(7), hooked(1, ofInt(1)), hooked(2, ofInt(2)), hooked(3, ofInt(3)), of(api.Slice, hooked(1, ofInt(4)))}, "    7%!(EXTRA int=hi, int=%!v(PANIC=String method: 1), int=<9>, slice=[hi])"},
	})
}

func TestMaxArgsP141(t *testing.T) {
	many := ints(20)
	all := "%!(EXTRA int=1, int=2, int=3, int=4, int=5, int=6, int=7, int=8, int=9, int=10, int=11, int=12, int=13, int=14, int=15, int=16)"
	holdAll(t, nil, []say{
		{"", many, all},
		{"", ints(17), all},
		{"", ints(16), all},
		{"%[16]d", many, "16"},
		{"%[17]d", many, "%!d(BADINDEX)"},
		{"%[16]d %d", many, "16 %!d(MISSING)"},
		{"%[15]*d", many, blanks(13) + "16"},
		{"%[16]*d", many, "%!d(MISSING)"},
		{"%[17]*d", many, "%!(BADWIDTH)1"},
		{strings.Repeat("%d", 17), many, "12345678910111213141516%!d(MISSING)"},
	})
	if got := Sprint(nil, many); got != "1 2 3 4 5 6 7 8 9 10 11 12 13 14 15 16" {
		t.Error(got)
	}
	if got := Sprintln(nil, many); got != "1 2 3 4 5 6 7 8 9 10 11 12 13 14 15 16\n" {
		t.Error(got)
	}
	// A method's arguments, too.
	table := rowsOf(api.Hook{String: prints("%[16]d%[17]d", many...)})
	if got := Sprintf(table, "%s", list{hooked(1, ofInt(1))}); got != "16%!d(BADINDEX)" {
		t.Error(got)
	}
}

func TestRefusedArgumentsP141(t *testing.T) {
	table := rowsOf(api.Hook{Format: tells("no")})
	for _, d := range refused() {
		for _, d := range []api.Desc{d, hooked(1, d)} {
			holdAll(t, table, []say{
				{"%v|%7v|%-7v|%d|%T", list{d, d, d, d, d}, "<nil>|  <nil>|<nil>  |%!d(<nil>)|<nil>"},
				{"%d", list{ofInt(1), d, ofInt(2)}, "1%!(EXTRA <nil>=<nil>, int=2)"},
				{"%*d", list{d, ofInt(2)}, "%!(BADWIDTH)2"},
				{"%[1]v%[2]d", list{d, ofInt(2)}, "<nil>2"},
			})
			if got := Sprint(table, list{d, d, ofText("a"), d, ofInt(1)}); got != "<nil> <nil>a<nil> 1" {
				t.Error(got)
			}
			if got := Sprintln(table, list{d, d}); got != "<nil> <nil>\n" {
				t.Error(got)
			}
		}
	}
	own := of(api.Slice, ofInt(1))
	own.Parts[0] = own
	own.Parts[0].Parts = own.Parts
	if got := sprintf("%v", own); got != "<nil>" {
		t.Error(got)
	}
}

// Every kind by every verb is as Show tells it, of its own arguments.
func TestAsShowTellsP141(t *testing.T) {
	all := list{{}, {Kind: api.Bool, Bits: 1}}
	for kind := api.Int8; kind <= api.Uint; kind++ {
		all = append(all, number(kind, 65))
	}
	all = append(all, api.Desc{Kind: api.Float32, Bits: 0x3fc00000}, ofFloat(-2.5), api.Desc{Kind: api.Complex64, Bits: 1}, api.Desc{Kind: api.Complex128, Imag: 7},
		ofText("é`\xff"), api.Desc{Kind: api.Bytes, Text: "ab"}, ofStruct(ofInt(1), ofText("x")), of(api.Array, ofInt(2)), of(api.Slice, ints(2)...),
		of(api.Map, ofText("b"), ofInt(1), ofText("a"), ofInt(2)), of(api.Ptr, ofStruct(ofInt(1))), of(api.Ptr, ofInt(1)), of(api.Ptr))
	for _, d := range all {
		v, _ := values.Build(d)
		for _, verb := range "vTtdboOxXcqUseEfFgGpzw!日" {
			for flags := range 32 {
				f := api.Spec{Plus: flags&1 > 0, Minus: flags&2 > 0, Sharp: flags&4 > 0, Space: flags&8 > 0, Zero: flags&16 > 0, Wid: -1, Prec: -1, Verb: verb}
				written := ""
				for i, c := range "+-# 0" {
					if flags>>i&1 > 0 {
						written += string(c)
					}
				}
				if got, want := sprintf("%"+written+string(verb), d), tree.Show(v, f, nil); got != want {
					t.Errorf("%+v of %+v: %q, not %q", f, d, got, want)
				}
				f.Wid, f.Prec = 9, 2
				if got, want := sprintf("%"+written+"9.2"+string(verb), d), tree.Show(v, f, nil); got != want {
					t.Errorf("%+v of %+v: %q, not %q", f, d, got, want)
				}
			}
		}
	}
}

func TestSprintP143(t *testing.T) {
	// Of each kind one, none of whose texts has a blank in it.
	all := list{{}, {Kind: api.Bool}}
	for kind := api.Int8; kind <= api.Complex128; kind++ {
		all = append(all, api.Desc{Kind: kind})
	}
	all = append(all, ofText("t"), api.Desc{Kind: api.Bytes, Text: "b"}, ofStruct(), of(api.Array), of(api.Slice, ofText("a")), of(api.Map), of(api.Ptr, ofText("a")),
		api.Desc{Kind: api.Ptr}, api.Desc{Kind: 99}, ofText(strings.Repeat("a", api.MaxText+1)), ofText(""), api.Desc{Kind: api.Text, Text: "u", Type: "U"}, hooked(1, ofInt(1)), hooked(1, ofText("x")))
	table := rowsOf(api.Hook{String: tells("hook")})
	isText := func(d api.Desc) bool { return d.Kind == api.Text && len(d.Text) <= api.MaxText }
	for _, a := range all {
		for _, b := range all {
			s, z := Sprintf(table, "%v", list{a}), Sprintf(table, "%v", list{b})
			gap := " "
			if isText(a) || isText(b) {
				gap = ""
			}
			if got, want := Sprint(table, list{a, b}), s+gap+z; got != want {
				t.Errorf("%+v %+v: %q, not %q", a, b, got, want)
			}
			if got, want := Sprintln(table, list{a, b}), s+" "+z+"\n"; got != want {
				t.Errorf("%+v %+v: %q, not %q", a, b, got, want)
			}
		}
	}
	a, b := ofText("a"), ofText("b")
	for _, x := range []struct {
		args      list
		want, row string
	}{
		{nil, "", "\n"},
		{list{}, "", "\n"},
		{ints(1), "1", "1\n"},
		{list{a}, "a", "a\n"},
		{ints(3), "1 2 3", "1 2 3\n"},
		{list{a, b, a}, "aba", "a b a\n"},
		{list{ofInt(1), a, ofInt(2), ofInt(3), b}, "1a2 3b", "1 a 2 3 b\n"},
		{list{ofText(""), ofText(""), ofInt(1)}, "1", "  1\n"},
		{list{ofText("%d"), ofInt(1)}, "%d1", "%d 1\n"},
		{list{ofStruct(a, a), ofStruct(a)}, "{a a} {a}", "{a a} {a}\n"},
	} {
		if got := Sprint(nil, x.args); got != x.want {
			t.Errorf("%+v: %q", x.args, got)
		}
		if got := Sprintln(nil, x.args); got != x.row {
			t.Errorf("%+v: %q", x.args, got)
		}
	}
}

// P14.3: hooks are asked by Sprint and Sprintln as by Sprintf, from depth 0 on.
func TestSprintAsksP143(t *testing.T) {
	no := hooked(1, api.Desc{Kind: api.Bool})
	table := rowsOf(api.Hook{Error: prints("<%v>", no)}, api.Hook{String: throws(ofText("boo"))}, api.Hook{Syntax: tells("no"), String: tells("yes")})
	args := list{no, hooked(2, ofInt(1)), hooked(2, of(api.Ptr)), hooked(3, ofText("x")), ofInt(4)}
	texts := []string{"<<<%!(DEPTH)>>>", "%!v(PANIC=String method: boo)", "<nil>", "yes", "4"}
	if got, want := Sprint(table, args), texts[0]+" "+texts[1]+" "+texts[2]+texts[3]+texts[4]; got != want {
		t.Errorf("%q, not %q", got, want)
	}
	if got, want := Sprintln(table, args), strings.Join(texts, " ")+"\n"; got != want {
		t.Errorf("%q, not %q", got, want)
	}
}

// longer are prints of just so many bytes, each by another way.
func longer(n int) map[string]string {
	var texts list
	for left := n; left > 0; left -= api.MaxText {
		texts = append(texts, ofText(strings.Repeat("x", min(left, api.MaxText))))
	}
	row := rowsOf(api.Hook{Format: tells(strings.Repeat("x", n))}, api.Hook{String: tells(strings.Repeat("x", n))}, api.Hook{Error: tells(strings.Repeat("x", n))})
	return map[string]string{
		"literal":    sprintf(strings.Repeat("x", n)),
		"by index":   sprintf(strings.Repeat("%[1]c", n), number(api.Int, 'x')),
		"verbs":      sprintf(strings.Repeat("%s", len(texts)), texts...),
		"format":     Sprintf(row, "%v", list{hooked(1, ofInt(1))}),
		"string":     Sprintf(row, "%s", list{hooked(2, ofInt(1))}),
		"error":      Sprintf(row, "%v", list{hooked(3, ofInt(1))}),
		"sprint":     Sprint(nil, texts),
		"sprint one": Sprint(row, list{hooked(2, ofInt(1))}),
		"at":         At(3, nil, strings.Repeat("x", n), nil),
	}
}

func TestTooLongP148(t *testing.T) {
	for _, n := range []int{4000, api.MaxOut - 1, api.MaxOut, api.MaxOut + 1, api.MaxOut + 11, 5000, 9000} {
		want := strings.Repeat("x", n)
		if n > api.MaxOut {
			want = want[:api.MaxOut] + buf.TooLong
		}
		for way, got := range longer(n) {
			if got != want {
				t.Errorf("%d by %s: %d bytes, ending by %q", n, way, len(got), got[max(len(got)-20, 0):])
			}
		}
	}
	// Where it is cut is no matter of runes, or of pieces.
	full := strings.Repeat("x", api.MaxOut-1)
	holdAll(t, nil, []say{
		{full + "é", nil, full + "\xc3" + buf.TooLong},
		{full + "%d", list{ofInt(12)}, full + "1" + buf.TooLong},
		{full + "%d", list{ofInt(1)}, full + "1"},
		{full + "%d", nil, full + "%" + buf.TooLong},
		{full + "%d%d%d", ints(3), full + "1" + buf.TooLong},
		{full + "%", nil, full + "%" + buf.TooLong},
		{full + "y", ints(1), full + "y" + buf.TooLong},
		{full, ints(1), full + "%" + buf.TooLong},
		{full + "y%[1]s", list{ofText("")}, full + "y"},
		{full + "%*d", list{ofInt(1000), ofInt(1)}, full + " " + buf.TooLong},
		{full + "%1001d", ints(1), full + "%" + buf.TooLong},
		{full + "%%", nil, full + "%"},
		{full + "y%%", nil, full + "y" + buf.TooLong},
	})
	// The line feed counts.
	row := append(repeated(3, ofText(strings.Repeat("x", 1023))), ofText(strings.Repeat("x", 1023)))
	if got := Sprintln(nil, row); len(got) != api.MaxOut || !strings.HasSuffix(got, "x\n") {
		t.Errorf("%d bytes, ending by %q", len(got), got[len(got)-9:])
	}
	row[3].Text += "x"
	if got := Sprintln(nil, row); len(got) != api.MaxOut+len(buf.TooLong) || !strings.HasSuffix(got, "x"+buf.TooLong) {
		t.Errorf("%d bytes, ending by %q", len(got), got[len(got)-19:])
	}
	row[0].Text += "x"
	if got, want := Sprintln(nil, row), row[0].Text+" "+row[1].Text+" "+row[2].Text+" "+row[1].Text+buf.TooLong; got != want {
		t.Errorf("%d bytes, ending by %q", len(got), got[len(got)-19:])
	}
}

// P14.8: a print within a print is cut by itself, and then the outer one.
func TestTooLongWithinP148(t *testing.T) {
	long := strings.Repeat("x", 5000)
	table := rowsOf(api.Hook{Error: prints(long)}, api.Hook{String: prints("%[1]v", hooked(1, ofInt(1)))}, api.Hook{String: throws(hooked(1, ofInt(1)))})
	cut := long[:api.MaxOut] + buf.TooLong
	panicked := "%!v(PANIC=String method: " + long
	holdAll(t, table, []say{
		{"%v", list{hooked(1, ofInt(1))}, cut},
		{"%v", list{hooked(2, ofInt(1))}, cut},
		{"ab%v", list{hooked(1, ofInt(1))}, "ab" + long[:api.MaxOut-2] + buf.TooLong},
		{"%.10v|", list{hooked(1, ofInt(1))}, long[:10] + "|"},
		{"%.900v|%.900v|", list{hooked(2, ofInt(1)), hooked(1, ofInt(1))}, long[:900] + "|" + long[:900] + "|"},
		{"%v", list{hooked(3, ofInt(1))}, panicked[:api.MaxOut] + buf.TooLong},
	})
}

// handed are a table and arguments with lists in all places.
func handed() ([]api.Hook, list) {
	inner := ofStruct(hooked(1, ofInt(1)), of(api.Map, ofText("b"), hooked(2, ofInt(2)), ofText("a"), of(api.Slice, ofInt(3))))
	args := append(ints(2), inner, hooked(2, of(api.Ptr, inner)), hooked(3, inner), of(api.Ptr))
	table := rowsOf(
		api.Hook{Format: prints("%[1]v %v %*d", inner, ofInt(3), ofInt(4)), String: tells("s")},
		api.Hook{Error: throws(inner), Syntax: throws(hooked(1, inner))},
		api.Hook{String: prints("%v%v", hooked(2, inner)), Syntax: prints("%#v", inner)},
	)
	return table, args
}

// R3, R4, R5: what is handed in stays, what lies behind a list's end is not
// looked at, and a call says the same again.
func TestHandedInP141(t *testing.T) {
	table, args := handed()
	sameTable, sameArgs := handed()
	texts := func(table []api.Hook, args list) []string {
		return []string{
			Sprintf(table, "%v|%+v|%#v|%*d|%[5]q|%[4]#v|%[9]d", args), Sprintf(table, "a", args), At(2, table, "%[5]s%[3]v", args), Sprint(table, args), Sprintln(table, args),
		}
	}
	first := texts(table, args)
	if !reflect.DeepEqual(table, sameTable) || !reflect.DeepEqual(args, sameArgs) {
		t.Error("what was handed in is changed")
	}
	for range 3 {
		if again := texts(sameTable, sameArgs); !reflect.DeepEqual(again, first) {
			t.Errorf("%q, not %q", again, first)
		}
	}
	behind := append(append(list{}, args...), ofText("behind"))
	rows := append(append([]api.Hook{}, table...), api.Hook{Format: tells("behind")})
	if got := texts(rows[:len(table)], behind[:len(args)]); !reflect.DeepEqual(got, first) {
		t.Errorf("%q, not %q", got, first)
	}
	if behind[len(args)].Text != "behind" || rows[len(table)].Format.Text != "behind" {
		t.Error("what lies behind is changed")
	}
	for _, empty := range [][]api.Desc{nil, {}} {
		for _, none := range [][]api.Hook{nil, {}} {
			if got := Sprintf(none, "%d", empty) + Sprint(none, empty) + Sprintln(none, empty) + At(1, none, "", empty); got != "%!d(MISSING)\n" {
				t.Error(got)
			}
		}
	}
}

// P14.4: a width or a precision that a * takes says what a written one says.
func TestStarsSayTheSameP144(t *testing.T) {
	args := list{ofInt(-42), ofText("é日本"), ofFloat(2.5), {Kind: api.Bool}, {}, ofStruct(ofInt(1), ofText("x")), {Kind: api.Bytes, Text: "ab"}, of(api.Ptr), hooked(1, ofInt(1))}
	table := rowsOf(api.Hook{String: tells("hook")})
	sizes := []int{1, 2, 5, 17, 999, 1000, 1001, 5000}
	for _, d := range args {
		for _, verb := range "vdsxqTz%" {
			for _, flags := range []string{"", "-", "0", "+", "#", " ", "-0", "+#0"} {
				for _, n := range sizes {
					v, written := string(verb), strconv.Itoa(n)
					hold := func(starred, plain string, stars ...api.Desc) {
						t.Helper()
						got := Sprintf(table, "a"+starred+v+"b%d", append(append(list{}, stars...), d, ofInt(3)))
						want := Sprintf(table, "a"+plain+v+"b%d", list{d, ofInt(3)})
						if got != want {
							t.Errorf("%s%s of %+v: %q, not %q", starred, v, stars, got, want)
						}
					}
					hold("%"+flags+"*", "%"+flags+written, ofInt(n))
					hold("%"+flags+".*", "%"+flags+"."+written, number(api.Uint16, n))
					hold("%"+flags+"*.*", "%"+flags+written+"."+written, number(api.Int32, n), ofInt(n))
					hold("%"+flags+"*.3", "%"+flags+written+".3", number(api.Uint64, n))
					hold("%"+flags+"3.*", "%"+flags+"3."+written, ofInt(n))
					hold("%"+flags+"*", "%-"+flags+written, ofInt(-n))
					hold("%"+flags+"*", "%"+flags, ofInt(0))
					hold("%"+flags+".*", "%"+flags+".0", ofInt(0))
				}
			}
		}
	}
}

// P14.5: indices that name the arguments in order say nothing, but that what
// is left isn't told.
func TestIndicesInOrderP145(t *testing.T) {
	table := rowsOf(api.Hook{String: prints("<%v>", ofInt(1))}, api.Hook{Error: throws(ofInt(2))})
	args := list{ofInt(3), hooked(1, ofInt(2)), ofText("a"), ofInt(4), ofFloat(2.5), {}, hooked(2, of(api.Ptr)), hooked(2, ofInt(7)), ofInt(9)}
	for _, x := range [][2]string{
		{"%v", "%[1]v"},
		{"%d%v", "%[1]d%[2]v"},
		{"%d%v", "%d%[2]v"},
		{"%d|%-9s|%q|%*.1f|%v|%v|%v", "%[1]d|%-9[2]s|%[3]q|%[4]*.1[5]f|%[6]v|%[7]v|%[8]v"},
		{"%*s%s%.*f", "%[1]*[2]s%[3]s%.[4]*[5]f"},
		{"%*s%s%.*f", "%[1]*s%[3]s%.[4]*f"},
		{"%*.*d", "%[1]*.[2]*[3]d"},
		{"%z%v%x", "%[1]z%[2]v%[3]x"},
		{"%%%d%%%v", "%%%[1]d%%%[2]v"},
	} {
		for n := range len(args) + 1 {
			pieces := parse.Parse(x[0])
			taken := 0
			for _, p := range pieces {
				if p.Wid.Kind == parse.Star {
					taken++
				}
				if p.Prec.Kind == parse.Star {
					taken++
				}
				if p.Kind == parse.Dir && p.Spec.Verb != '%' {
					taken++
				}
			}
			if n < taken {
				continue
			}
			got, want := Sprintf(table, x[1], args[:n]), Sprintf(table, x[0], args[:n])
			if n == taken && got != want {
				t.Errorf("%q of %d: %q, not %q", x[1], n, got, want)
			}
			if n > taken {
				if head := Sprintf(table, x[0], args[:taken]); got != head || !strings.HasPrefix(want, head+"%!(EXTRA ") {
					t.Errorf("%q of %d: %q, not %q", x[1], n, got, head)
				}
			}
		}
	}
}

func TestDepthP146(t *testing.T) {
	if bad.Depth() != "%!(DEPTH)" || hooks.NilText != "<nil>" {
		t.Fatal(bad.Depth(), hooks.NilText)
	}
	no := hooked(1, api.Desc{Kind: api.Bool})
	ring := rowsOf(api.Hook{Error: prints("<%v>", no)})
	for _, x := range []struct {
		depth int
		want  string
	}{
		{math.MinInt, "<<<%!(DEPTH)>>>"}, {-4, "<<<%!(DEPTH)>>>"}, {-1, "<<<%!(DEPTH)>>>"}, {0, "<<<%!(DEPTH)>>>"},
		{1, "<<%!(DEPTH)>>"}, {2, "<%!(DEPTH)>"}, {3, "%!(DEPTH)"}, {4, "%!(DEPTH)"}, {5, "%!(DEPTH)"}, {math.MaxInt, "%!(DEPTH)"},
	} {
		if got := At(x.depth, ring, "%v", list{no}); got != x.want {
			t.Errorf("%d: %q", x.depth, got)
		}
		// Without a hook there is no depth to be seen up to MaxHookDepth.
		for _, format := range []string{"", "a%d", "%d%d", "%", "%[3]d"} {
			want := Sprintf(nil, format, ints(1))
			if x.depth > api.MaxHookDepth {
				want = "%!(DEPTH)"
			}
			if got := At(x.depth, nil, format, ints(1)); got != want {
				t.Errorf("%d by %q: %q", x.depth, format, got)
			}
		}
		if got := At(x.depth, ring, "%t", list{no}); x.depth <= api.MaxHookDepth && got != "false" {
			t.Errorf("%d: %q", x.depth, got)
		}
	}
}

// P14.6: by whatever a print asks for another one, it stands a depth deeper.
func TestRingsP146(t *testing.T) {
	one, two, three := hooked(1, ofInt(1)), hooked(2, ofText("t")), hooked(3, of(api.Ptr))
	for _, x := range []struct {
		table []api.Hook
		say
	}{
		{rowsOf(api.Hook{String: throws(one)}), say{"%v", list{one}, "%!v(PANIC=String method: %!v(PANIC=String method: %!v(PANIC=String method: %!v(PANIC=String method: %!(DEPTH)))))"}},
		{rowsOf(api.Hook{Format: throws(one)}), say{"%d", list{one}, "%!d(PANIC=Format method: %!v(PANIC=Format method: %!v(PANIC=Format method: %!v(PANIC=Format method: %!(DEPTH)))))"}},
		{rowsOf(api.Hook{Error: prints("a%vb", two)}, api.Hook{String: prints("c%sd", one)}), say{"%v", list{one}, "aca%!(DEPTH)bdb"}},
		{rowsOf(api.Hook{Format: prints("(%v)", two)}, api.Hook{String: throws(one)}), say{"%v", list{one}, "(%!v(PANIC=String method: (%!v(PANIC=String method: %!(DEPTH)))))"}},
		{rowsOf(api.Hook{Format: prints("(%v)", two)}, api.Hook{String: throws(one)}), say{"%q", list{two}, "%!q(PANIC=String method: (%!v(PANIC=String method: %!(DEPTH))))"}},
		{rowsOf(api.Hook{}, api.Hook{}, api.Hook{String: prints("<%v>", three)}), say{"%v", list{three}, "<<<%!(DEPTH)>>>"}},
		// A nil pointer's throw shows nothing, so nothing stands deeper.
		{rowsOf(api.Hook{}, api.Hook{}, api.Hook{String: throws(three)}), say{"%v", list{three}, "<nil>"}},
		{rowsOf(api.Hook{String: throws(three)}, api.Hook{}, api.Hook{String: throws(three)}), say{"%v", list{one}, "%!v(PANIC=String method: <nil>)"}},
		// In what is left of a method's own arguments.
		{rowsOf(api.Hook{String: prints("x", one)}), say{"%v", list{one}, "x%!(EXTRA int=x%!(EXTRA int=x%!(EXTRA int=%!(DEPTH))))"}},
		// In lists, each item by itself.
		{rowsOf(api.Hook{String: prints("%v", of(api.Slice, one, one))}), say{"%v", list{one}, "[[[%!(DEPTH) %!(DEPTH)] [%!(DEPTH) %!(DEPTH)]] [[%!(DEPTH) %!(DEPTH)] [%!(DEPTH) %!(DEPTH)]]]"}},
		{rowsOf(api.Hook{String: prints("%q", one)}), say{"%v", list{one}, `"\"\\\"%!(DEPTH)\\\"\""`}},
		{rowsOf(api.Hook{String: prints("%5s|", one)}), say{"%v", list{one}, "%!(DEPTH)|||"}},
	} {
		holdAll(t, x.table, []say{x.say})
	}
}

func TestAskP142(t *testing.T) {
	row := api.Hook{Format: tells("F"), Syntax: tells("G"), Error: tells("E"), String: tells("S")}
	without := row
	without.Format = api.Act{}
	bare := api.Hook{String: tells("té")}
	table := rowsOf(row, without, bare, api.Hook{}, api.Hook{String: prints("%d-%s", ofInt(5), ofText("x"))}, api.Hook{Format: prints("[%v]", hooked(3, ofInt(1)))})
	one, two, three, five, six := hooked(1, ofInt(10)), hooked(2, ofInt(10)), hooked(3, ofInt(10)), hooked(5, ofInt(10)), hooked(6, ofInt(10))
	holdAll(t, table, []say{
		{"%v %d %#v %T %z %5s|", repeated(6, one), "F F F int F F|"},
		{"%v %s %q %x %X %#v %d %T %z", repeated(9, two), `E E "E" 45 45 G 10 int %!z(int=10)`},
		{"%v %s %q %x %#v %d", repeated(6, three), `té té "té" 74c3a9 10 10`},
		{"%5v|%-5s|%05v|%.1s|%6q|%+q|%# x|%.0v|", repeated(8, three), `   té|té   |000té|t|  "té"|"t\u00e9"|0x74 0xc3 0xa9||`},
		{"%+v %+#v", list{three, three}, "té 10"},
		{"%v|%10s|%.3v|%q", repeated(4, five), `5-x|       5-x|5-x|"5-x"`},
		{"%v|%9d|%.1q", repeated(3, six), "[té]|[té]|[té]"},
		{"%*v|%-*s|", list{ofInt(5), three, ofInt(4), three}, "   té|té  |"},
		// A * takes the number, whatever its hook says.
		{"%*d", list{hooked(1, ofInt(3)), ofInt(1)}, "  1"},
		{"%.*d", list{hooked(1, ofInt(3)), ofInt(1)}, "001"},
		// Inner values, by the spec of the whole.
		{"%v %+v", list{ofStruct(two, of(api.Slice, three)), ofStruct(two, of(api.Slice, three))}, "{E [té]} {A:E B:[té]}"},
		{"%#v", list{ofStruct(two, of(api.Slice, three))}, "T{A:G, B:slice{10}}"},
		{"%3v", list{of(api.Map, ofText("k"), three)}, "map[  k: té]"},
		{"%v %v", list{of(api.Ptr, ofStruct(two)), hooked(2, of(api.Ptr, ofStruct(two)))}, "&{E} E"},
		{"%s", list{hooked(1, of(api.Slice, two))}, "F"},
		// Where a verb may not be none is asked of what stands in the text.
		{"%d", list{ofStruct(hooked(2, ofText("x")))}, "{%!d(string=x)}"},
	})
	// Other numbers than the rows' are no hooks.
	for _, n := range []int{0, -1, 7, 16, 17, 100, 257, math.MinInt, math.MaxInt} {
		holdAll(t, table, []say{{"%v %d %#v", repeated(3, hooked(n, ofInt(10))), "10 10 10"}})
	}
	holdAll(t, table, []say{{"%v %#v", repeated(2, hooked(4, ofInt(10))), "10 10"}})
	var many []api.Hook
	for i := range 20 {
		many = append(many, api.Hook{Format: tells(strconv.Itoa(i + 1))})
	}
	holdAll(t, many, []say{{"%v %v %v %v", list{hooked(1, ofInt(0)), hooked(16, ofInt(0)), hooked(17, ofInt(0)), hooked(20, ofInt(0))}, "1 16 0 0"}})
	holdAll(t, nil, []say{{"%v", list{one}, "10"}})
	// Nil has no hook.
	holdAll(t, table, []say{{"%v %d", list{hooked(1, api.Desc{}), hooked(1, api.Desc{})}, "<nil> %!d(<nil>)"}})
}

func TestThrowsP142(t *testing.T) {
	boo := ofText("boo")
	all := api.Hook{Format: throws(boo)}
	some := api.Hook{Syntax: throws(ofInt(7)), Error: throws(ofStruct(ofInt(1), boo)), String: tells("no")}
	table := rowsOf(all, some, api.Hook{String: throws(hooked(4, ofInt(1)))}, api.Hook{String: tells("four")}, api.Hook{String: throws(api.Desc{Kind: 99})}, api.Hook{String: throws(of(api.Ptr, ofStruct(ofInt(5))))})
	one, two := hooked(1, ofInt(1)), hooked(2, ofInt(1))
	holdAll(t, table, []say{
		{"%v|%d|%日|%9s|%-9q", repeated(5, one), "%!v(PANIC=Format method: boo)|%!d(PANIC=Format method: boo)|%!日(PANIC=Format method: boo)|%!s(PANIC=Format method: boo)|%!q(PANIC=Format method: boo)"},
		{"%v|%#v|%s|%x|%d", repeated(5, two), "%!v(PANIC=Error method: {1 boo})|%!v(PANIC=GoString method: 7)|%!s(PANIC=Error method: {1 boo})|%!x(PANIC=Error method: {1 boo})|1"},
		{"%v", list{hooked(3, ofInt(1))}, "%!v(PANIC=String method: four)"},
		{"%#q", list{hooked(3, ofInt(1))}, "%!q(PANIC=String method: four)"},
		{"%v", list{hooked(5, ofInt(1))}, "%!v(PANIC=String method: <nil>)"},
		{"%v", list{hooked(6, ofInt(1))}, "%!v(PANIC=String method: &{5})"},
		// A nil pointer is <nil>, unfilled; one that leads somewhere isn't.
		{"%v|%9v|%s|%#v|%d|%x", repeated(6, hooked(2, of(api.Ptr))), "<nil>|<nil>|<nil>|<nil>|0|<nil>"},
		{"%v|%9d|%q", repeated(3, hooked(1, of(api.Ptr))), "<nil>|<nil>|<nil>"},
		{"%v|%9v", repeated(2, hooked(1, api.Desc{Kind: api.Ptr, Bits: 5})), "<nil>|<nil>"},
		{"%v", list{hooked(1, of(api.Ptr, of(api.Ptr)))}, "%!v(PANIC=Format method: boo)"},
		{"%v", list{hooked(1, of(api.Slice))}, "%!v(PANIC=Format method: boo)"},
		{"%v", list{hooked(1, of(api.Map))}, "%!v(PANIC=Format method: boo)"},
		{"%v", list{hooked(1, ofStruct())}, "%!v(PANIC=Format method: boo)"},
		{"%v", list{of(api.Slice, hooked(1, of(api.Ptr)), one)}, "[<nil> %!v(PANIC=Format method: boo)]"},
		{"%v", list{hooked(4, of(api.Ptr))}, "four"},
	})
}

// P14.7: what a hook throws stands where its value would stand: a hook that
// tells that text makes the same print of all that stands around.
func TestThrownStandsThereP147(t *testing.T) {
	thrown := []api.Desc{ofText("boo"), ofInt(5), {}, hooked(1, ofInt(1)), hooked(2, ofText("x")), hooked(3, ofInt(1)), {Kind: 77}, ofStruct(hooked(2, ofInt(1))), of(api.Ptr)}
	formats := []string{"%v", "a%vb", "%v%v", "%[2]v %[1]v", "%5v|%-9v|", "%d%v%d", "x", "%v%", "%[9]d%v", "%*v|", "%1001v", "%.0v|", "%+v%#v", "%v%!", "%s%v%x"}
	for _, p := range thrown {
		rest := []api.Hook{{String: tells("two")}, {Error: prints("<%v>", hooked(3, ofInt(9)))}}
		throwing := append(rowsOf(api.Hook{Format: throws(p)}), rest...)
		for _, format := range formats {
			for _, outer := range []func(api.Desc) api.Desc{
				func(d api.Desc) api.Desc { return d },
				func(d api.Desc) api.Desc { return ofStruct(ofInt(1), d, ofText("z")) },
				func(d api.Desc) api.Desc { return of(api.Map, ofText("k"), of(api.Slice, d, d)) },
				func(d api.Desc) api.Desc { return of(api.Ptr, of(api.Array, d)) },
			} {
				args := list{ofInt(3), outer(hooked(1, ofInt(1))), ofText("a")}
				got := Sprintf(throwing, format, args)
				want := Sprintf(append(rowsOf(api.Hook{Format: tells("\x01")}), rest...), format, args)
				// These are the verbs by which the formats show it.
				for _, verb := range "v!" {
					marked := "%!" + string(verb) + "(PANIC=Format method: " + At(1, throwing, "%v", list{p}) + ")"
					got = strings.ReplaceAll(got, marked, "\x01")
				}
				if got != want {
					t.Errorf("%q of %+v thrown: %q, not %q", format, p, got, want)
				}
			}
		}
	}
}

// What is promised of up to 5000 prints within prints holds for all that
// sixteen arguments can ask for, those that are too deep among them.
func TestManyPrintsP142(t *testing.T) {
	ring := hooked(1, ofInt(1))
	format := strings.Repeat("%.1v", api.MaxArgs)
	table := rowsOf(api.Hook{Error: prints("x"+format, repeated(api.MaxArgs, ring)...)})
	if got, want := Sprintf(table, format, repeated(api.MaxArgs, ring)), strings.Repeat("x", api.MaxArgs); got != want {
		t.Errorf("%q, not %q", got, want)
	}
	if got, want := At(2, table, "%v%[1]v", list{ring}), strings.Repeat("x"+strings.Repeat("%", api.MaxArgs), 2); got != want {
		t.Errorf("%q, not %q", got, want)
	}
}

// However many prints are asked for, the call ends.
func TestEndsP141(t *testing.T) {
	items := of(api.Slice, hooked(1, ofInt(1)), hooked(1, ofInt(2)))
	format := strings.Repeat("%.0[1]v", 150)
	table := rowsOf(api.Hook{Error: prints(format, items)})
	for _, got := range []string{Sprintf(table, format, list{items}), Sprint(table, list{items}), At(1, table, format, list{items})} {
		if len(got) > api.MaxOut+len(buf.TooLong) {
			t.Error(len(got))
		}
	}
}
