package hooks

import (
	"math"
	"reflect"
	"slices"
	"strings"
	"testing"

	"platen/api"
	"platen/bad"
	"platen/quote"
)

// there and lacking are the kinds of acts, others than those named among them.
var (
	there   = []int{api.Tells, api.Throws, api.Prints}
	lacking = []int{api.Lacks, -1, 4, 5, 255, 257, math.MinInt, math.MaxInt}
)

// The verbs, as P11.1 parts them: those for texts, and others.
var (
	textVerbs  = []rune{'v', 's', 'x', 'X', 'q'}
	otherVerbs = []rune{
		'd', 'b', 'o', 'O', 'c', 'U', 't', 'T', 'p', 'e', 'E', 'f', 'F', 'g', 'G', 'z', 'V', 'S', 'Q', 'w', 'r', 'u', 'y', 'W', 'Y', '%', '#', ' ',
		0, 'v' + 128, 'v' + 256, 's' + 65536, 0x65e5, 0xd800, 0xfffd, 0x10ffff, 0x110000, -1, -'v', math.MinInt32, math.MaxInt32,
	}
)

// rows are the sixteen rows of methods: which of them are there (by their
// first letters; G is the Syntax), and which is asked by v with sharp, by the
// other verbs for texts, and by any other verb.
var rows = []struct {
	has                  string
	sharpV, texts, other int
}{
	{"", None, None, None},
	{"S", None, String, None},
	{"E", None, Error, None},
	{"ES", None, Error, None},
	{"G", Syntax, None, None},
	{"GS", Syntax, String, None},
	{"GE", Syntax, Error, None},
	{"GES", Syntax, Error, None},
	{"F", Format, Format, Format},
	{"FS", Format, Format, Format},
	{"FE", Format, Format, Format},
	{"FES", Format, Format, Format},
	{"FG", Format, Format, Format},
	{"FGS", Format, Format, Format},
	{"FGE", Format, Format, Format},
	{"FGES", Format, Format, Format},
}

// wanted is the method of row i that is asked.
func wanted(i int, verb rune, sharp bool) int {
	switch {
	case verb == 'v' && sharp:
		return rows[i].sharpV
	case slices.Contains(textVerbs, verb):
		return rows[i].texts
	}
	return rows[i].other
}

// rowOf is row i: the methods that it has are of the kind in, the others of
// the kind out; each of them has texts of its own in all its fields.
func rowOf(i, in, out int) api.Hook {
	has := rows[i].has
	one := func(letter string) api.Act {
		a := api.Act{
			Kind: out, Text: letter + " té\n", Format: letter + "%v",
			Args:  []api.Desc{ofText(letter + "a"), {Kind: api.Int, Bits: 7}},
			Panic: ofText(letter + "boo"),
		}
		if strings.Contains(has, letter) {
			a.Kind = in
		}
		return a
	}
	return api.Hook{Format: one("F"), Syntax: one("G"), Error: one("E"), String: one("S")}
}

// actOf is the method n of h.
func actOf(h api.Hook, n int) api.Act {
	return []api.Act{{}, h.Format, h.Syntax, h.Error, h.String}[n]
}

func ofText(s string) api.Desc { return api.Desc{Kind: api.Text, Text: s} }

// plain is a spec of the verb alone.
func plain(verb rune) api.Spec { return api.Spec{Verb: verb, Wid: -1, Prec: -1} }

// asked counts how often print and show are asked, and keeps of what.
type asked struct {
	prints, shows int
	format        string
	args          []api.Desc
	what          api.Desc
}

func (k *asked) print(format string, args []api.Desc) string {
	k.prints++
	k.format, k.args = format, args
	return "<" + format + ">"
}

func (k *asked) show(p api.Desc) string {
	k.shows++
	k.what = p
	return "[" + p.Text + "]"
}

// hold holds what was asked against what the act a asks of them: print once of
// its format and its arguments, or show once of its value, or nothing.
func (k *asked) hold(t *testing.T, a api.Act, prints, shows int) {
	t.Helper()
	want := asked{prints: prints, shows: shows}
	if prints > 0 {
		want.format, want.args = a.Format, a.Args
	}
	if shows > 0 {
		want.what = a.Panic
	}
	if !reflect.DeepEqual(*k, want) {
		t.Fatalf("asked %+v, not %+v", *k, want)
	}
}

func TestNumbers(t *testing.T) {
	if None != 0 || Format != 1 || Syntax != 2 || Error != 3 || String != 4 || NilText != "<nil>" {
		t.Error(None, Format, Syntax, Error, String, NilText)
	}
}

// P11.1: a method is there by its kind alone.
func TestThere(t *testing.T) {
	full := rowOf(15, api.Tells, api.Tells).Format
	for _, kind := range there {
		full.Kind = kind
		if !There(api.Act{Kind: kind}) || !There(full) {
			t.Error("not there:", kind)
		}
	}
	for _, kind := range lacking {
		full.Kind = kind
		if There(api.Act{Kind: kind}) || There(full) {
			t.Error("there:", kind)
		}
	}
}

// P11.1, P11.4: of each row, by each verb, whatever kinds the methods have.
func TestWhich(t *testing.T) {
	against := func(i, in, out int, h api.Hook, verb rune) {
		for _, sharp := range []bool{false, true} {
			if n := Which(h, verb, sharp); n != wanted(i, verb, sharp) {
				t.Fatalf("row %q (%d, %d), verb %d, sharp %v: %d, not %d", rows[i].has, in, out, verb, sharp, n, wanted(i, verb, sharp))
			}
		}
	}
	for i := range rows {
		for _, in := range there {
			for _, out := range lacking {
				h := rowOf(i, in, out)
				for _, verb := range textVerbs {
					against(i, in, out, h, verb)
				}
				for _, verb := range otherVerbs {
					against(i, in, out, h, verb)
				}
			}
		}
		for verb := rune(-300); verb < 2000; verb++ {
			against(i, api.Tells, api.Lacks, rowOf(i, api.Tells, api.Lacks), verb)
		}
	}
	// Which is the first of them doesn't hang on which of the kinds they are.
	for _, e := range there {
		for _, s := range there {
			h := api.Hook{Syntax: api.Act{Kind: s}, Error: api.Act{Kind: e}, String: api.Act{Kind: s}}
			if Which(h, 'v', false) != Error || Which(h, 'v', true) != Syntax || Which(h, 'x', true) != Error || Which(h, 'd', true) != None {
				t.Error(e, s)
			}
		}
	}
}

// P11.1: the methods' names, and nothing of others.
func TestMethod(t *testing.T) {
	for n, want := range map[int]string{
		None: "", Format: "Format", Syntax: "GoString", Error: "Error", String: "String",
		-1: "", 5: "", 257: "", -4: "", math.MinInt: "", math.MaxInt: "", math.MinInt + 1: "", 1<<32 + 1: "",
	} {
		if got := Method(n); got != want {
			t.Errorf("Method(%d) = %q, not %q", n, got, want)
		}
	}
}

// P11.1: rows by their numbers, of tables of every length about MaxHooks.
func TestGet(t *testing.T) {
	all := make([]api.Hook, api.MaxHooks+5)
	for i := range all {
		all[i] = rowOf(i%16, 1+i%3, 0)
		all[i].Error.Text = strings.Repeat("e", i)
	}
	none := func(table []api.Hook, n int) {
		if h, ok := Get(table, n); ok || !reflect.DeepEqual(h, api.Hook{}) {
			t.Fatalf("row %d of %d: %+v, %v", n, len(table), h, ok)
		}
	}
	for rows := range len(all) + 1 {
		// What lies behind the length is no row.
		table := all[:rows]
		for n := -api.MaxHooks - 2; n < len(all)+5; n++ {
			if n < 1 || n > rows || n > api.MaxHooks {
				none(table, n)
				continue
			}
			if h, ok := Get(table, n); !ok || !reflect.DeepEqual(h, all[n-1]) {
				t.Fatalf("row %d of %d: %+v, %v", n, rows, h, ok)
			}
		}
		for _, n := range []int{math.MinInt, math.MinInt + 1, math.MaxInt, math.MaxInt - 1, 1<<32 + 1, -1<<32 + 1} {
			none(table, n)
		}
	}
	none(nil, 1)
	none([]api.Hook{}, 1)
	none([]api.Hook{}, 0)
	if h, ok := Get(make([]api.Hook, 1), 1); !ok || !reflect.DeepEqual(h, api.Hook{}) {
		t.Error("an empty row is one:", h, ok)
	}
}

// nested is a descriptor with lists in lists.
func nested() api.Desc {
	return api.Desc{Kind: api.Struct, Names: []string{"A", "B"}, Parts: []api.Desc{
		ofText("x"),
		{Kind: api.Slice, Parts: []api.Desc{{Kind: api.Struct, Names: []string{"C"}, Parts: []api.Desc{ofText("y")}}}},
	}}
}

// nestedHook is a row all of whose methods have nested descriptors.
func nestedHook() api.Hook {
	one := func() api.Act {
		return api.Act{Kind: api.Prints, Format: "%v", Args: []api.Desc{nested(), nested()}, Panic: nested()}
	}
	return api.Hook{Format: one(), Syntax: one(), Error: one(), String: one()}
}

// spoil changes all that l and its descriptors hold in lists.
func spoil(l []api.Desc) {
	for i := range l {
		spoil(l[i].Parts)
		for j := range l[i].Names {
			l[i].Names[j] = "spoilt"
		}
		l[i] = api.Desc{Kind: api.Nil, Text: "spoilt"}
	}
}

// spoilAct changes all that a holds in lists.
func spoilAct(a api.Act) {
	spoil(a.Args)
	spoil([]api.Desc{a.Panic})
}

// R3: a row that Get answers is the caller's own: neither the table nor another
// answer nor another of its own lists is changed with it.
func TestGetShares(t *testing.T) {
	table := []api.Hook{nestedHook()}
	want := []api.Hook{nestedHook()}
	for n := Format; n <= String; n++ {
		a, _ := Get(table, 1)
		b, _ := Get(table, 1)
		spoilAct(actOf(a, n))
		if !reflect.DeepEqual(table, want) || !reflect.DeepEqual(b, want[0]) {
			t.Fatal("what Get answered is shared:", n)
		}
	}
	// One list in all places of a row comes out as many.
	one := []api.Desc{nested()}
	act := api.Act{Kind: api.Prints, Args: one, Panic: api.Desc{Kind: api.Slice, Parts: one}}
	table = []api.Hook{{Format: act, Syntax: act, Error: act, String: act}}
	for n := Format; n <= String; n++ {
		h, _ := Get(table, 1)
		spoil(actOf(h, n).Args)
		for m := Format; m <= String; m++ {
			l := actOf(h, m)
			if m != n && !reflect.DeepEqual(l.Args, []api.Desc{nested()}) || !reflect.DeepEqual(l.Panic.Parts, []api.Desc{nested()}) {
				t.Fatal("two lists of a row are shared:", n, m)
			}
		}
	}
}

// What Do is tried by.
var (
	tried   = append(append([]rune{}, textVerbs...), otherVerbs...)
	methods = []string{"String", "GoString", "Error", "Format", "", "m\xff) method: ("}
)

// P11.2: a method that tells: its text, whatever it is, and nothing is asked.
func TestDoTells(t *testing.T) {
	for _, text := range []string{"", "hi", "\xff\x00é", "%v %d", "%!v(PANIC=String method: x)", strings.Repeat("x", 10000)} {
		for _, nilPtr := range []bool{false, true} {
			for _, verb := range tried {
				a := rowOf(15, api.Tells, 0).Error
				a.Text = text
				var k asked
				if s, ok := Do(a, nilPtr, verb, "String", k.print, k.show); s != text || !ok {
					t.Fatalf("%q, %v", s, ok)
				}
				k.hold(t, a, 0, 0)
			}
		}
	}
}

// P11.2: a method that prints: what print answers, asked once, and show isn't.
func TestDoPrints(t *testing.T) {
	for _, nilPtr := range []bool{false, true} {
		for _, verb := range tried {
			for _, method := range methods {
				for n := Format; n <= String; n++ {
					a := actOf(rowOf(15, api.Prints, 0), n)
					var k asked
					if s, ok := Do(a, nilPtr, verb, method, k.print, k.show); s != "<"+a.Format+">" || !ok {
						t.Fatalf("%q, %v", s, ok)
					}
					k.hold(t, a, 1, 0)
				}
			}
		}
	}
	for _, a := range []api.Act{{Kind: api.Prints}, {Kind: api.Prints, Format: "\xff%"}, {Kind: api.Prints, Args: []api.Desc{nested(), {Kind: 99}}}} {
		var k asked
		if s, ok := Do(a, false, 'v', "String", k.print, k.show); s != "<"+a.Format+">" || !ok {
			t.Errorf("%q, %v", s, ok)
		}
		k.hold(t, a, 1, 0)
	}
	empty := func(string, []api.Desc) string { return "" }
	if s, ok := Do(api.Act{Kind: api.Prints, Text: "x"}, true, 'v', "String", empty, nil); s != "" || !ok {
		t.Errorf("%q, %v", s, ok)
	}
}

// P11.2: a method that throws, of a value that is no nil pointer: show is asked
// once, of what it throws; print isn't.
func TestDoThrows(t *testing.T) {
	for _, verb := range tried {
		for _, method := range methods {
			for _, p := range []api.Desc{{}, ofText("boo"), ofText(""), nested(), {Kind: 99, Text: "\xff"}, {Kind: api.Ptr, Hook: 1}, {Kind: api.Map, Parts: make([]api.Desc, 1)}} {
				a := rowOf(15, api.Throws, 0).String
				a.Panic = p
				var k asked
				s, ok := Do(a, false, verb, method, k.print, k.show)
				if want := bad.Panic(verb, method, "["+p.Text+"]"); s != want || ok {
					t.Fatalf("%q, %v, not %q", s, ok, want)
				}
				k.hold(t, a, 0, 1)
			}
		}
	}
	boo := api.Act{Kind: api.Throws, Panic: ofText("boo")}
	says := func(p api.Desc) string { return p.Text }
	if s, ok := Do(boo, false, 'v', "String", nil, says); s != "%!v(PANIC=String method: boo)" || ok {
		t.Errorf("%q, %v", s, ok)
	}
	if s, ok := Do(boo, false, 0x65e5, "Error", nil, says); s != "%!\u65e5(PANIC=Error method: boo)" || ok {
		t.Errorf("%q, %v", s, ok)
	}
	if s, ok := Do(boo, false, -1, "", nil, func(api.Desc) string { return "" }); s != "%!\ufffd(PANIC= method: )" || ok {
		t.Errorf("%q, %v", s, ok)
	}
}

// P11.2: a method that throws, of a nil pointer: nothing is asked.
func TestDoThrowsNil(t *testing.T) {
	for _, verb := range tried {
		for _, method := range methods {
			a := rowOf(15, api.Throws, 0).String
			var k asked
			if s, ok := Do(a, true, verb, method, k.print, k.show); s != "<nil>" || ok {
				t.Fatalf("%q, %v", s, ok)
			}
			k.hold(t, a, 0, 0)
		}
	}
}

// P11.2: of a kind that is none of those named nothing comes, and nothing is asked.
func TestDoLacks(t *testing.T) {
	for _, kind := range lacking {
		for _, nilPtr := range []bool{false, true} {
			for _, verb := range tried {
				a := rowOf(15, kind, 0).String
				var k asked
				if s, ok := Do(a, nilPtr, verb, "String", k.print, k.show); s != "" || ok {
					t.Fatalf("kind %d: %q, %v", kind, s, ok)
				}
				k.hold(t, a, 0, 0)
			}
		}
	}
}

// R1: a nil print and a nil show answer nothing.
func TestDoNilFunctions(t *testing.T) {
	for _, x := range []struct {
		kind   int
		nilPtr bool
		want   string
		ok     bool
	}{
		{api.Tells, false, "hi", true}, {api.Tells, true, "hi", true},
		{api.Prints, false, "", true}, {api.Prints, true, "", true},
		{api.Throws, false, "%!v(PANIC=Error method: )", false}, {api.Throws, true, "<nil>", false},
		{api.Lacks, false, "", false}, {api.Lacks, true, "", false}, {4, false, "", false},
	} {
		a := api.Act{Kind: x.kind, Text: "hi", Format: "%v", Panic: ofText("boo")}
		if s, ok := Do(a, x.nilPtr, 'v', "Error", nil, nil); s != x.want || ok != x.ok {
			t.Errorf("kind %d, %v: %q, %v", x.kind, x.nilPtr, s, ok)
		}
	}
}

// R3: a print or a show that changes what it is handed changes no act.
func TestDoShares(t *testing.T) {
	print := func(_ string, args []api.Desc) string { spoil(args); return "" }
	show := func(p api.Desc) string { spoil([]api.Desc{p}); return "" }
	for _, kind := range []int{api.Prints, api.Throws} {
		h := nestedHook()
		h.Format.Kind, h.Error.Kind = kind, kind
		want := nestedHook()
		want.Format.Kind, want.Error.Kind = kind, kind
		Do(h.Format, false, 'v', "Format", print, show)
		Say(h, plain('v'), false, print, show)
		if !reflect.DeepEqual(h, want) {
			t.Error("an act was changed:", kind)
		}
	}
}

// P11.5: a print or a show that panics itself is caught as well; show is not
// asked of what print panicked with, and neither is asked again.
func TestDoCatches(t *testing.T) {
	for _, what := range []any{"boo", 5, nil, ofText("boo"), api.ErrForm, bad.Depth(), []int{1}} {
		prints, shows := 0, 0
		print := func(string, []api.Desc) string { prints++; panic(what) }
		show := func(api.Desc) string { shows++; panic(what) }
		act := api.Act{Kind: api.Prints, Format: "x", Panic: ofText("boo")}
		if s, ok := Do(act, false, 's', "Error", print, show); s != "%!s(PANIC=Error method: )" || ok || prints != 1 || shows != 0 {
			t.Errorf("%v: %q, %v, %d, %d", what, s, ok, prints, shows)
		}
		if s, ok := Do(act, true, 's', "Error", print, show); s != "<nil>" || ok || prints != 2 || shows != 0 {
			t.Errorf("%v: %q, %v, %d, %d", what, s, ok, prints, shows)
		}
		act.Kind = api.Throws
		if s, ok := Do(act, false, 's', "Error", print, show); s != "%!s(PANIC=Error method: )" || ok || prints != 2 || shows != 1 {
			t.Errorf("%v: %q, %v, %d, %d", what, s, ok, prints, shows)
		}
		if s, ok := Say(api.Hook{String: act}, plain('q'), false, print, show); s != "%!q(PANIC=String method: )" || !ok || prints != 2 || shows != 2 {
			t.Errorf("%v: %q, %v, %d, %d", what, s, ok, prints, shows)
		}
	}
	// One that throws within a print is the inner one's.
	inner := func(string, []api.Desc) string {
		s, _ := Do(api.Act{Kind: api.Throws, Panic: ofText("in")}, false, 'd', "Format", nil, func(p api.Desc) string { return p.Text })
		return "(" + s + ")"
	}
	if s, ok := Do(api.Act{Kind: api.Prints}, false, 'v', "Error", inner, nil); s != "(%!d(PANIC=Format method: in))" || !ok {
		t.Errorf("%q, %v", s, ok)
	}
}

// specs are specs of that verb, with all flags and with edges of width and precision.
func specs(verb rune) []api.Spec {
	var l []api.Spec
	for flags := range 32 {
		for _, n := range [][2]int{{-1, -1}, {12, -1}, {-1, 1}, {12, 2}, {0, 0}, {1001, 1001}, {math.MinInt, math.MaxInt}} {
			l = append(l, api.Spec{
				Plus: flags&1 != 0, Minus: flags&2 != 0, Sharp: flags&4 != 0, Space: flags&8 != 0, Zero: flags&16 != 0,
				Wid: n[0], Prec: n[1], Verb: verb,
			})
		}
	}
	return l
}

// said is what Say answers of a method n that does a, and how often it asks.
func said(a api.Act, n int, f api.Spec, nilPtr bool) (text string, ok bool, prints, shows int) {
	name := []string{"", "Format", "GoString", "Error", "String"}[n]
	switch {
	case n == None:
		return "", false, 0, 0
	case a.Kind == api.Throws && nilPtr:
		return "<nil>", true, 0, 0
	case a.Kind == api.Throws:
		return bad.Panic(f.Verb, name, "["+a.Panic.Text+"]"), true, 0, 1
	case a.Kind == api.Prints:
		text, prints = "<"+a.Format+">", 1
	default:
		text = a.Text
	}
	if n == Error || n == String {
		text, ok = quote.Text(text, f)
		if !ok {
			panic("no verb for texts")
		}
	}
	return text, true, prints, 0
}

// P11.3, P11.4: each row of methods, by each verb and all flags, whatever the
// methods do: just the one that is wanted is asked, just as often as it says.
func TestSayAll(t *testing.T) {
	verbs := append([]rune{'d', 't', 'T', 'p', 'z', 'V', 0, 0x65e5, -1, 0x110000}, textVerbs...)
	for i := range rows {
		for _, in := range there {
			h := rowOf(i, in, lacking[i%len(lacking)])
			for _, verb := range verbs {
				for _, f := range specs(verb) {
					for _, nilPtr := range []bool{false, true} {
						n := wanted(i, verb, f.Sharp)
						a := actOf(h, n)
						want, wantOK, prints, shows := said(a, n, f, nilPtr)
						var k asked
						if s, ok := Say(h, f, nilPtr, k.print, k.show); s != want || ok != wantOK {
							t.Fatalf("row %q of %d by %+v, nil %v: %q, %v, not %q, %v", rows[i].has, in, f, nilPtr, s, ok, want, wantOK)
						}
						k.hold(t, a, prints, shows)
					}
				}
			}
		}
	}
}

// P11.3: what Say answers, written out.
func TestSay(t *testing.T) {
	tells := api.Act{Kind: api.Tells, Text: "hé`"}
	prints := api.Act{Kind: api.Prints, Format: "a"}
	throws := api.Act{Kind: api.Throws, Panic: ofText("boo")}
	for _, x := range []struct {
		h      api.Hook
		f      api.Spec
		nilPtr bool
		want   string
		ok     bool
	}{
		{api.Hook{String: tells}, plain('s'), false, "hé`", true},
		{api.Hook{String: tells}, plain('v'), false, "hé`", true},
		{api.Hook{String: tells}, plain('q'), false, "\"hé`\"", true},
		{api.Hook{String: tells}, plain('x'), false, "68c3a960", true},
		{api.Hook{String: tells}, plain('X'), false, "68C3A960", true},
		{api.Hook{String: tells}, plain('d'), false, "", false},
		{api.Hook{String: tells}, plain('t'), false, "", false},
		{api.Hook{Error: tells}, api.Spec{Verb: 's', Wid: 6, Prec: -1}, false, "   hé`", true},
		{api.Hook{Error: tells}, api.Spec{Verb: 's', Wid: 6, Prec: 2, Minus: true}, false, "hé    ", true},
		{api.Hook{Error: tells}, api.Spec{Verb: 'q', Wid: -1, Prec: 2, Plus: true}, false, `"h\u00e9"`, true},
		{api.Hook{Error: tells}, api.Spec{Verb: 'q', Wid: -1, Prec: 2, Sharp: true}, false, "`hé`", true},
		{api.Hook{Error: tells}, api.Spec{Verb: 'x', Wid: -1, Prec: 2, Sharp: true, Space: true}, false, "0x68 0xc3", true},
		{api.Hook{Error: tells}, api.Spec{Verb: 'v', Wid: -1, Prec: -1, Sharp: true}, false, "", false},
		{api.Hook{Error: prints}, api.Spec{Verb: 'v', Wid: 5, Prec: -1, Plus: true}, true, "  <a>", true},
		{api.Hook{String: prints}, api.Spec{Verb: 'X', Wid: -1, Prec: 1}, false, "3C", true},
		{api.Hook{Syntax: tells}, api.Spec{Verb: 'v', Wid: 9, Prec: 1, Sharp: true}, false, "hé`", true},
		{api.Hook{Syntax: prints}, api.Spec{Verb: 'v', Wid: 9, Prec: 1, Sharp: true}, false, "<a>", true},
		{api.Hook{Syntax: tells}, plain('v'), false, "", false},
		{api.Hook{Syntax: tells, String: prints}, plain('v'), false, "<a>", true},
		{api.Hook{Syntax: throws}, api.Spec{Verb: 'v', Wid: 99, Prec: 1, Sharp: true}, false, "%!v(PANIC=GoString method: [boo])", true},
		{api.Hook{Format: tells, Syntax: throws, Error: throws, String: throws}, api.Spec{Verb: 'q', Wid: 9, Prec: 1, Sharp: true}, false, "hé`", true},
		{api.Hook{Format: prints}, api.Spec{Verb: 'd', Wid: 9, Prec: 1, Zero: true}, true, "<a>", true},
		{api.Hook{Format: throws, Error: tells}, api.Spec{Verb: 'd', Wid: 99, Prec: 1}, false, "%!d(PANIC=Format method: [boo])", true},
		{api.Hook{Format: throws, Error: tells}, api.Spec{Verb: 'x', Wid: 99, Prec: 1}, true, "<nil>", true},
		{api.Hook{Error: throws, String: tells}, api.Spec{Verb: 'x', Wid: 99, Prec: 1, Minus: true}, false, "%!x(PANIC=Error method: [boo])", true},
		{api.Hook{String: throws}, api.Spec{Verb: 'q', Wid: 99, Prec: 1}, true, "<nil>", true},
		{api.Hook{String: throws}, plain('d'), true, "", false},
		{api.Hook{}, plain('v'), true, "", false},
		{api.Hook{Format: api.Act{Kind: 4, Text: "x"}, Error: api.Act{Kind: -1, Text: "x"}, String: tells}, plain('v'), false, "hé`", true},
		{api.Hook{String: api.Act{Kind: api.Tells}}, plain('v'), false, "", true},
		{api.Hook{String: api.Act{Kind: api.Tells}}, plain('q'), false, `""`, true},
	} {
		var k asked
		if s, ok := Say(x.h, x.f, x.nilPtr, k.print, k.show); s != x.want || ok != x.ok {
			t.Errorf("Say(%+v, %+v, %v) = %q, %v, not %q, %v", x.h, x.f, x.nilPtr, s, ok, x.want, x.ok)
		}
	}
}

// P11.5: whatever throws, by whatever verb that asks it, a text comes out that
// is read as what it is.
func TestThrowsTellAText(t *testing.T) {
	for n := Format; n <= String; n++ {
		for _, verb := range append([]rune{'d', '(', ')', '%', '=', 0, 0x65e5, 0x10ffff}, textVerbs...) {
			for _, told := range []string{"", "boo", "\xff", ")", "%!v(PANIC=Error method: x)", bad.Depth()} {
				h := rowOf(0, 0, 0)
				act := map[int]*api.Act{Format: &h.Format, Syntax: &h.Syntax, Error: &h.Error, String: &h.String}[n]
				act.Kind = api.Throws
				f := api.Spec{Verb: verb, Wid: 50, Prec: 0, Sharp: n == Syntax}
				if Which(h, verb, f.Sharp) != n {
					continue
				}
				s, ok := Say(h, f, false, nil, func(api.Desc) string { return told })
				kind, v, inside := bad.Read(s)
				if !ok || kind != bad.IsPanic || v != verb || inside != "PANIC="+Method(n)+" method: "+told {
					t.Fatalf("method %d by %d: %q, %v", n, verb, s, ok)
				}
			}
		}
	}
}
