package press

import (
	"bytes"
	"errors"
	"math"
	"reflect"
	"slices"
	"strconv"
	"strings"
	"testing"

	"platen/api"
	"platen/buf"
	"platen/printer"
)

// list has the arguments of a print.
type list = []api.Desc

func ofInt(n int) api.Desc                    { return api.Desc{Kind: api.Int, Bits: uint64(n)} }
func ofText(s string) api.Desc                { return api.Desc{Kind: api.Text, Text: s} }
func ofFloat(x float64) api.Desc              { return api.Desc{Kind: api.Float64, Bits: math.Float64bits(x)} }
func of(kind int, parts ...api.Desc) api.Desc { return api.Desc{Kind: kind, Parts: parts} }

// hooked answers d with that hook.
func hooked(hook int, d api.Desc) api.Desc {
	d.Hook = hook
	return d
}

// ofStruct has these parts by the names A, B and so on.
func ofStruct(parts ...api.Desc) api.Desc {
	d := of(api.Struct, parts...)
	d.Type = "T"
	for i := range parts {
		d.Names = append(d.Names, string(rune('A'+i)))
	}
	return d
}

// ints are the Ints from 1 to n.
func ints(n int) list {
	var l list
	for i := range n {
		l = append(l, ofInt(i+1))
	}
	return l
}

// What a method does.
func tells(s string) api.Act    { return api.Act{Kind: api.Tells, Text: s} }
func throws(d api.Desc) api.Act { return api.Act{Kind: api.Throws, Panic: d} }
func prints(format string, args ...api.Desc) api.Act {
	return api.Act{Kind: api.Prints, Format: format, Args: args}
}
func rowsOf(rows ...api.Hook) []api.Hook { return rows }

// both answers presses with these hooks: one that is not fresh, one that is.
func both(table []api.Hook) []*Press { return []*Press{New(table, false), New(table, true)} }

// is fails unless what was told is what is wanted.
func is[T comparable](t *testing.T, got, want T) {
	t.Helper()
	if got != want {
		t.Errorf("%#v, not %#v", got, want)
	}
}

// errFull is what a writer of these tests answers.
var errFull = errors.New("full")

// taker is a writer that takes so many bytes more, and answers an error where
// it is given more than that.
type taker struct {
	left  int
	took  string
	given []string
}

func (w *taker) Write(b []byte) (int, error) {
	w.given = append(w.given, string(b))
	n := min(len(b), w.left)
	w.took += string(b[:n])
	w.left -= n
	if n < len(b) {
		return n, errFull
	}
	return n, nil
}

// writes is a writer that is a function.
type writes func(b []byte) (int, error)

func (w writes) Write(b []byte) (int, error) { return w(b) }

// sayings are formats and arguments of every sort, for the table of sayingRows.
func sayings() []struct {
	format string
	args   list
} {
	inner := ofStruct(hooked(2, ofInt(1)), of(api.Map, ofText("k"), hooked(3, ofInt(2))))
	type saying = struct {
		format string
		args   list
	}
	return []saying{
		{"", nil}, {"a", nil}, {"", ints(2)}, {"%", nil}, {"%%", nil}, {"%d", nil}, {"%d %d", ints(2)}, {"%[3]d", ints(2)},
		{"%v|%+v|%#v|%T", list{inner, inner, inner, inner}},
		{"%5d|%-5d|%05d", ints(3)}, {"%*.*f", list{ofInt(9), ofInt(2), ofFloat(1.5)}}, {"%1001d", ints(1)}, {"%z", ints(1)},
		{"%v", list{hooked(1, ofInt(1))}}, {"%v %v", list{hooked(1, of(api.Ptr)), hooked(2, ofText("x"))}},
		{"a%vb%vc", list{hooked(3, ofInt(1)), hooked(4, ofInt(1))}}, {"%s|%q|%x|%d", list{hooked(5, ofInt(1)), hooked(5, ofInt(1)), hooked(5, ofInt(1)), hooked(5, ofInt(1))}},
		{strings.Repeat("x", api.MaxOut), nil}, {strings.Repeat("x", api.MaxOut) + "y", nil}, {"%1000d%1000d%1000d%1000d%1000d", ints(5)},
		{"%v", list{hooked(6, ofInt(1))}}, {"x", ints(api.MaxArgs + 1)}, {strings.Repeat("%d ", api.MaxArgs+1), ints(api.MaxArgs + 1)}, {"%[17]d", ints(20)},
		{"%v %d", list{{Kind: 99}, {Kind: -1}}}, {"%s\xff%é", list{ofText("\xff\x00")}}, {"%d", list{ofText("a"), ofText("b"), {}}},
		{"%v", list{hooked(17, ofInt(5)), hooked(-1, ofInt(6))}},
	}
}

// sayingRows throw, tell, print again in rings, too deep and too long.
func sayingRows() []api.Hook {
	return rowsOf(
		api.Hook{String: throws(ofText("boo"))},
		api.Hook{Error: tells("té"), Syntax: tells("G")},
		api.Hook{Error: prints("<%v>", hooked(3, ofInt(1)))},
		api.Hook{Format: throws(hooked(4, ofInt(1)))},
		api.Hook{String: prints("%v-%v", hooked(2, ofInt(1)), hooked(1, ofInt(1)))},
		api.Hook{Error: prints("%[1]s%[1]s%[1]s%[1]s%[1]s", ofText(strings.Repeat("z", api.MaxText)))},
	)
}

// P15.1: by which printers prints are made.
func TestPrintersP151(t *testing.T) {
	for _, fresh := range []bool{false, true} {
		p := New(sayingRows(), fresh)
		is(t, p.makers.Made(), 0)
		for n := 1; n < 30; n++ {
			switch n % 5 {
			case 0:
				p.Sprint(hooked(1, ofInt(1)))
			case 1:
				p.Sprintln(hooked(3, ofInt(1)))
			case 2:
				p.Sprintf("%v", hooked(4, ofInt(1)))
			case 3:
				p.Fprintf(&taker{}, "%v", hooked(5, ofInt(1)))
			case 4:
				p.Appendf(nil, "%v", hooked(6, ofInt(1)))
			}
			made, there := 1, 1
			if fresh {
				made, there = n, 0
			}
			is(t, p.makers.Made(), made)
			is(t, p.makers.Len(), there)
		}
	}
}

func TestFreshOrNotP151(t *testing.T) {
	used, fresh := New(sayingRows(), false), New(sayingRows(), true)
	for range 3 {
		for _, x := range sayings() {
			is(t, used.Sprintf(x.format, x.args...), fresh.Sprintf(x.format, x.args...))
			is(t, used.Sprint(x.args...), fresh.Sprint(x.args...))
			is(t, used.Sprintln(x.args...), fresh.Sprintln(x.args...))
			is(t, string(used.Appendf([]byte("a"), x.format, x.args...)), string(fresh.Appendf([]byte("a"), x.format, x.args...)))
			a, b := &taker{left: 5}, &taker{left: 5}
			n, e := used.Fprintf(a, x.format, x.args...)
			m, f := fresh.Fprintf(b, x.format, x.args...)
			is(t, n, m)
			is(t, e, f)
			is(t, a.took, b.took)
			is(t, used.Calls(), fresh.Calls())
		}
	}
}

// filledRows are rows with lists wherever a row may have them.
func filledRows() []api.Hook {
	deep := func() api.Desc {
		return ofStruct(ofInt(1), of(api.Map, ofText("k"), of(api.Slice, ofInt(2), of(api.Ptr, ofStruct(ofText("x"))))))
	}
	return rowsOf(
		api.Hook{Format: prints("F%+v", deep()), Syntax: tells("G")},
		api.Hook{Syntax: prints("G%#v %+v", deep(), deep()), Error: throws(deep())},
		api.Hook{Error: prints("E%+v", deep()), String: throws(of(api.Array, deep()))},
		api.Hook{String: prints("S%+v", of(api.Ptr, deep()))},
	)
}

// spoil changes all that lies in memory that a table shares with its copies.
func spoil(table []api.Hook) {
	var descs func(l []api.Desc)
	descs = func(l []api.Desc) {
		for i := range l {
			descs(l[i].Parts)
			for j := range l[i].Names {
				l[i].Names[j] = "spoilt" + strconv.Itoa(j)
			}
			l[i] = ofText("spoilt")
		}
	}
	for i := range table {
		h := &table[i]
		for _, a := range []*api.Act{&h.Format, &h.Syntax, &h.Error, &h.String} {
			descs(a.Args)
			descs([]api.Desc{a.Panic})
			*a = tells("spoilt")
		}
	}
}

func TestTableChangedAfterNewP151(t *testing.T) {
	var args list
	for i := range 4 {
		args = append(args, hooked(i+1, ofInt(7)), hooked(i+1, of(api.Slice, hooked(i+1, ofInt(8)))))
	}
	format := strings.Repeat("%v|", len(args)) + "%#[1]v|%#[3]v|%[5]s|%[7]q|%[1]d"
	want := printer.Sprintf(filledRows(), format, args)
	for _, s := range []string{"F{A:1 B:map[k:[2 0x0]]}", "T{A:1, B:map{", "PANIC=Error method: {1 ", "E{A:1", "S&{A:1"} {
		if !strings.Contains(want, s) {
			t.Fatalf("%q lacks %q", want, s)
		}
	}
	for _, fresh := range []bool{false, true} {
		// Ahead of the first print, and behind one.
		for _, ahead := range []int{0, 1} {
			table := filledRows()
			p := New(table, fresh)
			for range ahead {
				is(t, p.Sprintf(format, args...), want)
			}
			spoil(table)
			for range 3 {
				is(t, p.Sprintf(format, args...), want)
			}
			is(t, p.Sprint(args...), printer.Sprint(filledRows(), args))
			is(t, p.Sprintln(args...), printer.Sprintln(filledRows(), args))
			// The table is the caller's: what it is now a new press has.
			if got := New(table, fresh).Sprint(hooked(1, ofInt(1))); got != "spoilt" {
				t.Error(got)
			}
		}
	}
}

// R3, R4: the table stays, and what lies behind its end is not looked at.
func TestTableStaysP151(t *testing.T) {
	table := append(filledRows(), api.Hook{Format: tells("behind")})
	short := table[:len(table)-1]
	for _, p := range both(short) {
		for _, x := range sayings() {
			p.Sprintf(x.format, x.args...)
		}
		is(t, p.Sprint(hooked(len(table), ofInt(5))), "5")
	}
	if !reflect.DeepEqual(short, filledRows()) || table[len(short)].Format.Text != "behind" {
		t.Error("the table is changed")
	}
	for _, none := range [][]api.Hook{nil, {}} {
		for _, p := range both(none) {
			is(t, p.Sprintf("%v %d", hooked(1, ofInt(5)), hooked(0, ofInt(6))), "5 6")
		}
	}
	// MaxHooks rows are hooks.
	var many []api.Hook
	for i := range api.MaxHooks + 4 {
		many = append(many, api.Hook{Format: tells("row " + strconv.Itoa(i+1))})
	}
	for _, p := range both(many) {
		is(t, p.Sprintf("%v,%v,%v,%v", hooked(1, ofInt(0)), hooked(16, ofInt(0)), hooked(17, ofInt(0)), hooked(20, ofInt(0))), "row 1,row 16,0,0")
	}
}

// chain answers so many pointers, one in the other, to d.
func chain(n int, d api.Desc) api.Desc {
	for range n {
		d = of(api.Ptr, d)
	}
	return d
}

// Of whatever size the descriptors of a table are, they are printed as chapter
// 14 prints them.
func TestDescriptorsOfATableP151(t *testing.T) {
	wide := func(n int) api.Desc { return of(api.Slice, ints(n)...) }
	unseen := ofInt(5)
	unseen.Parts, unseen.Names = ints(200), []string{"a", "b"}
	unseenText := ofText("t")
	unseenText.Parts = list{of(api.Slice, ints(70)...)}
	names := ofStruct(ints(3)...)
	names.Names = append(names.Names, "D")
	noNames := of(api.Struct, ints(2)...)
	twice := ofStruct(ints(2)...)
	twice.Names[1] = "A"
	var pairs list
	for i := range 31 {
		pairs = append(pairs, ofInt(30-i), ofText("v"))
	}
	given := list{
		wide(0), wide(1), wide(62), wide(63), wide(64), wide(65), wide(1000),
		of(api.Slice, wide(30), wide(31)), of(api.Slice, wide(30), wide(32)), of(api.Slice, wide(31), wide(31), ofInt(1)), of(api.Slice, wide(63)), of(api.Slice, wide(62)),
		of(api.Array, unseen, unseenText), unseen, unseenText, names, noNames, twice, of(api.Slice, names), of(api.Slice, noNames, wide(70)),
		of(api.Map, pairs...), of(api.Map, append(pairs, ofText("k"), ofInt(1))...), of(api.Map, append(pairs, ofText("k"))...),
		chain(7, ofInt(1)), chain(8, ofInt(1)), chain(100, ofInt(1)), of(api.Ptr, ints(2)...), ofStruct(chain(6, wide(3)), wide(5)),
		{Kind: 23, Parts: ints(3)}, {Kind: -1}, of(api.Slice, api.Desc{Kind: 40, Parts: ints(100)}), {Kind: api.Nil, Parts: ints(100), Hook: 1},
		ofText(strings.Repeat("a", api.MaxText)), ofText(strings.Repeat("a", api.MaxText+1)), {Kind: api.Int, Type: "a b"},
	}
	for _, d := range given {
		table := rowsOf(api.Hook{String: prints("%+v", d)}, api.Hook{String: throws(d)}, api.Hook{Format: prints("%d-%[2]v%!", ofInt(1), d)})
		args := list{hooked(1, ofInt(1)), hooked(2, ofInt(1)), hooked(3, ofInt(1))}
		for _, p := range both(table) {
			is(t, p.Sprintf("%v|%v|%v", args...), printer.Sprintf(table, "%v|%v|%v", args))
		}
	}
	for _, n := range []int{0, 1, 15, 16, 17, 40, 1000} {
		table := rowsOf(api.Hook{String: prints("x", ints(n)...)}, api.Hook{String: prints("%[16]v%[17]v", ints(n)...)})
		for _, p := range both(table) {
			args := list{hooked(1, ofInt(1)), hooked(2, ofInt(1))}
			is(t, p.Sprintf("%v|%v", args...), printer.Sprintf(table, "%v|%v", args))
		}
	}
}

// P1: parts that hold themselves are more than any print takes: it ends all the
// same, and they are Nil.
func TestPartsThatHoldThemselvesP1(t *testing.T) {
	ring := make(list, 2)
	ring[0], ring[1] = of(api.Slice, ring...), of(api.Slice, ring...)
	ring[0].Parts, ring[1].Parts = ring, ring
	line := make(list, 1)
	line[0] = api.Desc{Kind: api.Ptr, Parts: line}
	unseen := make(list, 1)
	unseen[0] = api.Desc{Kind: api.Int, Bits: 5, Parts: unseen}
	for _, l := range []list{ring, line} {
		table := rowsOf(api.Hook{String: prints("%v %d", l...)}, api.Hook{Error: throws(l[0])}, api.Hook{Format: prints("%v", of(api.Slice, ofInt(1), l[0]))})
		for _, p := range both(table) {
			if got := p.Sprint(hooked(1, ofInt(1))); !strings.HasPrefix(got, "<nil> %!d(") {
				t.Error(got)
			}
			is(t, p.Sprint(hooked(2, ofInt(1))), "%!v(PANIC=Error method: <nil>)")
			is(t, p.Sprint(hooked(3, ofInt(1))), "<nil>")
			is(t, p.Sprint(l[0], ofInt(1), ofStruct(l[0])), "<nil> 1 <nil>")
		}
	}
	for _, p := range both(rowsOf(api.Hook{String: prints("%v", unseen...)})) {
		is(t, p.Sprint(hooked(1, ofInt(1)), unseen[0]), "5 5")
	}
}

func TestNotMadeP151(t *testing.T) {
	var none *Press
	var zero Press
	empty := New(nil, false)
	for _, p := range []*Press{none, &zero, new(Press)} {
		for _, x := range sayings() {
			is(t, p.Sprintf(x.format, x.args...), empty.Sprintf(x.format, x.args...))
			is(t, p.Sprint(x.args...), empty.Sprint(x.args...))
			is(t, p.Sprintln(x.args...), empty.Sprintln(x.args...))
			is(t, string(p.Appendf([]byte("ab"), x.format, x.args...)), "ab"+empty.Sprintf(x.format, x.args...))
			w := &taker{left: 3}
			n, e := p.Fprintf(w, x.format, x.args...)
			render := empty.Sprintf(x.format, x.args...)
			is(t, n, min(3, len(render)))
			is(t, e != nil, len(render) > 3)
			is(t, strings.Join(w.given, "|"), render)
			n, e = p.Fprintf(nil, x.format, x.args...)
			is(t, n, 0)
			is(t, e, nil)
			is(t, p.Calls(), 0)
		}
	}
	is(t, zero.Sprintf("%v", hooked(1, ofInt(5))), "5")
}

// P15.2: with the hooks of the press all is as chapter 14 has it.
func TestAsChapter14P152(t *testing.T) {
	for _, table := range [][]api.Hook{nil, sayingRows(), filledRows()} {
		for _, p := range both(table) {
			for _, x := range sayings() {
				is(t, p.Sprintf(x.format, x.args...), printer.Sprintf(table, x.format, x.args))
				is(t, p.Sprint(x.args...), printer.Sprint(table, x.args))
				is(t, p.Sprintln(x.args...), printer.Sprintln(table, x.args))
			}
		}
	}
}

func TestTextsP152(t *testing.T) {
	for _, p := range both(sayingRows()) {
		is(t, p.Sprint(), "")
		is(t, p.Sprintln(), "\n")
		is(t, p.Sprintf(""), "")
		is(t, p.Sprint(list{}...), "")
		is(t, p.Sprint(ofInt(1), ofInt(2), ofText("a"), ofText("b"), ofInt(3)), "1 2ab3")
		is(t, p.Sprintln(ofText("a"), ofInt(1)), "a 1\n")
		is(t, p.Sprintf("%d and %s", ofInt(5), ofText("x")), "5 and x")
		is(t, p.Sprint(hooked(1, ofInt(1)), hooked(2, ofInt(1))), "%!v(PANIC=String method: boo) té")
		is(t, p.Sprintln(hooked(3, ofInt(1)), ofText("a")), "<<<%!(DEPTH)>>> a\n")
		is(t, p.Sprintf("%5v|%d", hooked(2, ofInt(1)), hooked(2, ofInt(1))), "   té|1")
		is(t, p.Sprint(ints(20)...), "1 2 3 4 5 6 7 8 9 10 11 12 13 14 15 16")
		is(t, p.Sprintln(ints(20)...), "1 2 3 4 5 6 7 8 9 10 11 12 13 14 15 16\n")
		is(t, p.Sprintf("%[16]d %[17]d", ints(20)...), "16 %!d(BADINDEX)")
		long := strings.Repeat("x", api.MaxText)
		four := list{ofText(long), ofText(long), ofText(long), ofText(long)}
		is(t, p.Sprint(four...), strings.Repeat("x", api.MaxOut))
		is(t, p.Sprint(append(four, ofText("y"))...), strings.Repeat("x", api.MaxOut)+buf.TooLong)
		is(t, p.Sprintln(four...), strings.Join([]string{long, long, long, long[3:]}, " ")+buf.TooLong)
		is(t, p.Sprintf("%s%[1]s%[1]s%[1]s%[1]s", ofText(long)), strings.Repeat("x", api.MaxOut)+buf.TooLong)
	}
}

// P15.3: whatever a writer answers is the answer, and it is asked once.
func TestWritersP153(t *testing.T) {
	for _, p := range both(sayingRows()) {
		for _, x := range sayings() {
			render := p.Sprintf(x.format, x.args...)
			for _, n := range []int{0, 1, 3, len(render) - 1, len(render), len(render) + 1, -1, math.MaxInt, math.MinInt} {
				for _, err := range []error{nil, errFull} {
					asked, calls := 0, p.Calls()
					w := writes(func(b []byte) (int, error) {
						asked++
						is(t, string(b), render)
						is(t, p.Calls(), calls+1)
						return n, err
					})
					m, e := p.Fprintf(w, x.format, x.args...)
					is(t, m, n)
					is(t, e, err)
					is(t, asked, 1)
				}
			}
		}
	}
}

func TestExamplesOfWritersP153(t *testing.T) {
	hello := ofText("hello")
	for _, p := range both(nil) {
		w := &taker{left: 3}
		n, e := p.Fprintf(w, "%s", hello)
		is(t, n, 3)
		is(t, e, errFull)
		is(t, w.took, "hel")
		// One that takes none.
		n, e = p.Fprintf(w, "%s", hello)
		is(t, n, 0)
		is(t, e, errFull)
		is(t, w.took, "hel")
		is(t, strings.Join(w.given, "|"), "hello|hello")
		// One that answers an error though it took all.
		n, e = p.Fprintf(writes(func(b []byte) (int, error) { return len(b), errFull }), "%s", hello)
		is(t, n, 5)
		is(t, e, errFull)
		// What is cut is handed over with what tells so.
		w = &taker{left: 9000}
		n, e = p.Fprintf(w, strings.Repeat("x", 5000))
		is(t, n, api.MaxOut+len(buf.TooLong))
		is(t, e, nil)
		is(t, w.took, strings.Repeat("x", api.MaxOut)+buf.TooLong)
	}
}

func TestEmptyRenderP153(t *testing.T) {
	table := rowsOf(api.Hook{Format: tells("")})
	for _, p := range append(both(table), nil, new(Press)) {
		for _, l := range []list{nil, {}} {
			w := &taker{left: 1}
			n, e := p.Fprintf(w, "", l...)
			is(t, n, 0)
			is(t, e, nil)
			is(t, len(w.given), 1)
			is(t, w.given[0], "")
		}
		n, e := p.Fprintf(writes(func(b []byte) (int, error) { return len(b) + 7, errFull }), "%s", ofText(""))
		is(t, n, 7)
		is(t, e, errFull)
	}
	for _, p := range both(table) {
		w := &taker{left: 1}
		p.Fprintf(w, "%v", hooked(1, ofInt(5)))
		is(t, len(w.given), 1)
		is(t, w.given[0], "")
	}
}

func TestNilWriterP153(t *testing.T) {
	for _, p := range append(both(sayingRows()), nil, new(Press)) {
		for _, x := range sayings() {
			n, e := p.Fprintf(nil, x.format, x.args...)
			is(t, n, 0)
			is(t, e, nil)
		}
	}
}

// R3: the bytes that a writer is given are its own.
func TestWriterKeepsItsBytesP153(t *testing.T) {
	for _, p := range both(nil) {
		var kept [][]byte
		keep := writes(func(b []byte) (int, error) {
			kept = append(kept, b)
			return len(b), nil
		})
		for i := range 50 {
			p.Fprintf(keep, "%05d", ofInt(i))
			p.Sprintf("%08d", ofInt(7))
			p.Appendf(nil, "%08d", ofInt(8))
		}
		for i, b := range kept {
			is(t, string(b), "000"+string(rune('0'+i/10))+string(rune('0'+i%10)))
			// Neither is what lies behind them another one's.
			for j := range b[:cap(b)] {
				b[:cap(b)][j] = 'z'
			}
		}
		is(t, p.Sprintf("%05d", ofInt(1)), "00001")
		p.Fprintf(keep, "%05d", ofInt(2))
		is(t, string(kept[50]), "00002")
	}
}

// A writer that prints by the press that writes to it has prints of its own.
func TestWriterThatPrintsAgainP153(t *testing.T) {
	for _, p := range both(sayingRows()) {
		var given []string
		var w writes
		w = func(b []byte) (int, error) {
			ahead := string(b)
			given = append(given, ahead)
			if len(given) == 4 {
				return 4, errFull
			}
			n, e := p.Fprintf(w, "%v<%s", hooked(2, ofInt(1)), ofText(ahead))
			is(t, n, 4)
			is(t, e, errFull)
			is(t, string(b), ahead)
			return n, e
		}
		n, e := p.Fprintf(w, "%d", ofInt(5))
		is(t, n, 4)
		is(t, e, errFull)
		is(t, strings.Join(given, "|"), "5|té<5|té<té<5|té<té<té<5")
		is(t, p.Calls(), 4)
		is(t, p.Sprintf("%v", hooked(1, ofInt(1))), "%!v(PANIC=String method: boo)")
	}
}

// A writer that panics answers nothing; the press prints on.
func TestWriterThatPanicsP153(t *testing.T) {
	for _, p := range both(sayingRows()) {
		for _, what := range []any{"boo", errFull, nil, 5} {
			asked := 0
			n, e := p.Fprintf(writes(func(b []byte) (int, error) {
				asked++
				panic(what)
			}), "%d", ofInt(5))
			is(t, n, 0)
			is(t, e, nil)
			is(t, asked, 1)
		}
		var none *taker
		n, e := p.Fprintf(none, "%d", ofInt(5))
		is(t, n, 0)
		is(t, e, nil)
		var nothing writes
		n, e = p.Fprintf(nothing, "%d", ofInt(5))
		is(t, n, 0)
		is(t, e, nil)
		is(t, p.Calls(), 6)
		is(t, p.Sprintf("%v", hooked(2, ofInt(1))), "té")
	}
}

// P15.4: dst in all its forms.
func TestAppendfP154(t *testing.T) {
	for _, p := range append(both(sayingRows()), nil, new(Press)) {
		for _, x := range sayings() {
			render := p.Sprintf(x.format, x.args...)
			for _, ahead := range []string{"", "a", "ab\xff\x00", strings.Repeat("d", 5000)} {
				for _, room := range []int{0, 1, len(render) - 1, len(render), len(render) + 1, 9000} {
					memory := bytes.Repeat([]byte{'m'}, len(ahead)+max(room, 0))
					copy(memory, ahead)
					dst := memory[:len(ahead)]
					got := p.Appendf(dst, x.format, x.args...)
					is(t, string(got), ahead+render)
					is(t, string(dst), ahead)
				}
			}
			is(t, string(p.Appendf(nil, x.format, x.args...)), render)
			is(t, string(p.Appendf([]byte{}, x.format, x.args...)), render)
		}
	}
	for _, p := range both(nil) {
		is(t, string(p.Appendf([]byte("a"), "%d", ofInt(5))), "a5")
		is(t, string(p.Appendf([]byte("ab"), "%d", ofInt(5))), "ab5")
		is(t, len(p.Appendf(nil, "")), 0)
	}
}

// P15.4: lists that share dst's memory ahead of its end keep their bytes.
func TestListsThatShareMemoryP154(t *testing.T) {
	for _, p := range both(nil) {
		for end := range 9 {
			memory := []byte("abcdefgh")
			whole, front, middle := memory[:end], memory[:end/2], memory[end/3:end]
			for from := 0; from <= end; from++ {
				dst := memory[from:end]
				got := p.Appendf(dst, "%d", ofInt(12345))
				is(t, string(got), "abcdefgh"[from:end]+"12345")
				for i := range got {
					got[i] = 'z'
				}
				is(t, string(whole), "abcdefgh"[:end])
				is(t, string(front), "abcdefgh"[:end/2])
				is(t, string(middle), "abcdefgh"[end/3:end])
			}
		}
	}
}

// P15.4, R3: an answer stays as it is, whatever is appended later to whatever
// it came from.
func TestEarlierAnswersP154(t *testing.T) {
	for _, p := range both(nil) {
		dst := make([]byte, 2, 100)
		copy(dst, "ab")
		var answers [][]byte
		for i := range 20 {
			answers = append(answers, p.Appendf(dst, "%d", ofInt(100+i)))
		}
		for i, b := range answers {
			is(t, string(b), "ab"+string(rune('1'))+string(rune('0'+i/10))+string(rune('0'+i%10)))
		}
		// And of appended answers.
		first := p.Appendf(nil, "x")
		second := p.Appendf(first, "y")
		third := p.Appendf(first, "z")
		fourth := p.Appendf(second[:1], "w")
		is(t, string(first)+string(second)+string(third)+string(fourth), "xxyxzxw")
		// Nor is an answer the memory of what it came from.
		for _, room := range []int{0, 9} {
			dst = slices.Grow([]byte("ab"), room)
			got := p.Appendf(dst, "c")
			copy(got, "xyz")
			is(t, string(dst), "ab")
			copy(dst, "mn")
			is(t, string(got), "xyz")
		}
	}
}

func TestAppendfInALineP154(t *testing.T) {
	for _, p := range both(sayingRows()) {
		var got []byte
		want := ""
		for _, x := range sayings() {
			got = p.Appendf(got, x.format, x.args...)
			want += p.Sprintf(x.format, x.args...)
		}
		is(t, string(got), want)
	}
}

func TestCallsP155(t *testing.T) {
	for _, p := range both(sayingRows()) {
		other := New(nil, false)
		is(t, p.Calls(), 0)
		is(t, p.Calls(), 0)
		calls := []func(){
			func() { p.Sprint() },
			func() { p.Sprintln() },
			func() { p.Sprintf("") },
			func() { p.Fprintf(&taker{}, "") },
			func() { p.Appendf(nil, "") },
			func() { p.Fprintf(nil, "%d", ofInt(1)) },
			func() { p.Fprintf(&taker{}, "%d", ofInt(1)) },
			func() { p.Fprintf(writes(func([]byte) (int, error) { panic("boo") }), "a") },
			func() { p.Sprintf("%v", hooked(1, ofInt(1))) },
			func() { p.Sprint(hooked(3, ofInt(1)), hooked(4, ofInt(1))) },
			func() { p.Sprintln(hooked(6, ofInt(1))) },
			func() { p.Sprintf("%d %", ints(20)...) },
			func() { p.Appendf([]byte("a"), "%v", hooked(4, ofInt(1))) },
			func() { p.Sprint(ints(40)...) },
		}
		for round := range 3 {
			for i, call := range calls {
				call()
				is(t, p.Calls(), round*len(calls)+i+1)
				is(t, p.Calls(), round*len(calls)+i+1)
			}
		}
		is(t, other.Calls(), 0)
	}
	var none *Press
	none.Sprint()
	none.Sprintf("%d", ofInt(1))
	is(t, none.Calls(), 0)
}

// P15.7: a writer that takes k bytes more gets the first k of Render.
func TestWriterOfSomeBytesP157(t *testing.T) {
	for _, p := range both(sayingRows()) {
		for _, x := range sayings() {
			render := p.Sprintf(x.format, x.args...)
			for _, k := range []int{0, 1, 2, 3, 7, len(render) / 2, len(render) - 1, len(render), len(render) + 1, 9000} {
				if k < 0 {
					continue
				}
				w := &taker{left: k}
				n, e := p.Fprintf(w, x.format, x.args...)
				is(t, n, min(k, len(render)))
				is(t, w.took, render[:n])
				is(t, e != nil, k < len(render))
				is(t, len(w.given), 1)
			}
		}
		// One after another, till it is full.
		w := &taker{left: 10}
		for i, want := range []int{4, 4, 2, 0} {
			n, e := p.Fprintf(w, "%04d", ofInt(i))
			is(t, n, want)
			is(t, e != nil, want < 4)
		}
		is(t, w.took, "0000000100")
		is(t, len(w.given), 4)
	}
}

// R3: what was done with a press is told by it alone.
func TestPressesAreOfTheirOwnR3(t *testing.T) {
	one := New(rowsOf(api.Hook{String: tells("one")}), false)
	two := New(rowsOf(api.Hook{String: tells("two")}), false)
	for range 3 {
		is(t, one.Sprint(hooked(1, ofInt(1))), "one")
		is(t, two.Sprint(hooked(1, ofInt(1))), "two")
	}
	is(t, one.Calls(), 3)
	is(t, two.Calls(), 3)
	is(t, one.makers == two.makers, false)
}
