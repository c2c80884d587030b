package values

import (
	"math"
	"slices"
	"strings"
	"testing"

	"platen/api"
)

// all are the kinds, by their numbers.
func all() []int {
	var kinds []int
	for kind := api.Nil; kind <= api.Ptr; kind++ {
		kinds = append(kinds, kind)
	}
	return kinds
}

// ofText is a Text.
func ofText(s string) api.Desc { return api.Desc{Kind: api.Text, Text: s} }

// ofInt is an Int.
func ofInt(n int) api.Desc { return api.Desc{Kind: api.Int, Bits: uint64(n)} }

// of has these parts.
func of(kind int, parts ...api.Desc) api.Desc { return api.Desc{Kind: kind, Parts: parts} }

// ofStruct has a field of each name, all of them Nil.
func ofStruct(names ...string) api.Desc {
	return api.Desc{Kind: api.Struct, Names: names, Parts: make([]api.Desc, len(names))}
}

// named answers d with that type.
func named(d api.Desc, name string) api.Desc {
	d.Type = name
	return d
}

// hooked answers d with that hook.
func hooked(d api.Desc, hook int) api.Desc {
	d.Hook = hook
	return d
}

// same tells whether two descriptors are the same; a nil list is an empty one.
func same(a, b api.Desc) bool {
	return a.Kind == b.Kind && a.Type == b.Type && a.Bits == b.Bits && a.Imag == b.Imag && a.Text == b.Text &&
		a.Hook == b.Hook && slices.Equal(a.Names, b.Names) && slices.EqualFunc(a.Parts, b.Parts, same)
}

// copied answers d in memory of its own.
func copied(d api.Desc) api.Desc {
	d.Names = slices.Clone(d.Names)
	d.Parts = slices.Clone(d.Parts)
	for i := range d.Parts {
		d.Parts[i] = copied(d.Parts[i])
	}
	return d
}

// spoilt changes all lists of d, and all that is in them.
func spoilt(d api.Desc) {
	for i := range d.Names {
		d.Names[i] = "spoilt"
	}
	for i := range d.Parts {
		spoilt(d.Parts[i])
		d.Parts[i] = api.Desc{Kind: api.Uint16, Type: "spoilt", Bits: 99, Hook: 99}
	}
}

// built answers the value of d, which must have one.
func built(t *testing.T, d api.Desc) Value {
	t.Helper()
	v, e := Build(d)
	if e != api.OK || v == nil {
		t.Fatalf("Build(%+v): %v, %v", d, v, e)
	}
	return v
}

// refused holds that Build answers that error of d, and no value.
func refused(t *testing.T, d api.Desc, want api.Errno) {
	t.Helper()
	if v, e := Build(d); e != want || v != nil {
		t.Errorf("Build(%+v): %v, %v, not %v", d, v, e, want)
	}
}

// chance is a row of numbers that is the same in every run.
type chance uint64

func (c *chance) bits() uint64 {
	var b uint64
	for range 4 {
		*c = *c*6364136223846793005 + 1442695040888963407
		b = b<<16 | uint64(*c>>48)
	}
	return b
}

func (c *chance) below(n int) int { return int(c.bits() % uint64(n)) }

const letters = "abcdefghijklmnopqrstuvwxyzABCDEFGHIJKLMNOPQRSTUVWXYZ"

func TestNamedP81(t *testing.T) {
	for b := range 256 {
		one := string([]byte{byte(b)})
		letter, digit := strings.Contains(letters+"_", one), strings.Contains("0123456789", one)
		if Named(one) != letter {
			t.Errorf("%q: %v", one, Named(one))
		}
		for _, s := range []string{"a" + one, "_" + one, "a" + one + "b", "Z9" + one} {
			if Named(s) != (letter || digit) {
				t.Errorf("%q: %v", s, Named(s))
			}
		}
		for _, s := range []string{"9" + one, "0" + one, "é" + one, one + "é", one + " "} {
			if Named(s) {
				t.Errorf("%q is named", s)
			}
		}
	}
	for n := range 2000 {
		fits := n >= 1 && n <= 32
		for _, s := range []string{strings.Repeat("a", n), strings.Repeat("_", n), strings.Repeat("Z", n)} {
			if Named(s) != fits {
				t.Errorf("%d bytes: %v", n, Named(s))
			}
		}
	}
	if !Named("a"+strings.Repeat("9", 31)) || Named("a"+strings.Repeat("9", 32)) || Named(strings.Repeat("9", 32)) {
		t.Error("digits")
	}
	if Named(strings.Repeat("a", 31)+"-") || Named("日") || Named("\xff") || Named("a\x00") {
		t.Error("others")
	}
}

func TestTypedP81(t *testing.T) {
	for b := range 256 {
		one, fits := string([]byte{byte(b)}), b >= 33 && b <= 126
		for _, s := range []string{one, "a" + one, one + "a", "[]" + one + "9", strings.Repeat("x", 31) + one} {
			if Typed(s) != fits {
				t.Errorf("%q: %v", s, Typed(s))
			}
		}
	}
	for n := range 2000 {
		for _, one := range []string{"!", "~", "9", "T"} {
			if s := strings.Repeat(one, n); Typed(s) != (n <= 32) {
				t.Errorf("%d bytes: %v", n, Typed(s))
			}
		}
	}
	if Typed("é") || Typed("*T[日]") || !Typed("") || !Typed("map[string]*T{}") {
		t.Error("others")
	}
}

// someBits are the edges of all sizes, and some that have bits above them.
func someBits() []uint64 {
	l := []uint64{0, 1, 2, 3, math.MaxUint64, math.MaxUint64 - 1, 0xdeadbeefcafef00d}
	for i := range 64 {
		l = append(l, 1<<i, 1<<i-1, 1<<i+1, ^uint64(1<<i), math.MaxUint64<<i)
	}
	c := chance(81)
	for range 200 {
		l = append(l, c.bits())
	}
	return l
}

// lowest answers the lowest n bits, from 1 to 64.
func lowest(bits uint64, n int) uint64 {
	for i := n; i < 64; i++ {
		bits &^= 1 << i
	}
	return bits
}

// widened answers the lowest n bits, with the highest of them above.
func widened(bits uint64, n int) uint64 {
	bits = lowest(bits, n)
	for i := n; i < 64; i++ {
		bits |= (bits >> (n - 1) & 1) << i
	}
	return bits
}

// bitsOf answers which bits a value of that kind has of those.
func bitsOf(kind int, bits uint64) uint64 {
	switch kind {
	case api.Bool:
		return bits & 1
	case api.Int8, api.Int16, api.Int32, api.Int64:
		return widened(bits, 8<<(kind-api.Int8))
	case api.Uint8, api.Uint16, api.Uint32, api.Uint64:
		return lowest(bits, 8<<(kind-api.Uint8))
	case api.Float32, api.Complex64:
		return lowest(bits, 32)
	case api.Int, api.Uint, api.Float64, api.Complex128, api.Ptr:
		return bits
	}
	return 0
}

// imagOf answers which bits a value of that kind has of those of Imag.
func imagOf(kind int, bits uint64) uint64 {
	switch kind {
	case api.Complex64, api.Complex128:
		return bitsOf(kind, bits)
	}
	return 0
}

func TestBitsP82P83(t *testing.T) {
	for _, kind := range all() {
		for _, bits := range someBits() {
			for _, imag := range []uint64{0, bits, ^bits, bits<<32 | bits>>32} {
				v := built(t, api.Desc{Kind: kind, Bits: bits, Imag: imag})
				want := api.Desc{Kind: kind, Bits: bitsOf(kind, bits), Imag: imagOf(kind, imag)}
				if raw := Raw(v); !same(raw, want) || v.Kind() != kind {
					t.Fatalf("%d of %x, %x: %+v", kind, bits, imag, raw)
				}
			}
		}
	}
}

func TestWrittenOutBitsP82P83(t *testing.T) {
	for _, x := range []struct {
		kind       int
		bits, want uint64
	}{
		{api.Bool, 2, 0}, {api.Bool, 3, 1}, {api.Bool, math.MaxUint64, 1}, {api.Bool, 1 << 63, 0},
		{api.Int8, 255, math.MaxUint64}, {api.Int8, 127, 127}, {api.Int8, 128, 0xffffffffffffff80}, {api.Int8, 0x17f, 127}, {api.Int8, 256, 0},
		{api.Int16, 255, 255}, {api.Int16, 0x7fff, 0x7fff}, {api.Int16, 0x8000, 0xffffffffffff8000}, {api.Int16, 0x10000, 0},
		{api.Int32, 0x7fffffff, 0x7fffffff}, {api.Int32, 0x80000000, 0xffffffff80000000}, {api.Int32, 1 << 32, 0},
		{api.Int64, 1 << 63, 1 << 63}, {api.Int64, math.MaxUint64, math.MaxUint64}, {api.Int, 1 << 63, 1 << 63}, {api.Int, 1<<63 - 1, 1<<63 - 1},
		{api.Uint8, 255, 255}, {api.Uint8, 256, 0}, {api.Uint8, math.MaxUint64, 255}, {api.Uint16, 0xffff, 0xffff}, {api.Uint16, 0x1ffff, 0xffff},
		{api.Uint32, 0xffffffff, 0xffffffff}, {api.Uint32, 0x1ffffffff, 0xffffffff}, {api.Uint64, math.MaxUint64, math.MaxUint64}, {api.Uint, math.MaxUint64, math.MaxUint64},
		{api.Float32, 0x3f8000003f800000, 0x3f800000}, {api.Float32, 0xffffffff, 0xffffffff}, {api.Float64, 0x3ff8000000000000, 0x3ff8000000000000},
	} {
		if raw := Raw(built(t, api.Desc{Kind: x.kind, Bits: x.bits})); !same(raw, api.Desc{Kind: x.kind, Bits: x.want}) {
			t.Errorf("%d of %x: %+v", x.kind, x.bits, raw)
		}
	}
}

// stuffed has something in every field, much of it such as may not be where it
// is looked at.
func stuffed(kind int) api.Desc {
	return api.Desc{
		Kind: kind, Type: "T", Bits: 0xfedcba9876543211, Imag: 0x123456789abcdef, Text: "text", Hook: 7,
		Names: []string{"a", "a", "b c", ""}, Parts: []api.Desc{{Kind: 23}, ofText(strings.Repeat("x", 1025)), {Kind: -1, Type: "a b"}},
	}
}

func TestNotLookedAtP82P83(t *testing.T) {
	for _, kind := range all() {
		d := stuffed(kind)
		want := api.Desc{Kind: kind, Type: "T", Bits: bitsOf(kind, d.Bits), Imag: imagOf(kind, d.Imag), Hook: 7}
		switch kind {
		case api.Nil:
			d.Type, want.Type, want.Hook = strings.Repeat("é ", 50), "", 0
		case api.Text, api.Bytes:
			want.Text = "text"
		case api.Struct:
			d.Names, d.Parts = []string{"a"}, []api.Desc{ofInt(5)}
			want.Names, want.Parts = d.Names, d.Parts
		case api.Array, api.Slice, api.Ptr:
			d.Parts = []api.Desc{ofInt(5)}
			want.Parts = d.Parts
		case api.Map:
			d.Parts = []api.Desc{ofInt(5), {}}
			want.Parts = d.Parts
		}
		if kind != api.Text && kind != api.Bytes {
			d.Text = strings.Repeat("x", 1025)
		}
		v := built(t, d)
		if raw := Raw(v); !same(raw, want) {
			t.Errorf("%d: %+v, not %+v", kind, raw, want)
		}
		if again := built(t, want); !same(Raw(again), want) {
			t.Errorf("%d again: %+v", kind, Raw(again))
		}
	}
}

func TestManyPartsNotLookedAtP82(t *testing.T) {
	many := make([]api.Desc, 100)
	for _, kind := range all()[:api.Struct] {
		d := api.Desc{Kind: kind, Parts: many}
		if v := built(t, of(api.Slice, d)); Size(v) != 2 || Deep(v) != 2 {
			t.Errorf("%d: %d, %d", kind, Size(v), Deep(v))
		}
	}
	refused(t, api.Desc{Kind: 23, Parts: many, Type: "a b"}, api.ErrKind)
	refused(t, api.Desc{Kind: -1, Text: strings.Repeat("x", 1025)}, api.ErrKind)
	refused(t, of(api.Ptr, of(-2, of(api.Ptr, many...))), api.ErrKind)
}

func TestTextsP82P83(t *testing.T) {
	long := strings.Repeat("\xff\x00é", 256)
	for _, kind := range []int{api.Text, api.Bytes} {
		for _, s := range []string{"", "a", "\xff\xfe", "é日", "\x00", long, long[:1023]} {
			if raw := Raw(built(t, api.Desc{Kind: kind, Text: s})); !same(raw, api.Desc{Kind: kind, Text: s}) {
				t.Errorf("%d: %+v", kind, raw)
			}
		}
	}
}

func TestKindsWithPartsP82P83(t *testing.T) {
	inner := api.Desc{Kind: api.Struct, Type: "In", Names: []string{"x", "X", "_1"}, Parts: []api.Desc{ofInt(-1), ofText("t"), {}}, Hook: 3}
	for _, d := range []api.Desc{
		{Kind: api.Struct}, {Kind: api.Array}, {Kind: api.Slice}, {Kind: api.Map}, {Kind: api.Ptr}, {Kind: api.Ptr, Bits: 0xc000012345},
		inner, of(api.Array, inner, inner), of(api.Slice, inner, api.Desc{}, ofInt(2)), of(api.Map, ofText("a"), inner, ofText("b"), inner),
		{Kind: api.Ptr, Bits: 0xc000012345, Parts: []api.Desc{inner}}, {Kind: api.Ptr, Parts: []api.Desc{{}}}, of(api.Ptr, of(api.Ptr, of(api.Ptr))),
		{Kind: api.Struct, Names: []string{"b", "a"}, Parts: []api.Desc{ofInt(2), ofInt(1)}, Type: "*T", Hook: -5},
		of(api.Slice, ofInt(3), ofInt(1), ofInt(2), ofInt(1)), of(api.Array, ofText("b"), ofText("a"), ofText("b")),
	} {
		v := built(t, d)
		if !same(Raw(v), d) || v.Kind() != d.Kind {
			t.Errorf("%+v: %+v", d, Raw(v))
		}
	}
}

func TestEntriesByRisingKeysP82P83(t *testing.T) {
	keys := []api.Desc{
		{Kind: api.Bool}, named(api.Desc{Kind: api.Bool}, "B"), {Kind: api.Bool, Bits: 1},
		{Kind: api.Int8, Bits: 0xffffffffffffff80}, {Kind: api.Int8, Bits: math.MaxUint64}, {Kind: api.Int8}, {Kind: api.Int8, Bits: 127},
		ofInt(math.MinInt), ofInt(-5), named(ofInt(-5), "int"), named(ofInt(-5), "~"), ofInt(math.MaxInt),
		{Kind: api.Uint8, Bits: 5}, {Kind: api.Uint8, Bits: 255}, {Kind: api.Uint64, Bits: 1}, {Kind: api.Uint64, Bits: math.MaxUint64},
		ofText(""), ofText("B"), ofText("a"), named(ofText("a"), "T"), ofText("a\x00"), ofText("ab"), ofText("é"),
	}
	var sorted []api.Desc
	for i, key := range keys {
		sorted = append(sorted, hooked(key, i+1), ofInt(i))
	}
	c := chance(82)
	for n := range 300 {
		have := slices.Clone(sorted)
		for i := len(keys) - 1; i > 0 && n > 0; i-- {
			j := c.below(i + 1)
			have[2*i], have[2*j] = have[2*j], have[2*i]
			have[2*i+1], have[2*j+1] = have[2*j+1], have[2*i+1]
		}
		if raw := Raw(built(t, of(api.Map, have...))); !same(raw, of(api.Map, sorted...)) {
			t.Fatalf("%+v: %+v", have, raw)
		}
	}
	backwards := of(api.Map, ofText("b"), ofInt(1), ofText("a"), of(api.Map, ofInt(1), ofInt(2), ofInt(0), ofInt(3)))
	want := of(api.Map, ofText("a"), of(api.Map, ofInt(0), ofInt(3), ofInt(1), ofInt(2)), ofText("b"), ofInt(1))
	if raw := Raw(built(t, backwards)); !same(raw, want) {
		t.Errorf("%+v", raw)
	}
}

// fault is a descriptor that has that error, and no other one.
type fault struct {
	d    api.Desc
	want api.Errno
}

// faults are of all sorts.
func faults() []fault {
	key := func(d api.Desc) api.Desc { return of(api.Map, d, ofInt(1)) }
	long := strings.Repeat("x", api.MaxText+1)
	l := []fault{
		{ofText(long), api.ErrBig}, {api.Desc{Kind: api.Bytes, Text: long + long}, api.ErrBig}, {key(ofText(long)), api.ErrBig},
		{of(api.Slice, make([]api.Desc, 64)...), api.ErrBig}, {of(api.Array, make([]api.Desc, 1000)...), api.ErrBig},
		{named(ofInt(1), "a b"), api.ErrForm}, {named(ofText("x"), strings.Repeat("x", 33)), api.ErrForm}, {named(of(api.Map), "é"), api.ErrForm},
		{named(of(api.Ptr), "\x7f"), api.ErrForm}, {named(ofStruct("a"), " "), api.ErrForm}, {named(of(api.Slice), "\n"), api.ErrForm}, {named(of(api.Array), "\x00"), api.ErrForm},
		{of(api.Struct, api.Desc{}), api.ErrForm}, {api.Desc{Kind: api.Struct, Names: []string{"a"}}, api.ErrForm},
		{api.Desc{Kind: api.Struct, Names: []string{"a", "b", "c"}, Parts: make([]api.Desc, 2)}, api.ErrForm},
		{ofStruct("a", ""), api.ErrForm}, {ofStruct("1a"), api.ErrForm}, {ofStruct("a", "b", "é"), api.ErrForm}, {ofStruct(strings.Repeat("a", 33)), api.ErrForm},
		{of(api.Map, ofInt(1)), api.ErrForm}, {of(api.Map, ofInt(1), ofInt(2), ofInt(3)), api.ErrForm},
		{of(api.Map, ofInt(1), ofInt(2), api.Desc{}, ofInt(3)), api.ErrForm}, {of(api.Map, ofInt(1), ofInt(2), api.Desc{}), api.ErrForm},
		{of(api.Ptr, ofInt(1), ofInt(1)), api.ErrForm}, {of(api.Ptr, api.Desc{}, api.Desc{}, api.Desc{}), api.ErrForm},
		{ofStruct("a", "a"), api.ErrThere}, {ofStruct("a", "b", "c", "b"), api.ErrThere}, {ofStruct("x", "b", "c", "x"), api.ErrThere},
		{of(api.Map, ofText("a"), api.Desc{}, ofText("b"), api.Desc{}, ofText("a"), ofInt(1)), api.ErrThere},
		{of(api.Map, ofInt(256), api.Desc{}, hooked(ofInt(256), 9), api.Desc{}), api.ErrThere},
		{of(api.Map, api.Desc{Kind: api.Int8, Bits: 1}, api.Desc{}, api.Desc{Kind: api.Int8, Bits: 257}, api.Desc{}), api.ErrThere},
		{of(api.Map, api.Desc{Kind: api.Bool, Bits: 2}, api.Desc{}, api.Desc{Kind: api.Bool, Bits: 4}, api.Desc{}), api.ErrThere},
		{of(api.Map, named(ofText(""), "T"), api.Desc{}, named(ofText(""), "T"), api.Desc{}), api.ErrThere},
	}
	for _, kind := range []int{-1, 23, 24, 100, math.MinInt, math.MaxInt} {
		l = append(l, fault{api.Desc{Kind: kind}, api.ErrKind}, fault{named(stuffed(kind), "a b"), api.ErrKind}, fault{key(api.Desc{Kind: kind}), api.ErrKind})
	}
	for _, kind := range all() {
		if slices.Contains([]int{api.Nil, api.Float32, api.Float64, api.Complex64, api.Complex128, api.Bytes, api.Struct, api.Array, api.Slice, api.Map, api.Ptr}, kind) {
			l = append(l, fault{key(api.Desc{Kind: kind}), api.ErrForm})
		} else if v, e := Build(key(api.Desc{Kind: kind})); e != api.OK || Size(v) != 3 {
			panic("a key")
		}
		if kind != api.Nil {
			l = append(l, fault{api.Desc{Kind: kind, Type: "\x1f"}, api.ErrForm})
		}
	}
	return l
}

// wraps are ways to have a descriptor, or two of them, in another one.
func wraps() []func(a, b api.Desc) api.Desc {
	two := func(parts ...api.Desc) api.Desc {
		return api.Desc{Kind: api.Struct, Names: []string{"p", "q"}, Parts: parts}
	}
	return []func(a, b api.Desc) api.Desc{
		func(a, b api.Desc) api.Desc { return two(a, b) },
		func(a, b api.Desc) api.Desc { return of(api.Array, a, b) },
		func(a, b api.Desc) api.Desc { return of(api.Slice, ofInt(1), b, ofInt(2), a) },
		func(a, b api.Desc) api.Desc { return of(api.Map, ofText("z"), a, ofText("a"), b) },
		func(a, b api.Desc) api.Desc { return of(api.Map, ofText("z"), b, ofText("a"), of(api.Ptr, a)) },
		func(a, b api.Desc) api.Desc { return of(api.Ptr, of(api.Slice, of(api.Ptr, a), b)) },
		func(a, b api.Desc) api.Desc { return of(api.Ptr, two(b, of(api.Array, of(api.Slice, a)))) },
	}
}

func TestEachErrorP82(t *testing.T) {
	for _, f := range faults() {
		refused(t, f.d, f.want)
		for _, wrap := range wraps() {
			refused(t, wrap(f.d, ofInt(1)), f.want)
			refused(t, wrap(api.Desc{}, f.d), f.want)
		}
	}
}

// order is the document's: the lower one is told.
func order(e api.Errno) int {
	return slices.Index([]api.Errno{api.ErrBig, api.ErrDeep, api.ErrKind, api.ErrForm, api.ErrThere}, e)
}

// first answers the one of them that is told.
func first(a, b api.Errno) api.Errno {
	if order(b) < order(a) {
		return b
	}
	return a
}

func TestTwoErrorsP82(t *testing.T) {
	for _, wrap := range wraps() {
		for _, f := range faults() {
			for _, g := range faults() {
				want := first(f.want, g.want)
				refused(t, wrap(f.d, g.d), want)
			}
		}
	}
}

func TestTwoErrorsOfOneP82(t *testing.T) {
	long := api.Desc{Kind: api.Text, Type: "a b", Text: strings.Repeat("x", 1025)}
	refused(t, long, api.ErrBig)
	refused(t, api.Desc{Kind: api.Ptr, Type: "a b", Parts: make([]api.Desc, 64)}, api.ErrBig)
	refused(t, api.Desc{Kind: api.Ptr, Parts: []api.Desc{{}, {Kind: 23}}}, api.ErrKind)
	refused(t, of(api.Map, ofInt(1), ofInt(1), api.Desc{Kind: 23}), api.ErrKind)
	refused(t, of(api.Map, ofInt(1), ofInt(1), ofInt(1)), api.ErrForm)
	refused(t, of(api.Map, ofInt(1), ofInt(1), ofInt(1), ofInt(1), api.Desc{}, ofInt(1)), api.ErrForm)
	refused(t, api.Desc{Kind: api.Struct, Names: []string{"a", "a", "b"}, Parts: make([]api.Desc, 2)}, api.ErrForm)
	refused(t, ofStruct("a", "a", "1"), api.ErrForm)
	refused(t, named(ofStruct("a", "a"), "a b"), api.ErrForm)
	refused(t, of(api.Struct, api.Desc{Kind: 23}), api.ErrKind)
	refused(t, of(api.Struct, make([]api.Desc, 64)...), api.ErrBig)
	refused(t, of(api.Map, make([]api.Desc, 64)...), api.ErrBig)
	refused(t, of(api.Map, make([]api.Desc, 63)...), api.ErrForm)
	refused(t, named(api.Desc{Kind: 23}, "a b"), api.ErrKind)
}

// nested has n descriptors in one another, the innermost being last.
func nested(kinds []int, n int, last api.Desc) api.Desc {
	d := last
	for i := range n - 1 {
		switch kind := kinds[i%len(kinds)]; kind {
		case api.Struct:
			d = api.Desc{Kind: kind, Names: []string{"f"}, Parts: []api.Desc{d}}
		case api.Map:
			d = of(kind, ofInt(i), d)
		default:
			d = of(kind, d)
		}
	}
	return d
}

func TestDeepP82P84(t *testing.T) {
	for _, kinds := range [][]int{{api.Struct}, {api.Array}, {api.Slice}, {api.Map}, {api.Ptr}, {api.Map, api.Ptr, api.Slice}, {api.Struct, api.Array}} {
		for n := 1; n <= 30; n++ {
			for _, last := range []api.Desc{{}, ofInt(1), ofText("x"), of(api.Slice), of(api.Ptr), stuffed(api.Nil)} {
				d := nested(kinds, n, last)
				if n > 8 {
					refused(t, d, api.ErrDeep)
				} else if v := built(t, d); Deep(v) != n {
					t.Errorf("%+v: %d", d, Deep(v))
				}
			}
			wrong := []fault{{api.Desc{Kind: 23}, api.ErrKind}, {named(ofInt(1), " "), api.ErrForm}, {ofText(strings.Repeat("x", 1025)), api.ErrBig}}
			for _, f := range wrong {
				want := f.want
				if n > 8 {
					want = first(want, api.ErrDeep)
				}
				refused(t, nested(kinds, n, f.d), want)
			}
		}
	}
	refused(t, nested([]int{api.Ptr}, 9, api.Desc{Kind: 23}), api.ErrDeep)
	refused(t, of(api.Slice, nested([]int{api.Slice}, 8, api.Desc{}), api.Desc{Kind: 23}, ofStruct("a", "a"), named(ofInt(1), " ")), api.ErrDeep)
	refused(t, of(api.Map, nested([]int{api.Slice}, 8, api.Desc{}), ofInt(1)), api.ErrDeep)
	refused(t, nested([]int{api.Ptr}, 64, api.Desc{}), api.ErrDeep)
	refused(t, nested([]int{api.Ptr}, 65, api.Desc{}), api.ErrBig)
	refused(t, nested([]int{api.Ptr}, 100000, api.Desc{}), api.ErrBig)
}

func TestNodesP82P84(t *testing.T) {
	for n := range 70 {
		names := make([]string, n)
		keyed := api.Desc{Kind: api.Map}
		for i := range n {
			names[i] = string(letters[i%52]) + string(letters[i/52])
			keyed.Parts = append(keyed.Parts, ofInt(-i), api.Desc{})
		}
		flat := []api.Desc{ofStruct(names...), of(api.Array, make([]api.Desc, n)...), of(api.Slice, make([]api.Desc, n)...), of(api.Ptr, of(api.Slice, make([]api.Desc, n)...)), keyed}
		for i, size := range []int{1 + n, 1 + n, 1 + n, 2 + n, 1 + 2*n} {
			if size > 64 {
				refused(t, flat[i], api.ErrBig)
				flat[i].Type = "a b"
				refused(t, of(api.Map, flat[i]), api.ErrBig)
			} else if v := built(t, flat[i]); Size(v) != size {
				t.Errorf("%d of %d: %d", i, n, Size(v))
			}
		}
	}
	eight := of(api.Slice, make([]api.Desc, 7)...)
	if v := built(t, of(api.Slice, of(api.Slice, make([]api.Desc, 6)...), eight, eight, eight, eight, eight, eight, eight)); Size(v) != 64 || Deep(v) != 3 {
		t.Error(Size(v), Deep(v))
	}
	refused(t, of(api.Slice, eight, eight, eight, eight, eight, eight, eight, eight), api.ErrBig)
	refused(t, of(api.Slice, of(api.Slice, make([]api.Desc, 63)...)), api.ErrBig)
	refused(t, of(api.Slice, make([]api.Desc, 1<<20)...), api.ErrBig)
}

func TestTextEdgesP82(t *testing.T) {
	for n := 1020; n < 1030; n++ {
		for _, kind := range []int{api.Text, api.Bytes} {
			d := api.Desc{Kind: kind, Text: strings.Repeat("\xc3", n)}
			if n > 1024 {
				refused(t, d, api.ErrBig)
				refused(t, of(api.Map, d, api.Desc{Kind: 99}), api.ErrBig)
			} else if raw := Raw(built(t, d)); !same(raw, d) {
				t.Errorf("%d bytes: %d", n, len(raw.Text))
			}
		}
	}
	// It is each text that may not be longer, not all of them together.
	long := ofText(strings.Repeat("x", 1024))
	if v := built(t, of(api.Array, slices.Repeat([]api.Desc{long}, 63)...)); Size(v) != 64 {
		t.Error(Size(v))
	}
}

func TestHoldingThemselvesP82(t *testing.T) {
	for _, kind := range []int{api.Struct, api.Array, api.Slice, api.Map, api.Ptr} {
		parts := make([]api.Desc, 1)
		parts[0] = api.Desc{Kind: kind, Parts: parts}
		refused(t, parts[0], api.ErrBig)
		refused(t, of(api.Slice, parts[0], api.Desc{Kind: 23}), api.ErrBig)
	}
	twofold := api.Desc{}
	for range 60 {
		twofold = of(api.Slice, twofold, twofold)
	}
	refused(t, twofold, api.ErrBig)
	parts := make([]api.Desc, 1)
	parts[0] = api.Desc{Kind: api.Int, Parts: parts}
	if v := built(t, parts[0]); Size(v) != 1 || Raw(v).Parts != nil {
		t.Error("an Int's parts")
	}
}

func TestTypeP84(t *testing.T) {
	want := strings.Fields("<nil> bool int8 int16 int32 int64 int uint8 uint16 uint32 uint64 uint float32 float64 complex64 complex128 string []uint8 struct array slice map ptr")
	for _, kind := range all() {
		if got := Type(built(t, api.Desc{Kind: kind})); got != want[kind] {
			t.Errorf("%d: %s", kind, got)
		}
		for _, name := range []string{"T", "!", "~", "*main.T", "<nil>", "int", strings.Repeat("x", 32)} {
			v := built(t, api.Desc{Kind: kind, Type: name})
			if kind == api.Nil {
				name = "<nil>"
			}
			if Type(v) != name {
				t.Errorf("%d: %s, not %s", kind, Type(v), name)
			}
		}
	}
	if v := built(t, of(api.Slice, named(ofInt(1), "T"))); Type(v) != "slice" {
		t.Error(Type(v))
	}
}

func TestHookP84(t *testing.T) {
	for _, kind := range all() {
		for _, hook := range []int{0, 1, 16, 17, -1, math.MinInt, math.MaxInt} {
			v := built(t, api.Desc{Kind: kind, Hook: hook})
			if kind == api.Nil {
				hook = 0
			}
			if Hook(v) != hook || Raw(v).Hook != hook {
				t.Errorf("%d: %d, not %d", kind, Hook(v), hook)
			}
		}
	}
	if v := built(t, hooked(of(api.Ptr, hooked(ofInt(1), 2)), 3)); Hook(v) != 3 || Raw(v).Parts[0].Hook != 2 {
		t.Error(Hook(v))
	}
}

func TestSizeAndDeepP84(t *testing.T) {
	for _, x := range []struct {
		d          api.Desc
		size, deep int
	}{
		{api.Desc{}, 1, 1}, {ofInt(5), 1, 1}, {ofText("abc"), 1, 1}, {api.Desc{Kind: api.Bytes, Text: "abc"}, 1, 1},
		{of(api.Struct), 1, 1}, {of(api.Array), 1, 1}, {of(api.Slice), 1, 1}, {of(api.Map), 1, 1}, {of(api.Ptr), 1, 1}, {api.Desc{Kind: api.Ptr, Bits: 9}, 1, 1},
		{ofStruct("a", "b"), 3, 2}, {of(api.Ptr, api.Desc{}), 2, 2}, {of(api.Map, ofInt(1), ofInt(2)), 3, 2}, {of(api.Array, ofInt(1), ofInt(1), ofInt(1)), 4, 2},
		{of(api.Slice, of(api.Slice), of(api.Slice, of(api.Ptr, ofInt(1)))), 5, 4}, {of(api.Slice, of(api.Slice, of(api.Ptr, ofInt(1))), of(api.Slice)), 5, 4},
		{of(api.Map, ofInt(1), of(api.Map, ofInt(1), ofStruct("a")), ofInt(0), ofInt(3)), 8, 4},
	} {
		if v := built(t, x.d); Size(v) != x.size || Deep(v) != x.deep {
			t.Errorf("%+v: %d, %d", x.d, Size(v), Deep(v))
		}
	}
}

func TestCmpP85(t *testing.T) {
	rising := []api.Desc{
		{}, {Kind: api.Bool}, named(api.Desc{Kind: api.Bool, Bits: 6}, "!"), named(api.Desc{Kind: api.Bool}, "a"), {Kind: api.Bool, Bits: 1}, named(api.Desc{Kind: api.Bool, Bits: 3}, "!"),
		{Kind: api.Int8, Bits: 128}, {Kind: api.Int8, Bits: 255}, {Kind: api.Int8}, {Kind: api.Int8, Bits: 1}, {Kind: api.Int8, Bits: 127},
		{Kind: api.Int16, Bits: 0x8000}, {Kind: api.Int16, Bits: 0xffff}, {Kind: api.Int16}, {Kind: api.Int16, Bits: 0x7fff},
		{Kind: api.Int32, Bits: 0x80000000}, {Kind: api.Int32, Bits: math.MaxUint64}, {Kind: api.Int32, Bits: 0x7fffffff},
		{Kind: api.Int64, Bits: 1 << 63}, {Kind: api.Int64, Bits: 1<<63 + 1}, {Kind: api.Int64, Bits: math.MaxUint64}, {Kind: api.Int64}, {Kind: api.Int64, Bits: 1<<63 - 1},
		ofInt(math.MinInt), ofInt(-2), ofInt(-1), named(ofInt(-1), "A"), named(ofInt(-1), "AA"), named(ofInt(-1), "a"), ofInt(0), ofInt(2), ofInt(10), ofInt(math.MaxInt),
		{Kind: api.Uint8}, {Kind: api.Uint8, Bits: 127}, {Kind: api.Uint8, Bits: 128}, {Kind: api.Uint8, Bits: 255}, {Kind: api.Uint16, Bits: 1}, {Kind: api.Uint16, Bits: 0xffff},
		{Kind: api.Uint32, Bits: 2}, {Kind: api.Uint32, Bits: 10}, {Kind: api.Uint64}, {Kind: api.Uint64, Bits: 1<<63 - 1}, {Kind: api.Uint64, Bits: 1 << 63}, {Kind: api.Uint64, Bits: math.MaxUint64},
		{Kind: api.Uint}, named(api.Desc{Kind: api.Uint}, "z"), {Kind: api.Uint, Bits: math.MaxUint64},
		{Kind: api.Float32}, {Kind: api.Float64}, {Kind: api.Complex64}, {Kind: api.Complex128},
		ofText(""), named(ofText(""), "z"), ofText("\x00"), ofText("10"), ofText("9"), ofText("Z"), ofText("a"), named(ofText("a"), "b"), ofText("aa"), ofText("b"), ofText("é"), ofText("\xff"),
		{Kind: api.Bytes}, {Kind: api.Struct}, {Kind: api.Array}, {Kind: api.Slice}, {Kind: api.Map}, {Kind: api.Ptr},
	}
	for i, a := range rising {
		for j, b := range rising {
			want := 0
			if i < j {
				want = -1
			} else if i > j {
				want = 1
			}
			// The hooks say nothing.
			if got := Cmp(built(t, hooked(a, j)), built(t, hooked(b, i))); got != want {
				t.Errorf("%+v, %+v: %d", a, b, got)
			}
		}
	}
}

func TestCmpOfOtherKindsP85(t *testing.T) {
	for _, kind := range []int{api.Nil, api.Float32, api.Float64, api.Complex64, api.Complex128, api.Bytes, api.Struct, api.Array, api.Slice, api.Map, api.Ptr} {
		l := []api.Desc{{}, {Bits: 1}, {Bits: math.MaxUint64, Imag: 1}, {Imag: 5}, {Text: "a"}, {Text: "b"}, {Type: "T"}, {Type: "U", Hook: 4}}
		for i := range l {
			l[i].Kind = kind
			if kind >= api.Struct && i%2 == 1 {
				l[i].Names, l[i].Parts = []string{"a", "b"}, []api.Desc{ofInt(i), ofInt(i)}
				if kind == api.Ptr {
					l[i].Parts = l[i].Parts[:1]
				}
			}
		}
		for _, a := range l {
			for _, b := range l {
				if got := Cmp(built(t, a), built(t, b)); got != 0 {
					t.Errorf("%+v, %+v: %d", a, b, got)
				}
			}
		}
	}
}

// strange is a Value that Build didn't make.
type strange struct{ Value }

func (strange) Kind() int { panic("asked") }

func TestNilP84P85(t *testing.T) {
	null := built(t, stuffed(api.Nil))
	var none *strange
	for _, v := range []Value{nil, null, strange{}, none, struct{ Value }{built(t, ofInt(5))}} {
		if !same(Raw(v), api.Desc{}) || Type(v) != "<nil>" || Hook(v) != 0 || Size(v) != 1 || Deep(v) != 1 {
			t.Errorf("%T: %+v, %s, %d, %d, %d", v, Raw(v), Type(v), Hook(v), Size(v), Deep(v))
		}
		for _, w := range []Value{nil, null, strange{}} {
			if Cmp(v, w) != 0 {
				t.Errorf("%T, %T: %d", v, w, Cmp(v, w))
			}
		}
		for _, kind := range all()[1:] {
			if w := built(t, api.Desc{Kind: kind}); Cmp(v, w) != -1 || Cmp(w, v) != 1 {
				t.Errorf("%T, %d: %d, %d", v, kind, Cmp(v, w), Cmp(w, v))
			}
		}
	}
	if null.Kind() != api.Nil {
		t.Error(null.Kind())
	}
}
