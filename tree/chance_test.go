package tree

import (
	"fmt"
	"reflect"
	"slices"
	"strconv"
	"strings"
	"testing"

	"platen/api"
	"platen/quote"
	"platen/values"
)

// chance is a row of numbers that is the same in each run.
type chance uint64

// below answers a number from 0 to n - 1.
func (c *chance) below(n int) int {
	*c ^= *c << 13
	*c ^= *c >> 7
	*c ^= *c << 17
	return int(uint64(*c) >> 11 % uint64(n))
}

// anyDesc answers a descriptor with at most so many in one another.
func (c *chance) anyDesc(deep int) api.Desc {
	d := api.Desc{Kind: c.below(api.Ptr + 1), Bits: uint64(c.below(300)), Imag: uint64(c.below(9)), Hook: c.below(6)}
	if c.below(3) == 0 {
		d.Kind = api.Struct + c.below(5)
	}
	d.Type = []string{"", "", "T", "[]U", "PANIC"}[c.below(5)]
	d.Text = []string{"", "a", "é\n", "\xff`"}[c.below(4)]
	if deep < 2 {
		return d
	}
	n := c.below(4)
	switch d.Kind {
	case api.Ptr:
		n = c.below(2)
	case api.Map:
		n *= 2
	}
	for i := range n {
		part := c.anyDesc(deep - 1)
		if d.Kind == api.Map && i%2 == 0 {
			part = api.Desc{Kind: api.Bool + c.below(3), Bits: uint64(c.below(90)), Type: "K" + strconv.Itoa(i), Hook: c.below(4)}
		}
		d.Parts = append(d.Parts, part)
		if d.Kind == api.Struct {
			d.Names = append(d.Names, "f"+strconv.Itoa(i))
		}
	}
	return d
}

// anySpec answers a spec, more often by v than by other verbs.
func (c *chance) anySpec() api.Spec {
	f := api.Spec{Verb: 'v', Wid: c.below(12) - 3, Prec: c.below(8) - 4}
	if c.below(2) == 0 {
		f.Verb = append(verbs, 'T')[c.below(len(verbs)+1)]
	}
	f.Plus, f.Minus, f.Sharp = c.below(3) == 0, c.below(3) == 0, c.below(2) == 0
	f.Space, f.Zero = c.below(4) == 0, c.below(4) == 0
	return f
}

// reckoning is a second way to what Show tells: over descriptors in form, with
// the row of those that are asked.
type reckoning struct {
	f     api.Spec
	hooks bool // those of the hooks 1 and 2 answer
	asked []api.Desc
}

// answer is what a descriptor's hook answers, if it does.
func answer(d api.Desc, f api.Spec) (string, bool) {
	return "<" + strconv.Itoa(d.Hook) + string(f.Verb) + ">", d.Hook == 1 || d.Hook == 2
}

func (r *reckoning) text(d api.Desc, depth int) string {
	if d.Kind == api.Nil {
		return r.nilText()
	}
	if r.hooks {
		r.asked = append(r.asked, d)
		if s, ok := answer(d, r.f); ok {
			return s
		}
	}
	if s, ok := r.plain(d, depth); ok {
		return s
	}
	alone := &reckoning{f: by("v")}
	return "%!" + string(r.f.Verb) + "(" + typeOf(d) + "=" + alone.text(d, 0) + ")"
}

func (r *reckoning) nilText() string {
	if r.f.Verb != 'v' {
		return "%!" + string(r.f.Verb) + "(<nil>)"
	}
	return filled("<nil>", r.f)
}

// filled is a text without broken runes or more than one byte for a rune,
// filled to the width.
func filled(s string, f api.Spec) string {
	for len(s) < f.Wid {
		switch {
		case f.Minus:
			s += " "
		case f.Zero:
			s = "0" + s
		default:
			s = " " + s
		}
	}
	return s
}

// typeOf is the type that a descriptor tells.
func typeOf(d api.Desc) string {
	if d.Type != "" {
		return d.Type
	}
	return strings.Fields("<nil> bool int8 int16 int32 int64 int uint8 uint16 uint32 uint64 uint float32 float64 complex64 complex128 string []uint8 struct array slice map ptr")[d.Kind]
}

// plain is the text by what d is; false, if its kind doesn't name the verb.
func (r *reckoning) plain(d api.Desc, depth int) (string, bool) {
	switch d.Kind {
	case api.Bool:
		return filled([]string{"false", "true"}[d.Bits], r.f), r.f.Verb == 't' || r.f.Verb == 'v'
	case api.Text:
		return quote.Text(d.Text, r.f)
	case api.Bytes:
		if r.f.Verb == 'd' || r.f.Verb == 'v' {
			return r.between(d, "[", "]", r.bytes(d.Text)), true
		}
		return quote.Text(d.Text, r.f)
	case api.Struct, api.Array, api.Slice, api.Map:
		opening, closing := "[", "]"
		if d.Kind == api.Struct {
			opening, closing = "{", "}"
		}
		if d.Kind == api.Map {
			opening = "map["
		}
		return r.between(d, opening, closing, r.parts(d, depth)), true
	case api.Ptr:
		return r.pointer(d, depth)
	}
	return numberBy(d, r.f)
}

func (r *reckoning) bytes(s string) []string {
	var l []string
	for _, b := range []byte(s) {
		number, _ := numberBy(api.Desc{Kind: api.Uint8, Bits: uint64(b)}, r.f)
		l = append(l, number)
	}
	return l
}

// parts are the texts of d's parts, with names; those of a map in pairs.
func (r *reckoning) parts(d api.Desc, depth int) []string {
	var l []string
	for i, part := range d.Parts {
		s := r.text(part, depth+1)
		switch {
		case d.Kind == api.Struct && r.f.Verb == 'v' && (r.f.Plus || r.f.Sharp):
			l = append(l, d.Names[i]+":"+s)
		case d.Kind == api.Map && i%2 == 1:
			l[len(l)-1] += ":" + s
		default:
			l = append(l, s)
		}
	}
	return l
}

func (r *reckoning) between(d api.Desc, opening, closing string, l []string) string {
	if r.f.Verb == 'v' && r.f.Sharp {
		return typeOf(d) + "{" + strings.Join(l, ", ") + "}"
	}
	return opening + strings.Join(l, " ") + closing
}

func (r *reckoning) pointer(d api.Desc, depth int) (string, bool) {
	address := api.Desc{Kind: api.Uint64, Bits: d.Bits}
	if len(d.Parts) == 0 {
		address.Bits = 0
	}
	if strings.ContainsRune("bdoxX", r.f.Verb) {
		return numberBy(address, r.f)
	}
	if r.f.Verb != 'v' {
		return "", false
	}
	if depth == 0 && len(d.Parts) == 1 && d.Parts[0].Kind >= api.Struct && d.Parts[0].Kind <= api.Map {
		return "&" + r.text(d.Parts[0], 1), true
	}
	if r.f.Sharp {
		inside := "0x" + strconv.FormatUint(address.Bits, 16)
		if len(d.Parts) == 0 {
			inside = "nil"
		}
		return "(" + typeOf(d) + ")(" + inside + ")", true
	}
	if len(d.Parts) == 0 {
		return filled("<nil>", r.f), true
	}
	f := r.f
	f.Plus, f.Sharp, f.Verb = false, true, 'x'
	return numberBy(address, f)
}

func TestAnyValueP121P122P125(t *testing.T) {
	c := chance(121)
	answered := 0
	for i := range 60000 {
		v, e := values.Build(c.anyDesc(1 + i%7))
		if e != api.OK {
			continue
		}
		d, f := values.Raw(v), c.anySpec()
		r := &reckoning{f: f, hooks: i%3 > 0}
		want := ""
		if f.Verb == 'T' {
			f.Verb = 's'
			want, _ = quote.Text(typeOf(d), f)
			f.Verb = 'T'
		} else {
			want = r.text(d, 0)
		}
		var asked []api.Desc
		ask := func(v values.Value, f api.Spec) (string, bool) {
			asked = append(asked, values.Raw(v))
			s, ok := answer(values.Raw(v), f)
			if ok {
				answered++
			}
			return s, ok
		}
		if !r.hooks {
			ask = nil
		}
		if got := Show(v, f, ask); got != want || !slices.EqualFunc(asked, r.asked, same) {
			t.Fatalf("%+v of %+v: %q, not %q; asked %+v, not %+v", f, d, got, want, asked, r.asked)
		}
		if again := values.Raw(v); !same(again, d) {
			t.Fatalf("%+v was %+v", again, d)
		}
	}
	if answered < 10000 {
		t.Error(answered)
	}
}

// The types of values that Go's own prints are held against.
type (
	empty struct{}
	flat  struct {
		A int
		B string
		C float64
		D uint8
	}
	nested struct {
		Inner flat
		List  []bool
		At    *flat
		Bytes []byte
		None  *int
	}
)

// descOf is the descriptor of a Go value.
func descOf(v reflect.Value) api.Desc {
	d := api.Desc{Type: v.Type().String()}
	switch v.Kind() {
	case reflect.Bool:
		d.Kind, d.Bits = api.Bool, oneIf(v.Bool())
	case reflect.Int:
		d.Kind, d.Bits = api.Int, uint64(v.Int())
	case reflect.Uint8:
		d.Kind, d.Bits = api.Uint8, v.Uint()
	case reflect.Float64:
		d.Kind, d.Bits = api.Float64, ofFloat(v.Float()).Bits
	case reflect.Complex128:
		d = ofComplex(v.Complex())
	case reflect.String:
		d.Kind, d.Text = api.Text, v.String()
	case reflect.Struct:
		d.Kind = api.Struct
		for i := range v.NumField() {
			d.Names = append(d.Names, v.Type().Field(i).Name)
			d.Parts = append(d.Parts, descOf(v.Field(i)))
		}
	case reflect.Pointer:
		d.Kind, d.Bits = api.Ptr, uint64(v.Pointer())
		if !v.IsNil() {
			d.Parts = append(d.Parts, descOf(v.Elem()))
		}
	case reflect.Map:
		d.Kind = api.Map
		for _, key := range v.MapKeys() {
			d.Parts = append(d.Parts, descOf(key), descOf(v.MapIndex(key)))
		}
	default:
		if b, ok := v.Interface().([]byte); ok {
			return ofBytes(string(b))
		}
		d.Kind = api.Slice
		for i := range v.Len() {
			d.Parts = append(d.Parts, descOf(v.Index(i)))
		}
	}
	return d
}

func TestAsGoPrintsP121(t *testing.T) {
	one := flat{-1, "é\n", 0.1, 255}
	number := 7
	both := []any{
		true, -5, uint8(7), 2.5, 1 - 2i, "tü\t", one,
		[]int{}, []int{1}, []int{1, -2, 3}, [2]int{4, 5}, []string{"", "a", ""}, []flat{one, {}}, [][]int{{1}, {}, {2, 3}},
		map[string]int{}, map[string]int{"b": 1, "a": 2, "c": -3}, map[int][]string{3: {"x"}, -1: {}}, empty{},
	}
	// Of these Go says the same by v alone.
	byV := append(both, [][]byte{[]byte("ab"), {}}, &one, &number, &[]int{1}, &map[bool]int{true: 1}, (*flat)(nil), []*flat{&one, nil}, []*int{&number}, nested{one, []bool{true}, &one, []byte("z"), nil}, &nested{one, []bool{}, nil, []byte{}, &number})
	compare := func(x any, directive string) {
		t.Helper()
		d := descOf(reflect.ValueOf(x))
		if got, want := Show(built(t, d), by(directive), nil), fmt.Sprintf("%"+directive, x); got != want {
			t.Errorf("%%%s of %+v: %q, not %q", directive, d, got, want)
		}
	}
	for _, x := range byV {
		for _, directive := range []string{"v", "+v", "#v", "9v", "-9v", "+9v", "T"} {
			compare(x, directive)
		}
	}
	// Go writes by the flags where a verb may not be.
	for _, x := range both {
		for _, directive := range []string{"d", "s", "x", "X", "t", "e", "c", "U", "b", "o", "z"} {
			compare(x, directive)
		}
	}
	for _, directive := range []string{"+d", "5d", "-5d", "05d", ".3d", "+q", "#x", "# o", "#U"} {
		compare([]int{1, 20, 300}, directive)
		compare(map[int]int{2: 30, 1: 40}, directive)
	}
}
