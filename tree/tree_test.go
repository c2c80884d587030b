package tree

import (
	"math"
	"slices"
	"strings"
	"testing"

	"platen/api"
	"platen/bad"
	"platen/buf"
	"platen/cplx"
	"platen/floats"
	"platen/ints"
	"platen/quote"
	"platen/values"
)

// verbs are all that the document names for a kind, and others.
var verbs = []rune{
	'v', 't', 'd', 'b', 'o', 'O', 'x', 'X', 'c', 'q', 'U', 's', 'e', 'E', 'f', 'F', 'g', 'G',
	'p', 'z', 'V', 'D', 'S', '%', ' ', 0, 'v' + 256, 'd' + 65536, 0x65e5, 0xd800, 0xfffd, 0x10ffff, 0x110000, -1, -'v', math.MinInt32, math.MaxInt32,
}

// by is the spec of which a directive says that much, without its %: flags, a
// width of one digit, a point and a precision of one digit, a verb.
func by(directive string) api.Spec {
	f := api.Spec{Wid: -1, Prec: -1}
	point := false
	for _, c := range directive {
		switch {
		case c == '+':
			f.Plus = true
		case c == '-':
			f.Minus = true
		case c == '#':
			f.Sharp = true
		case c == ' ':
			f.Space = true
		case c == '0' && f.Wid < 0 && !point:
			f.Zero = true
		case c == '.':
			point, f.Prec = true, 0
		case '0' <= c && c <= '9' && point:
			f.Prec = int(c - '0')
		case '0' <= c && c <= '9':
			f.Wid = int(c - '0')
		default:
			f.Verb = c
		}
	}
	return f
}

// specs are all flags by that verb, with widths and precisions, and then two
// with wrong ones.
func specs(verb rune) []api.Spec {
	l := []api.Spec{
		{Wid: api.MaxWidth + 5, Prec: math.MinInt, Verb: verb},
		{Wid: math.MinInt, Prec: math.MaxInt, Verb: verb},
	}
	for flags := range 32 {
		for _, wid := range []int{-1, 7} {
			for _, prec := range []int{-1, 0, 3} {
				l = append(l, api.Spec{
					Plus: flags&1 > 0, Minus: flags&2 > 0, Sharp: flags&4 > 0, Space: flags&8 > 0, Zero: flags&16 > 0,
					Wid: wid, Prec: prec, Verb: verb,
				})
			}
		}
	}
	return l
}

// built is the value of d.
func built(t *testing.T, d api.Desc) values.Value {
	t.Helper()
	v, e := values.Build(d)
	if e != api.OK {
		t.Fatalf("%+v: %v", d, e)
	}
	return v
}

// ofInt is an Int, ofText a Text, ofBytes Bytes.
func ofInt(n int) api.Desc                    { return api.Desc{Kind: api.Int, Bits: uint64(n)} }
func ofText(s string) api.Desc                { return api.Desc{Kind: api.Text, Text: s} }
func ofBytes(s string) api.Desc               { return api.Desc{Kind: api.Bytes, Text: s} }
func ofFloat(x float64) api.Desc              { return api.Desc{Kind: api.Float64, Bits: math.Float64bits(x)} }
func ofBool(is bool) api.Desc                 { return api.Desc{Kind: api.Bool, Bits: oneIf(is)} }
func of32(x float32) api.Desc                 { return api.Desc{Kind: api.Float32, Bits: uint64(math.Float32bits(x))} }
func ofUint(n uint64) api.Desc                { return api.Desc{Kind: api.Uint, Bits: n} }
func of(kind int, parts ...api.Desc) api.Desc { return api.Desc{Kind: kind, Parts: parts} }

func oneIf(is bool) uint64 {
	if is {
		return 1
	}
	return 0
}

// ofComplex is a Complex128.
func ofComplex(c complex128) api.Desc {
	return api.Desc{Kind: api.Complex128, Bits: math.Float64bits(real(c)), Imag: math.Float64bits(imag(c))}
}

// ofStruct has these parts by the names A, B and so on.
func ofStruct(parts ...api.Desc) api.Desc {
	d := of(api.Struct, parts...)
	for i := range parts {
		d.Names = append(d.Names, string(rune('A'+i)))
	}
	return d
}

// at is a pointer with that address.
func at(address uint64, leadsTo ...api.Desc) api.Desc {
	return api.Desc{Kind: api.Ptr, Bits: address, Parts: leadsTo}
}

// typed answers d with that type.
func typed(name string, d api.Desc) api.Desc {
	d.Type = name
	return d
}

// hooked answers d with that hook.
func hooked(hook int, d api.Desc) api.Desc {
	d.Hook = hook
	return d
}

// oneOfEach has a value of each kind but Nil, by their kinds.
func oneOfEach() []api.Desc {
	var l []api.Desc
	for kind := api.Bool; kind <= api.Bytes; kind++ {
		l = append(l, api.Desc{Kind: kind, Bits: 0x4041, Imag: 1, Text: "té\xff`"})
	}
	return append(l, ofStruct(ofInt(1), ofText("x")), of(api.Array, ofInt(-2)), of(api.Slice, ofInt(3), ofBool(true)), of(api.Map, ofText("k"), ofInt(4)), at(0xc0de, ofInt(5)))
}

// never fails the test if it is asked.
func never(t *testing.T) func(values.Value, api.Spec) (string, bool) {
	return func(v values.Value, f api.Spec) (string, bool) {
		t.Errorf("asked of %+v by %+v", values.Raw(v), f)
		return "", false
	}
}

// say is a text that is wanted of a descriptor by a directive.
type say struct {
	d         api.Desc
	directive string
	want      string
}

// hold asks for each of them, with a nil ask and with one that answers false.
func hold(t *testing.T, says []say) {
	t.Helper()
	no := func(values.Value, api.Spec) (string, bool) { return "no", false }
	for _, c := range says {
		v := built(t, c.d)
		if got := Show(v, by(c.directive), nil); got != c.want {
			t.Errorf("%%%s of %+v: %q, not %q", c.directive, c.d, got, c.want)
		}
		if got := Show(v, by(c.directive), no); got != c.want {
			t.Errorf("%%%s of %+v, asked: %q, not %q", c.directive, c.d, got, c.want)
		}
	}
}

// notNamed fails if one of the verbs that aren't named isn't Bad of d.
func notNamed(t *testing.T, d api.Desc, named, want string) {
	t.Helper()
	v := built(t, d)
	for _, verb := range verbs {
		if strings.ContainsRune(named, verb) {
			continue
		}
		for _, f := range specs(verb) {
			if got := Show(v, f, nil); got != "%!"+buf.Rune(verb)+want {
				t.Fatalf("%q, %+v of %+v: %q", verb, f, d, got)
			}
		}
	}
}

func TestTypeP121(t *testing.T) {
	names := []string{"<nil>", "bool", "int8", "int16", "int32", "int64", "int", "uint8", "uint16", "uint32", "uint64", "uint", "float32", "float64", "complex64", "complex128", "string", "[]uint8", "struct", "array", "slice", "map", "ptr"}
	for kind, name := range names {
		v := built(t, api.Desc{Kind: kind})
		if got := Show(v, by("T"), never(t)); got != name {
			t.Errorf("%d: %q, not %q", kind, got, name)
		}
		if kind == api.Nil {
			continue
		}
		v = built(t, typed("my.T", hooked(1, api.Desc{Kind: kind})))
		if got := Show(v, by("T"), never(t)); got != "my.T" {
			t.Errorf("%d: %q", kind, got)
		}
	}
	hold(t, []say{
		{ofInt(5), "T", "int"},
		{ofInt(5), "6T", "   int"},
		{ofInt(5), "-6T", "int   "},
		{ofInt(5), "06T", "000int"},
		{ofInt(5), "-06T", "int   "},
		{ofInt(5), ".2T", "in"},
		{ofInt(5), ".0T", ""},
		{ofInt(5), "4.2T", "  in"},
		{ofInt(5), "+# T", "int"},
		{ofBytes("ab"), "#T", "[]uint8"},
		{ofStruct(ofInt(1)), "9T", "   struct"},
		{api.Desc{}, "7T", "  <nil>"},
		{api.Desc{}, ".2T", "<n"},
		{at(0), "T", "ptr"},
	})
	for _, f := range specs('T') {
		s := f
		s.Verb = 's'
		want, _ := quote.Text("array", s)
		if got := Show(built(t, of(api.Array)), f, never(t)); got != want {
			t.Fatalf("%+v: %q, not %q", f, got, want)
		}
	}
}

// foreign is a Value that Build didn't make.
type foreign struct{}

func (foreign) Kind() int { panic("asked for its kind") }

func TestNilP121(t *testing.T) {
	hold(t, []say{
		{api.Desc{}, "v", "<nil>"},
		{api.Desc{}, "+v", "<nil>"},
		{api.Desc{}, "#v", "<nil>"},
		{api.Desc{}, "7v", "  <nil>"},
		{api.Desc{}, "-7v", "<nil>  "},
		{api.Desc{}, "07v", "00<nil>"},
		{api.Desc{}, "#7v", "  <nil>"},
		{api.Desc{}, ".1v", "<nil>"},
		{api.Desc{}, "d", "%!d(<nil>)"},
		{api.Desc{}, "9d", "%!d(<nil>)"},
		{api.Desc{}, "s", "%!s(<nil>)"},
	})
	for _, v := range []values.Value{nil, built(t, api.Desc{}), foreign{}, (*foreign)(nil)} {
		for _, verb := range verbs {
			for _, f := range specs(verb) {
				want := "%!" + buf.Rune(verb) + "(<nil>)"
				if verb == 'v' {
					want = buf.Pad("<nil>", f)
				}
				if got := Show(v, f, never(t)); got != want {
					t.Fatalf("%+v: %q, not %q", f, got, want)
				}
			}
		}
		if Show(v, by("T"), never(t)) != "<nil>" {
			t.Error(Show(v, by("T"), nil))
		}
	}
}

func TestBoolP121(t *testing.T) {
	hold(t, []say{
		{ofBool(true), "t", "true"},
		{ofBool(false), "t", "false"},
		{ofBool(true), "v", "true"},
		{ofBool(false), "v", "false"},
		{typed("T", ofBool(true)), "#v", "true"},
		{ofBool(true), "+v", "true"},
		{ofBool(true), "6t", "  true"},
		{ofBool(true), "-6v", "true  "},
		{ofBool(false), "07t", "00false"},
		{ofBool(false), ".1t", "false"},
		{ofBool(true), "d", "%!d(bool=true)"},
		{typed("T", ofBool(false)), "s", "%!s(T=false)"},
	})
	notNamed(t, ofBool(true), "tv", "(bool=true)")
	for _, verb := range []rune{'t', 'v'} {
		for _, f := range specs(verb) {
			if got := Show(built(t, ofBool(false)), f, nil); got != buf.Pad("false", f) {
				t.Fatalf("%+v: %q", f, got)
			}
		}
	}
}

// numberBy is what the chapters 3, 6 and 7 write of a number.
func numberBy(d api.Desc, f api.Spec) (string, bool) {
	if f.Verb == 'v' {
		f.Plus = false
	}
	switch d.Kind {
	case api.Int8, api.Int16, api.Int32, api.Int64, api.Int:
		return ints.Signed(int64(d.Bits), f)
	case api.Float32:
		return floats.Float(d.Bits, 32, f)
	case api.Float64:
		return floats.Float(d.Bits, 64, f)
	case api.Complex64:
		return cplx.Complex(d.Bits, d.Imag, 64, f)
	case api.Complex128:
		return cplx.Complex(d.Bits, d.Imag, 128, f)
	}
	return ints.Unsigned(d.Bits, f)
}

func TestNumbersP121(t *testing.T) {
	hold(t, []say{
		{ofInt(5), "d", "5"},
		{ofInt(5), "+d", "+5"},
		{ofInt(5), "v", "5"},
		{ofInt(5), "+v", "5"},
		{ofInt(5), "+ v", " 5"},
		{ofInt(-5), "+v", "-5"},
		{ofInt(255), "#v", "255"},
		{ofUint(255), "#v", "0xff"},
		{ofUint(255), "+#v", "0xff"},
		{ofUint(255), "+#x", "+0xff"},
		{api.Desc{Kind: api.Int8, Bits: 255}, "d", "-1"},
		{api.Desc{Kind: api.Uint8, Bits: 0xfff}, "d", "255"},
		{ofInt(65), "c", "A"},
		{ofInt(65), "q", "'A'"},
		{ofInt(65), "#U", "U+0041 'A'"},
		{ofInt(-42), "06d", "-00042"},
		{ofInt(7), "4.2d", "  07"},
		{ofInt(8), "#o", "010"},
		{ofInt(8), "O", "0o10"},
		{ofInt(5), "b", "101"},
		{ofInt(5), "z", "%!z(int=5)"},
		{ofInt(5), "+9z", "%!z(int=5)"},
		{typed("T", ofUint(5)), "s", "%!s(T=5)"},
		{ofUint(5), "e", "%!e(uint=5)"},
		{ofFloat(1.5), "v", "1.5"},
		{ofFloat(1.5), "+v", "1.5"},
		{ofFloat(1.5), "#v", "1.5"},
		{ofFloat(1.5), "+g", "+1.5"},
		{ofFloat(1.5), "8.2f", "    1.50"},
		{ofFloat(1.5), "e", "1.500000e+00"},
		{ofFloat(1.5), "d", "%!d(float64=1.5)"},
		{of32(0.1), "v", "0.1"},
		{of32(0.1), "s", "%!s(float32=0.1)"},
		{ofComplex(1 - 2i), "v", "(1-2i)"},
		{ofComplex(1 + 2i), "+v", "(1+2i)"},
		{ofComplex(1 + 2i), "+f", "(+1.000000+2.000000i)"},
		{ofComplex(1 + 2i), "3v", "(  1 +2i)"},
		{ofComplex(1 + 2i), "d", "%!d(complex128=(1+2i))"},
		{api.Desc{Kind: api.Complex64, Bits: 0x3f800000, Imag: 0xbf800000}, "t", "%!t(complex64=(1-1i))"},
	})
	for kind := api.Int8; kind <= api.Complex128; kind++ {
		for _, bits := range []uint64{0, 1, 65, 0x3fc00000, 0x3ff8000000000000, math.MaxUint64} {
			v := built(t, api.Desc{Kind: kind, Bits: bits, Imag: ^bits})
			d := values.Raw(v)
			for _, verb := range verbs {
				for _, f := range specs(verb) {
					want, ok := numberBy(d, f)
					if !ok {
						alone, _ := numberBy(d, by("v"))
						want = bad.Verb(verb, values.Type(v), alone)
					}
					if got := Show(v, f, nil); got != want {
						t.Fatalf("%+v of %+v: %q, not %q", f, d, got, want)
					}
				}
			}
		}
	}
}

func TestTextP121(t *testing.T) {
	hold(t, []say{
		{ofText("é\n"), "s", "é\n"},
		{ofText("éab"), "v", "éab"},
		{ofText("éab"), "+v", "éab"},
		{ofText("éab"), ".2v", "éa"},
		{ofText("éab"), "5s", "  éab"},
		{ofText("éab"), "-5s", "éab  "},
		{ofText("éab"), "05s", "00éab"},
		{ofText("é\n"), "#v", `"é\n"`},
		{typed("T", ofText("a")), "#v", `"a"`},
		{ofText("é"), "+q", `"\u00e9"`},
		{ofText("a"), "#q", "`a`"},
		{ofText("ab"), "x", "6162"},
		{ofText("az"), "# X", "0X61 0X7A"},
		{ofText("x"), "d", "%!d(string=x)"},
		{typed("T", ofText("x")), "9t", "%!t(T=x)"},
		{ofText(""), "v", ""},
		{ofText(""), "c", "%!c(string=)"},
	})
	notNamed(t, ofText("a\n"), "svqxX", "(string=a\n)")
	for _, verb := range []rune{'s', 'v', 'q', 'x', 'X'} {
		for _, f := range specs(verb) {
			want, _ := quote.Text("té\xff`\n", f)
			if got := Show(built(t, ofText("té\xff`\n")), f, nil); got != want {
				t.Fatalf("%+v: %q, not %q", f, got, want)
			}
		}
	}
}

func TestBytesP121(t *testing.T) {
	hold(t, []say{
		{ofBytes("ab"), "s", "ab"},
		{ofBytes("ab"), ".1s", "a"},
		{ofBytes("ab"), "q", `"ab"`},
		{ofBytes("ab"), "x", "6162"},
		{ofBytes("az"), "X", "617A"},
		{ofBytes("ab"), "# x", "0x61 0x62"},
		{ofBytes("ab"), "v", "[97 98]"},
		{ofBytes("ab"), "+v", "[97 98]"},
		{ofBytes("ab"), " v", "[ 97  98]"},
		{ofBytes("ab"), "d", "[97 98]"},
		{ofBytes("ab"), "+d", "[+97 +98]"},
		{ofBytes("ab"), "#d", "[97 98]"},
		{ofBytes("ab"), "4d", "[  97   98]"},
		{ofBytes("ab"), "04v", "[0097 0098]"},
		{ofBytes("ab"), "-4v", "[97   98  ]"},
		{ofBytes("ab"), ".3d", "[097 098]"},
		{ofBytes("ab"), "#v", "[]uint8{0x61, 0x62}"},
		{ofBytes("ab"), "+#v", "[]uint8{0x61, 0x62}"},
		{ofBytes("a"), "#06v", "[]uint8{0x0061}"},
		{typed("T", ofBytes("ab")), "#v", "T{0x61, 0x62}"},
		{ofBytes(""), "v", "[]"},
		{ofBytes(""), "#v", "[]uint8{}"},
		{ofBytes(""), "d", "[]"},
		{ofBytes(""), "s", ""},
		{ofBytes("\xff\x00"), "v", "[255 0]"},
		{ofBytes("\x00"), ".0d", "[]"},
		{ofBytes("\x00a\x00"), ".0d", "[ 97 ]"},
		{ofBytes("ab"), "t", "%!t([]uint8=[97 98])"},
		{ofBytes("ab"), "#9o", "%!o([]uint8=[97 98])"},
		{typed("T", ofBytes("")), "c", "%!c(T=[])"},
	})
	notNamed(t, ofBytes("é"), "sxXqdv", "([]uint8=[195 169])")
	for _, verb := range []rune{'s', 'q', 'x', 'X'} {
		for _, f := range specs(verb) {
			want, _ := quote.Text("té\xff`\n", f)
			if got := Show(built(t, ofBytes("té\xff`\n")), f, nil); got != want {
				t.Fatalf("%+v: %q, not %q", f, got, want)
			}
		}
	}
}

func TestStructsP121(t *testing.T) {
	d := typed("T", ofStruct(ofInt(1), ofText("x")))
	inner := typed("U", ofStruct(d, api.Desc{}, typed("E", ofStruct())))
	hold(t, []say{
		{d, "v", "{1 x}"},
		{d, "+v", "{A:1 B:x}"},
		{d, "#v", `T{A:1, B:"x"}`},
		{d, "+#v", `T{A:1, B:"x"}`},
		{d, "d", "{1 %!d(string=x)}"},
		{d, "+d", "{+1 %!d(string=x)}"},
		{d, "#d", "{1 %!d(string=x)}"},
		{d, "+s", "{%!s(int=1) x}"},
		{d, "#x", "{0x1 0x78}"},
		{d, "q", `{'\x01' "x"}`},
		{d, "z", "{%!z(int=1) %!z(string=x)}"},
		{d, "3v", "{  1   x}"},
		{d, "+3v", "{A:  1 B:  x}"},
		{d, "#4v", `T{A:   1, B: "x"}`},
		{d, "-3.0v", "{1      }"},
		{ofStruct(d, d), "+v", "{A:{A:1 B:x} B:{A:1 B:x}}"},
		{inner, "v", "{{1 x} <nil> {}}"},
		{inner, "+v", "{A:{A:1 B:x} B:<nil> C:{}}"},
		{inner, "#v", `U{A:T{A:1, B:"x"}, B:<nil>, C:E{}}`},
		{inner, "d", "{{1 %!d(string=x)} %!d(<nil>) {}}"},
		{inner, "6v", "{{     1      x}  <nil> {}}"},
		{ofStruct(), "v", "{}"},
		{ofStruct(), "+v", "{}"},
		{ofStruct(), "#v", "struct{}"},
		{ofStruct(), "9z", "{}"},
		{api.Desc{Kind: api.Struct, Names: []string{"_", "long_Name9"}, Parts: []api.Desc{ofUint(1), ofBool(true)}}, "#v", "struct{_:0x1, long_Name9:true}"},
		{api.Desc{Kind: api.Struct, Names: []string{"b", "a"}, Parts: []api.Desc{ofUint(1), ofBool(true)}}, "+v", "{b:1 a:true}"},
	})
}

func TestListsP121(t *testing.T) {
	for kind, name := range map[int]string{api.Array: "array", api.Slice: "slice"} {
		hold(t, []say{
			{of(kind), "v", "[]"},
			{of(kind), "+v", "[]"},
			{of(kind), "z", "[]"},
			{of(kind), "#v", name + "{}"},
			{typed("[]T", of(kind)), "#v", "[]T{}"},
			{of(kind, ofInt(1)), "v", "[1]"},
			{of(kind, ofInt(1), ofInt(-2), ofInt(3)), "v", "[1 -2 3]"},
			{of(kind, ofInt(1), ofInt(-2)), "+v", "[1 -2]"},
			{of(kind, ofInt(1), ofInt(-2)), "+d", "[+1 -2]"},
			{of(kind, ofInt(1), ofInt(-2)), "#v", name + "{1, -2}"},
			{of(kind, ofInt(1), ofInt(-2)), "+#v", name + "{1, -2}"},
			{typed("[]T", of(kind, ofUint(1), ofText("a"))), "#v", `[]T{0x1, "a"}`},
			{of(kind, ofInt(10), ofInt(11)), "#x", "[0xa 0xb]"},
			{of(kind, ofInt(1), ofInt(2)), "03d", "[001 002]"},
			{of(kind, ofFloat(1), ofFloat(2.5)), ".1f", "[1.0 2.5]"},
			{of(kind, ofText("a"), ofText(""), ofText("b")), "v", "[a  b]"},
			{of(kind, ofText("a"), ofInt(1)), "s", "[a %!s(int=1)]"},
			{of(kind, ofText("a"), ofInt(1)), "T", name},
			{of(kind, api.Desc{}, ofBool(true)), "t", "[%!t(<nil>) true]"},
			{of(kind, of(kind), of(kind, ofInt(1)), ofBytes("a")), "v", "[[] [1] [97]]"},
			{of(kind, of(kind), of(kind, ofInt(1)), ofBytes("a")), "#v", name + "{" + name + "{}, " + name + "{1}, []uint8{0x61}}"},
		})
	}
}

func TestMapsP121(t *testing.T) {
	d := of(api.Map, ofText("b"), ofInt(2), ofText("a"), ofInt(1))
	hold(t, []say{
		{of(api.Map, ofText("a"), ofInt(1)), "v", "map[a:1]"},
		{d, "v", "map[a:1 b:2]"},
		{d, "+v", "map[a:1 b:2]"},
		{d, "#v", `map{"a":1, "b":2}`},
		{d, "+#v", `map{"a":1, "b":2}`},
		{typed("M", d), "#v", `M{"a":1, "b":2}`},
		{d, "d", "map[%!d(string=a):1 %!d(string=b):2]"},
		{d, "s", "map[a:%!s(int=1) b:%!s(int=2)]"},
		{d, "3v", "map[  a:  1   b:  2]"},
		{d, "x", "map[61:1 62:2]"},
		{of(api.Map), "v", "map[]"},
		{of(api.Map), "#v", "map{}"},
		{of(api.Map), "z", "map[]"},
		{of(api.Map, ofInt(1), of(api.Map, ofBool(true), api.Desc{})), "v", "map[1:map[true:<nil>]]"},
		{of(api.Map, ofInt(-1), ofText(":"), ofInt(-10), of(api.Slice, ofInt(1), ofInt(2))), "v", "map[-10:[1 2] -1::]"},
		{of(api.Map, ofUint(2), ofStruct(ofInt(3)), ofUint(1), ofStruct()), "+v", "map[1:{} 2:{A:3}]"},
		{of(api.Map, ofUint(2), ofStruct(ofInt(3)), ofUint(1), ofStruct()), "#v", "map{0x1:struct{}, 0x2:struct{A:3}}"},
	})
}

func TestPointersP121(t *testing.T) {
	toInt, toPtr := at(0xc0de, ofInt(5)), at(255, at(7, ofStruct()))
	hold(t, []say{
		{toInt, "b", "1100000011011110"},
		{toInt, "d", "49374"},
		{toInt, "+d", "+49374"},
		{toInt, "o", "140336"},
		{toInt, "#o", "0140336"},
		{toInt, "x", "c0de"},
		{toInt, "#X", "0XC0DE"},
		{toInt, "08x", "0000c0de"},
		{toInt, ".6x", "00c0de"},
		{toInt, "v", "0xc0de"},
		{toInt, "+v", "0xc0de"},
		{toInt, " v", " 0xc0de"},
		{toInt, "8v", "  0xc0de"},
		{toInt, "-8v", "0xc0de  "},
		{toInt, "08v", "0x00c0de"},
		{toInt, ".6v", "0x00c0de"},
		{toInt, "#v", "(ptr)(0xc0de)"},
		{toInt, "+#v", "(ptr)(0xc0de)"},
		{toInt, "#- 09.9v", "(ptr)(0xc0de)"},
		{typed("*T", toInt), "#v", "(*T)(0xc0de)"},
		{toPtr, "v", "0xff"},
		{toPtr, "#v", "(ptr)(0xff)"},
		{toPtr, "d", "255"},
		{at(0, ofInt(5)), "v", "0x0"},
		{at(0, ofInt(5)), ".0v", ""},
		{at(0, ofInt(5)), "#.0v", "(ptr)(0x0)"},
		{at(1, api.Desc{}), "v", "0x1"},
		{at(1, ofBytes("a")), "v", "0x1"},
		{at(1, ofText("a")), "v", "0x1"},
		{at(math.MaxUint64, ofText("a")), "v", "0xffffffffffffffff"},
		{at(0), "v", "<nil>"},
		{at(9), "v", "<nil>"},
		{at(9), "+v", "<nil>"},
		{at(9), "7v", "  <nil>"},
		{at(9), "-7v", "<nil>  "},
		{at(9), "07v", "00<nil>"},
		{at(9), ".1v", "<nil>"},
		{at(9), "#v", "(ptr)(nil)"},
		{at(9), "#9v", "(ptr)(nil)"},
		{typed("*T", at(9)), "+#v", "(*T)(nil)"},
		{at(9), "d", "0"},
		{at(9), "#x", "0x0"},
		{at(9), "+3b", " +0"},
		{at(9), "s", "%!s(ptr=<nil>)"},
		{toInt, "#8O", "%!O(ptr=0xc0de)"},
		{typed("*T", toInt), "p", "%!p(*T=0xc0de)"},
	})
	notNamed(t, at(10, ofInt(1)), "bdoxXv", "(ptr=0xa)")
	notNamed(t, at(10), "bdoxXv", "(ptr=<nil>)")
	notNamed(t, at(10, ofStruct(ofInt(1))), "bdoxXv", "(ptr=&{1})")
}

func TestPointersByDepthP121(t *testing.T) {
	d := typed("T", ofStruct(ofInt(1), ofText("x")))
	hold(t, []say{
		{at(0, d), "v", "&{1 x}"},
		{at(9, d), "+v", "&{A:1 B:x}"},
		{at(9, d), "#v", `&T{A:1, B:"x"}`},
		{typed("*T", at(9, d)), "#v", `&T{A:1, B:"x"}`},
		{at(9, d), "3v", "&{  1   x}"},
		{at(9, d), "d", "9"},
		{at(9, d), "x", "9"},
		{at(9, d), "s", "%!s(ptr=&{1 x})"},
		{at(9, of(api.Array, ofInt(1))), "v", "&[1]"},
		{at(9, of(api.Slice, ofInt(1))), "v", "&[1]"},
		{at(9, of(api.Slice, ofUint(1))), "#v", "&slice{0x1}"},
		{at(9, of(api.Map, ofInt(1), ofInt(2))), "v", "&map[1:2]"},
		{at(9, of(api.Map)), "#v", "&map{}"},
		{of(api.Slice, at(0, d)), "v", "[0x0]"},
		{of(api.Slice, at(9, d), at(9)), "v", "[0x9 <nil>]"},
		{of(api.Slice, at(9, d), at(9)), "5v", "[  0x9 <nil>]"},
		{of(api.Slice, at(9, d), typed("*T", at(9))), "#v", "slice{(ptr)(0x9), (*T)(nil)}"},
		{ofStruct(at(9, d)), "+v", "{A:0x9}"},
		{of(api.Map, ofInt(1), at(9, of(api.Slice))), "v", "map[1:0x9]"},
		{at(8, ofStruct(at(9, d), at(7))), "v", "&{0x9 <nil>}"},
		{at(8, ofStruct(at(9, d), at(7))), "#v", "&struct{A:(ptr)(0x9), B:(ptr)(nil)}"},
		{at(8, at(9, d)), "v", "0x8"},
		// What can't be printed is shown as of depth 0, wherever it stands.
		{of(api.Slice, at(9, d)), "s", "[%!s(ptr=&{1 x})]"},
		{of(api.Slice, of(api.Slice, at(9, d))), "+#s", "[[%!s(ptr=&{1 x})]]"},
	})
}

func TestBadP122(t *testing.T) {
	for _, c := range []struct {
		d    api.Desc
		verb rune
		want string
	}{
		{api.Desc{}, 'd', "%!d(<nil>)"},
		{api.Desc{}, 'v', "%!v(<nil>)"},
		{ofBool(true), 'd', "%!d(bool=true)"},
		{typed("T", ofInt(-5)), 'z', "%!z(T=-5)"},
		{ofInt(5), 'd', "%!d(int=5)"},
		{ofInt(5), 'T', "%!T(int=5)"},
		{ofInt(5), 'v', "%!v(int=5)"},
		{ofUint(255), 'é', "%!é(uint=255)"},
		{ofFloat(0.1), -1, "%!\ufffd(float64=0.1)"},
		{ofComplex(1i), 0, "%!\x00(complex128=(0+1i))"},
		{ofText("a\n"), 'd', "%!d(string=a\n)"},
		{ofBytes("ab"), 't', "%!t([]uint8=[97 98])"},
		{typed("T", ofStruct(ofInt(1), ofText("x"))), 'd', "%!d(T={1 x})"},
		{of(api.Array, ofInt(1), api.Desc{}), 'd', "%!d(array=[1 <nil>])"},
		{of(api.Slice, at(9, ofStruct())), 's', "%!s(slice=[0x9])"},
		{of(api.Map, ofInt(1), ofInt(2)), 's', "%!s(map=map[1:2])"},
		{at(9), 's', "%!s(ptr=<nil>)"},
		{at(9, ofInt(1)), 's', "%!s(ptr=0x9)"},
		{at(9, ofStruct(ofInt(1))), 's', "%!s(ptr=&{1})"},
	} {
		if got := Bad(built(t, hooked(3, c.d)), c.verb); got != c.want {
			t.Errorf("%q of %+v: %q, not %q", c.verb, c.d, got, c.want)
		}
	}
	for _, verb := range append(verbs, 'T') {
		for _, v := range []values.Value{nil, foreign{}, (*foreign)(nil)} {
			if got := Bad(v, verb); got != bad.Nil(verb) {
				t.Errorf("%q: %q", verb, got)
			}
		}
		for _, d := range oneOfEach() {
			v := built(t, d)
			if got := Bad(v, verb); got != bad.Verb(verb, values.Type(v), Show(v, by("v"), nil)) {
				t.Errorf("%q of %+v: %q", verb, d, got)
			}
		}
	}
}

func TestListIsItsItemsP123(t *testing.T) {
	items := append(oneOfEach(), api.Desc{}, ofText(""), ofBytes(""), at(0), at(1, ofStruct()), of(api.Slice))
	for _, verb := range verbs {
		for _, f := range specs(verb)[:60] {
			opening, gap, closing := "[", " ", "]"
			if f.Verb == 'v' && f.Sharp {
				opening, gap, closing = "slice{", ", ", "}"
			}
			// What an item is in a list alone it is among others.
			var parts []string
			for _, item := range items {
				s := Show(built(t, of(api.Slice, item)), f, nil)
				if !strings.HasPrefix(s, opening) || !strings.HasSuffix(s, closing) {
					t.Fatalf("%+v: %q", f, s)
				}
				part := s[len(opening) : len(s)-len(closing)]
				if item.Kind != api.Ptr && part != Show(built(t, item), f, nil) {
					t.Fatalf("%+v of %+v: %q", f, item, part)
				}
				parts = append(parts, part)
			}
			want := opening + strings.Join(parts, gap) + closing
			if got := Show(built(t, of(api.Slice, items...)), f, nil); got != want {
				t.Fatalf("%+v: %q, not %q", f, got, want)
			}
		}
	}
}

// asked keeps the types of the values that ask was asked of, and answers true
// of those whose hook is 1.
type asked struct {
	t     *testing.T
	f     api.Spec
	types []string
}

func (a *asked) ask(v values.Value, f api.Spec) (string, bool) {
	if f != a.f {
		a.t.Errorf("%+v, not %+v", f, a.f)
	}
	a.types = append(a.types, values.Type(v))
	return "<" + values.Type(v) + ">", values.Hook(v) == 1
}

// holdAsked fails if the text isn't that, or if others were asked, or in
// another order.
func holdAsked(t *testing.T, d api.Desc, directive, want string, types ...string) {
	t.Helper()
	a := &asked{t: t, f: by(directive)}
	if got := Show(built(t, d), a.f, a.ask); got != want {
		t.Errorf("%%%s: %q, not %q", directive, got, want)
	}
	if !slices.Equal(a.types, types) {
		t.Errorf("%%%s: %q were asked, not %q", directive, a.types, types)
	}
}

func TestNoHookWhereAVerbMayNotBeP124(t *testing.T) {
	one := typed("I", hooked(1, ofInt(1)))
	d := typed("P", at(9, typed("T", ofStruct(one, one))))
	// Without the bad verb the items are asked.
	holdAsked(t, d, "v", "&{<I> <I>}", "P", "T", "I", "I")
	holdAsked(t, d, "s", "%!s(P=&{1 1})", "P")
	holdAsked(t, of(api.Slice, d, one), "t", "[%!t(P=&{1 1}) <I>]", "slice", "P", "I")
	holdAsked(t, d, "d", "9", "P")
	holdAsked(t, typed("B", ofBool(true)), "d", "%!d(B=true)", "B")
	holdAsked(t, typed("B", hooked(1, ofBool(true))), "d", "<B>", "B")
	if got := Bad(built(t, typed("B", hooked(1, ofBool(true)))), 'd'); got != "%!d(B=true)" {
		t.Error(got)
	}
}

func TestAskOrderP125(t *testing.T) {
	key, value := typed("K", ofText("k")), typed("V", of(api.Slice, typed("I", ofInt(1)), api.Desc{}, typed("J", ofBytes("ab"))))
	m := typed("M", of(api.Map, key, value, typed("L", ofText("a")), typed("P", at(9, typed("T", ofStruct())))))
	s := typed("S", ofStruct(m, typed("N", at(0)), typed("A", of(api.Array, typed("C", ofComplex(1))))))
	holdAsked(t, s, "v", "{map[a:0x9 k:[1 <nil> [97 98]]] <nil> [(1+0i)]}", "S", "M", "L", "P", "K", "V", "I", "J", "N", "A", "C")
	holdAsked(t, s, "+v", "{A:map[a:0x9 k:[1 <nil> [97 98]]] B:<nil> C:[(1+0i)]}", "S", "M", "L", "P", "K", "V", "I", "J", "N", "A", "C")
	holdAsked(t, s, "z", "{map[%!z(L=a):%!z(P=&{}) %!z(K=k):[%!z(I=1) %!z(<nil>) %!z(J=[97 98])]] %!z(N=<nil>) [%!z(C=(1+0i))]}", "S", "M", "L", "P", "K", "V", "I", "J", "N", "A", "C")
	holdAsked(t, typed("Q", at(3, s)), "v", "&{map[a:0x9 k:[1 <nil> [97 98]]] <nil> [(1+0i)]}", "Q", "S", "M", "L", "P", "K", "V", "I", "J", "N", "A", "C")
	holdAsked(t, typed("Q", at(3, s)), "x", "3", "Q")
	holdAsked(t, typed("Q", at(3, typed("I", ofInt(1)))), "v", "0x3", "Q")
	holdAsked(t, s, "T", "S")

	// Of no value within one of which it answered.
	holdAsked(t, hooked(1, s), "v", "<S>", "S")
	holdAsked(t, hooked(1, s), "#v", "<S>", "S")
	holdAsked(t, typed("Q", at(3, hooked(1, s))), "9v", "&<S>", "Q", "S")
	holdAsked(t, typed("Q", hooked(1, at(3, s))), "v", "<Q>", "Q")
	m.Parts[1] = hooked(1, value)
	m.Parts[2] = hooked(1, m.Parts[2])
	holdAsked(t, m, "5v", "map[<L>:  0x9     k:<V>]", "M", "L", "P", "K", "V")
	holdAsked(t, m, "#v", `M{<L>:(P)(0x9), "k":<V>}`, "M", "L", "P", "K", "V")
	holdAsked(t, typed("N", hooked(1, at(0))), "#v", "<N>", "N")
	holdAsked(t, typed("J", hooked(1, ofBytes("ab"))), "v", "<J>", "J")
	holdAsked(t, hooked(1, api.Desc{}), "v", "<nil>")
	holdAsked(t, ofStruct(hooked(1, api.Desc{})), "d", "{%!d(<nil>)}", "struct")
}

func TestWhatIsAskedP125(t *testing.T) {
	// ask is handed the values themselves: their Raw is the part's.
	d := values.Raw(built(t, hooked(2, ofStruct(hooked(-3, ofInt(-1)), hooked(4, of(api.Map, ofText("k"), hooked(5, ofBytes("b")))), at(7)))))
	var raws []api.Desc
	f := api.Spec{Plus: true, Space: true, Wid: api.MaxWidth + 1, Prec: -7, Verb: 'v'}
	Show(built(t, d), f, func(v values.Value, got api.Spec) (string, bool) {
		if got != f {
			t.Errorf("%+v", got)
		}
		raws = append(raws, values.Raw(v))
		return "", false
	})
	m := d.Parts[1]
	want := []api.Desc{d, d.Parts[0], m, m.Parts[0], m.Parts[1], d.Parts[2]}
	if !slices.EqualFunc(raws, want, same) {
		t.Errorf("%+v, not %+v", raws, want)
	}
}

// same tells whether two descriptors are the same.
func same(a, b api.Desc) bool {
	return a.Kind == b.Kind && a.Type == b.Type && a.Bits == b.Bits && a.Imag == b.Imag && a.Text == b.Text && a.Hook == b.Hook && slices.Equal(a.Names, b.Names) && slices.EqualFunc(a.Parts, b.Parts, same)
}

func TestAskThatPanicsR1(t *testing.T) {
	d := ofStruct(typed("I", hooked(1, ofInt(1))), typed("J", ofInt(2)), typed("K", hooked(1, ofInt(3))))
	ask := func(v values.Value, f api.Spec) (string, bool) {
		if values.Type(v) == "J" {
			panic("boo")
		}
		return "<" + values.Type(v) + ">", values.Hook(v) == 1
	}
	if got := Show(built(t, d), by("v"), ask); got != "{<I> 2 <K>}" {
		t.Error(got)
	}
}
