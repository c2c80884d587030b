package tree

import (
	"platen/api"
	"platen/bad"
	"platen/buf"
	"platen/cplx"
	"platen/floats"
	"platen/ints"
	"platen/quote"
	"platen/values"
)

const nilText = "<nil>"

// writer is a Show under way: all values in it are written by one spec, and
// one function is asked of them.
type writer struct {
	f   api.Spec
	ask func(v values.Value, f api.Spec) (string, bool)
}

// written answers the text of v, a value of that depth.
func (w writer) written(v values.Value, depth int) string {
	shape := shapeOf(v)
	if shape == nil {
		return w.nothing()
	}
	if s, ok := w.asked(v); ok {
		return s
	}
	if s, ok := w.shaped(shape, values.Type(v), depth); ok {
		return s
	}
	return Bad(v, w.f.Verb)
}

// nothing answers the text of Nil, of which ask is not asked.
func (w writer) nothing() string {
	if w.f.Verb == 'v' {
		return buf.Pad(nilText, w.f)
	}
	return bad.Nil(w.f.Verb)
}

// asked answers what ask does. One that panics counts as a nil one: no print
// panics, whatever it is handed.
func (w writer) asked(v values.Value) (s string, ok bool) {
	if w.ask == nil {
		return "", false
	}
	defer func() {
		if recover() != nil {
			s, ok = "", false
		}
	}()
	return w.ask(v, w.f)
}

// shaped answers the text of a value of that shape and that type, and whether
// the verb is one that its kind has.
func (w writer) shaped(shape any, typeName string, depth int) (string, bool) {
	switch x := shape.(type) {
	case truth:
		return w.truth(x)
	case signed:
		return ints.Signed(int64(x), w.forNumbers())
	case unsigned:
		return ints.Unsigned(uint64(x), w.forNumbers())
	case float:
		return floats.Float(x.bits, x.size, w.forNumbers())
	case pair:
		return cplx.Complex(x.re, x.im, x.size, w.forNumbers())
	case text:
		return quote.Text(string(x), w.f)
	case octets:
		return w.octets(x, typeName)
	case structure:
		return w.enclosed(typeName, "{", "}", w.fieldsOf(x, depth+1)), true
	case list:
		return w.enclosed(typeName, "[", "]", w.itemsOf(x, depth+1)), true
	case dictionary:
		return w.enclosed(typeName, "map[", "]", w.entriesOf(x, depth+1)), true
	case pointer:
		return w.pointer(x, typeName, depth)
	}
	return "", false
}

// forNumbers answers the spec that numbers are written by: by v Plus asks for
// names, not for signs.
func (w writer) forNumbers() api.Spec {
	f := w.f
	f.Plus = f.Plus && f.Verb != 'v'
	return f
}

// asSyntax tells whether values are written as in a program's text.
func (w writer) asSyntax() bool { return w.f.Verb == 'v' && w.f.Sharp }

// withNames tells whether the fields of structs stand behind their names.
func (w writer) withNames() bool { return w.f.Verb == 'v' && (w.f.Plus || w.f.Sharp) }

func (w writer) truth(x truth) (string, bool) {
	switch {
	case w.f.Verb != 't' && w.f.Verb != 'v':
		return "", false
	case bool(x):
		return buf.Pad("true", w.f), true
	}
	return buf.Pad("false", w.f), true
}

func (w writer) octets(x octets, typeName string) (string, bool) {
	switch w.f.Verb {
	case 's', 'x', 'X', 'q':
		return quote.Text(string(x), w.f)
	case 'd', 'v':
		return w.enclosed(typeName, "[", "]", w.numbersOf(x)), true
	}
	return "", false
}

func (w writer) pointer(x pointer, typeName string, depth int) (string, bool) {
	switch w.f.Verb {
	case 'b', 'd', 'o', 'x', 'X':
		return ints.Unsigned(x.address, w.f)
	case 'v':
		return w.pointerByV(x, typeName, depth), true
	}
	return "", false
}

func (w writer) pointerByV(x pointer, typeName string, depth int) string {
	switch {
	case depth == 0 && x.leadsToItems():
		return "&" + w.written(valueOf(x.leadsTo[0]), depth+1)
	case w.f.Sharp && x.isNil():
		return "(" + typeName + ")(nil)"
	case w.f.Sharp:
		return "(" + typeName + ")(" + inHex(x.address, api.Spec{Wid: -1, Prec: -1}) + ")"
	case x.isNil():
		return buf.Pad(nilText, w.f)
	}
	return inHex(x.address, w.forNumbers())
}

// inHex answers the address by x with Sharp, and by what else f says.
func inHex(address uint64, f api.Spec) string {
	f.Verb, f.Sharp = 'x', true
	// Unsigned refuses no x.
	s, _ := ints.Unsigned(address, f)
	return s
}
