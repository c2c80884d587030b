package printer

import (
	"slices"

	"platen/api"
	"platen/bad"
	"platen/buf"
	"platen/parse"
	"platen/tree"
	"platen/values"
)

// printing is a print under way.
type printing struct {
	buf.Buf
	call  *call
	depth int
	args  []values.Value
	next  int // the number, from 1 on, of the argument that comes next
}

// begun answers a print of that depth, of which nothing is printed yet.
func begun(c *call, depth int, args []api.Desc) *printing {
	p := &printing{call: c, depth: depth, next: 1}
	for _, d := range args[:min(len(args), api.MaxArgs)] {
		p.args = append(p.args, valueOf(d))
	}
	return p
}

// valueOf answers the value of d: Nil, if Build refuses d.
func valueOf(d api.Desc) values.Value {
	v, e := values.Build(d)
	if e != api.OK {
		// Not Build's nil Value, of which no Kind can be asked.
		v, _ = values.Build(api.Desc{Kind: api.Nil})
	}
	return v
}

// byV answers the spec of v alone.
func byV() api.Spec { return api.Spec{Verb: 'v', Wid: -1, Prec: -1} }

// shown answers the text of v by the spec f.
func (p *printing) shown(v values.Value, f api.Spec) string {
	return tree.Show(v, f, p.ask)
}

// list prints all arguments, with a blank between two that are to be parted.
func (p *printing) list(parted func(a, b values.Value) bool) {
	for i, v := range p.args {
		if i > 0 && parted(p.args[i-1], v) {
			p.PutRune(' ')
		}
		p.Put(p.shown(v, byV()))
	}
}

// format prints the pieces of a format, and what they left (P14.1).
func (p *printing) format(format string) {
	pieces := parse.Parse(format)
	for _, piece := range pieces {
		// Nothing that is put behind the cut is told, so no hook is asked for it.
		if p.Over() {
			return
		}
		p.piece(piece)
	}
	if !slices.ContainsFunc(pieces, hasIndex) {
		p.extra()
	}
}

func (p *printing) piece(piece parse.Piece) {
	switch piece.Kind {
	case parse.Lit:
		p.Put(piece.Text)
	case parse.Open:
		p.Put(bad.Open())
	case parse.Dir:
		p.directive(piece)
	}
}

// directive prints the argument that a directive asks for, or why there is
// none.
func (p *printing) directive(d parse.Piece) {
	f := p.sized(d)
	if f.Verb == '%' {
		p.PutRune('%')
		return
	}
	v, ok := p.take(d.Arg)
	switch {
	case ok:
		p.Put(p.shown(v, f))
	case d.Arg.Kind == parse.Next:
		p.Put(bad.Missing(f.Verb))
	default:
		p.Put(bad.Index(f.Verb))
	}
}

// sized answers the spec of a directive with its width and its precision, and
// prints what is wrong with them.
func (p *printing) sized(d parse.Piece) api.Spec {
	f := d.Spec
	if d.Wid.Kind != parse.Unset {
		n, ok := p.number(d.Wid, -api.MaxWidth)
		switch {
		case !ok:
			p.Put(bad.Width())
		case n < 0:
			f.Minus, f.Wid = true, -n
		default:
			f.Wid = n
		}
	}
	if d.Prec.Kind != parse.Unset {
		n, ok := p.number(d.Prec, 0)
		if ok {
			f.Prec = n
		} else {
			p.Put(bad.Prec())
		}
	}
	return f
}

// number answers the number of a width or a precision that is not unset, and
// whether it is one from least to MaxWidth.
func (p *printing) number(n parse.Num, least int64) (int, bool) {
	if n.Kind == parse.Given {
		// Parse tells -1 of all that are too great.
		return n.N, n.N >= 0
	}
	v, ok := p.take(n.Arg)
	if !ok {
		return 0, false
	}
	return numberOf(v, least)
}

// numberOf answers the whole number that v is, and whether it is one from least
// to MaxWidth.
func numberOf(v values.Value, least int64) (int, bool) {
	bits := values.Raw(v).Bits
	switch v.Kind() {
	case api.Int8, api.Int16, api.Int32, api.Int64, api.Int:
		n := int64(bits)
		return int(n), least <= n && n <= api.MaxWidth
	case api.Uint8, api.Uint16, api.Uint32, api.Uint64, api.Uint:
		return int(bits), bits <= api.MaxWidth
	}
	return 0, false
}

// take answers the argument that the index means, if there is one, and goes
// behind it.
func (p *printing) take(x parse.Index) (values.Value, bool) {
	n := p.next
	switch x.Kind {
	case parse.Good:
		n = x.N
	case parse.Wrong:
		return nil, false
	}
	if n > len(p.args) {
		return nil, false
	}
	p.next = n + 1
	return p.args[n-1], true
}

// hasIndex tells whether an index stands in the piece, of its verb or of a *.
func hasIndex(piece parse.Piece) bool {
	return piece.Arg.Kind != parse.Next || piece.Wid.Arg.Kind != parse.Next || piece.Prec.Arg.Kind != parse.Next
}

// extra prints the arguments that are left, if any are.
func (p *printing) extra() {
	if p.next > len(p.args) {
		return
	}
	var types, texts []string
	for _, v := range p.args[p.next-1:] {
		types = append(types, values.Type(v))
		texts = append(texts, p.shown(v, byV()))
	}
	p.Put(bad.Extra(types, texts))
}
