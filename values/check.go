package values

import "platen/api"

// must panics with the error why, for Build to recover, unless ok holds.
func must(ok bool, why api.Errno) {
	if !ok {
		panic(why)
	}
}

// reason answers the error that must panicked with. Nothing else is thrown by
// Build: what else there were would be a fault of the program, and goes on.
func reason(why any) api.Errno { return why.(api.Errno) }

// check refuses a descriptor that no value can be made of, but for what is
// there twice (P8.2). All of it is gone through for one error ahead of the
// next one, so that the first in the document's order is told, wherever it
// stands.
func check(d api.Desc) {
	nodes := 0
	// This comes first: no other walk would end of parts that hold themselves.
	walk(d, 0, func(d api.Desc, _ int) {
		nodes++
		must(nodes <= api.MaxNodes && textFits(d), api.ErrBig)
	})
	walk(d, 0, func(_ api.Desc, outer int) { must(outer < api.MaxDeep, api.ErrDeep) })
	walk(d, 0, func(d api.Desc, _ int) { must(isKind(d.Kind), api.ErrKind) })
	walk(d, 0, func(d api.Desc, _ int) { must(formed(d), api.ErrForm) })
}

// walk shows visit d and all that are looked at in it, each with the number of
// those that it stands in; outer is d's.
func walk(d api.Desc, outer int, visit func(d api.Desc, outer int)) {
	visit(d, outer)
	if !hasParts(d.Kind) {
		return
	}
	for _, part := range d.Parts {
		walk(part, outer+1, visit)
	}
}

// isKind tells whether kind is one of api's numbers.
func isKind(kind int) bool { return api.Nil <= kind && kind <= api.Ptr }

// hasParts tells whether the parts of a descriptor of that kind are looked at.
func hasParts(kind int) bool { return api.Struct <= kind && kind <= api.Ptr }

// textFits tells whether the text of d, if it is looked at, is short enough.
func textFits(d api.Desc) bool {
	return d.Kind != api.Text && d.Kind != api.Bytes || len(d.Text) <= api.MaxText
}

// formed tells whether d has the type, the names and the parts that one of its
// kind may have.
func formed(d api.Desc) bool {
	switch d.Kind {
	case api.Nil:
		return true
	case api.Struct:
		return Typed(d.Type) && fieldsFormed(d)
	case api.Map:
		return Typed(d.Type) && entriesFormed(d)
	case api.Ptr:
		return Typed(d.Type) && len(d.Parts) <= 1
	}
	return Typed(d.Type)
}

func fieldsFormed(d api.Desc) bool {
	if len(d.Names) != len(d.Parts) {
		return false
	}
	for _, name := range d.Names {
		if !Named(name) {
			return false
		}
	}
	return true
}

func entriesFormed(d api.Desc) bool {
	for i, part := range d.Parts {
		if i%2 == 0 && !isKey(part.Kind) {
			return false
		}
	}
	return len(d.Parts)%2 == 0
}

// isKey tells whether a value of that kind may be a map's key.
func isKey(kind int) bool {
	return kind == api.Bool || api.Int8 <= kind && kind <= api.Uint || kind == api.Text
}
