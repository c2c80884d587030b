package press

import (
	"slices"

	"platen/api"
)

// copiedTable answers the rows of a table in memory of their own, all that a
// print looks at: what is changed in the table later says nothing to them.
func copiedTable(table []api.Hook) []api.Hook {
	rows := slices.Clone(table[:min(len(table), api.MaxHooks)])
	for i, h := range rows {
		rows[i] = api.Hook{
			Format: copiedAct(h.Format),
			Syntax: copiedAct(h.Syntax),
			Error:  copiedAct(h.Error),
			String: copiedAct(h.String),
		}
	}
	return rows
}

func copiedAct(a api.Act) api.Act {
	a.Args = slices.Clone(a.Args[:min(len(a.Args), api.MaxArgs)])
	for i, d := range a.Args {
		a.Args[i] = copied(d)
	}
	a.Panic = copied(a.Panic)
	return a
}

// copied answers d in memory of its own. Parts may be shared so often, or hold
// themselves, that a copy of them all would not end: a descriptor of more than
// MaxNodes is copied as the Nil that every print takes it for.
func copied(d api.Desc) api.Desc {
	c := copier{left: api.MaxNodes - 1}
	d = c.desc(d)
	if c.tooMany {
		return api.Desc{}
	}
	return d
}

// copier is a copy of one descriptor under way.
type copier struct {
	left    int // how many descriptors there may still be
	tooMany bool
}

// desc answers d in memory of its own, or some of it, if there are too many.
func (c *copier) desc(d api.Desc) api.Desc {
	if !hasParts(d.Kind) {
		d.Names, d.Parts = nil, nil
		return d
	}
	if len(d.Parts) > c.left {
		c.tooMany = true
		return d
	}
	c.left -= len(d.Parts)
	d.Names = slices.Clone(d.Names)
	d.Parts = slices.Clone(d.Parts)
	for i, part := range d.Parts {
		if c.tooMany {
			break
		}
		d.Parts[i] = c.desc(part)
	}
	return d
}

// hasParts tells whether a value of that kind is made of its parts: those of
// any other one are not looked at, however many there are.
func hasParts(kind int) bool {
	switch kind {
	case api.Struct, api.Array, api.Slice, api.Map, api.Ptr:
		return true
	}
	return false
}
