package printer

import (
	"platen/api"
	"platen/bad"
	"platen/hooks"
	"platen/values"
)

// maxPrints is how many prints within prints one call makes. Hooks that print
// lists of one another could ask for so many that the call would not end in
// anybody's time; what they say is promised up to 5000 of them.
const maxPrints = 1 << 17

// call is what all prints of one call share.
type call struct {
	table  []api.Hook
	rows   map[int]api.Hook // those that were got, by their numbers
	within int              // how many prints within prints were made
}

func newCall(table []api.Hook) *call {
	return &call{table: table, rows: make(map[int]api.Hook)}
}

// row answers the row n of the table, if it has one. It is got once in a call,
// since Get copies all of it, and thousands of prints may ask for one row.
func (c *call) row(n int) (api.Hook, bool) {
	if h, ok := c.rows[n]; ok {
		return h, true
	}
	h, ok := hooks.Get(c.table, n)
	if ok {
		c.rows[n] = h
	}
	return h, ok
}

// at answers the print of that depth, which isn't below 0 (P14.1).
func (c *call) at(depth int, format string, args []api.Desc) string {
	if depth > api.MaxHookDepth {
		return bad.Depth()
	}
	p := begun(c, depth, args)
	p.format(format)
	return p.Text()
}

// ask answers what the hook of v says by the spec f, if it says anything
// (P14.2).
func (p *printing) ask(v values.Value, f api.Spec) (string, bool) {
	if p.call.within == maxPrints {
		return "", true
	}
	h, ok := p.call.row(values.Hook(v))
	if !ok {
		return "", false
	}
	return hooks.Say(h, f, isNilPointer(v), p.print, p.show)
}

// print answers a print within this one.
func (p *printing) print(format string, args []api.Desc) string {
	p.call.within++
	return p.call.at(p.depth+1, format, args)
}

// show answers what was thrown, as a print within this one.
func (p *printing) show(thrown api.Desc) string {
	return p.print("%v", []api.Desc{thrown})
}

// isNilPointer tells whether v is a pointer that leads to nothing.
func isNilPointer(v values.Value) bool {
	return v.Kind() == api.Ptr && len(values.Raw(v).Parts) == 0
}
