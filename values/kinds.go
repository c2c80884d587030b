package values

import "platen/api"

// mark is what all values have. The zero mark is Nil's.
type mark struct {
	kind     int
	typeName string // empty: the kind's own
	hook     int
}

// Kind answers the value's kind.
func (m mark) Kind() int { return m.kind }

func (m mark) itself() mark { return m }

// marked is what the program's own values are and no others: its method can't
// be had elsewhere.
type marked interface {
	itself() mark
}

// The types that stand behind Value. What is in them is never changed.
type (
	nothing struct{ mark }

	truth struct {
		mark
		holds bool
	}
	signed struct {
		mark
		number int64
	}
	unsigned struct {
		mark
		number uint64
	}
	float struct {
		mark
		bits uint64
	}
	// pair is a complex number.
	pair struct {
		mark
		re, im uint64
	}
	text struct {
		mark
		s string
	}
	// octets are what the kind Bytes has: unlike texts they have no order.
	octets struct {
		mark
		s string
	}
	structure struct {
		mark
		names  []string
		fields []Value
	}
	// list is an array or a slice.
	list struct {
		mark
		items []Value
	}
	// dictionary is a map: its entries stand by rising keys.
	dictionary struct {
		mark
		entries []entry
	}
	// pointer leads to one value, or to none.
	pointer struct {
		mark
		address uint64
		leadsTo []Value
	}
)

type entry struct {
	key, value Value
}

// markOf answers the mark of v. A nil Value has Nil's, and so has one that
// Build didn't make, of which nothing is asked: its methods may do anything.
func markOf(v Value) mark {
	if own, ok := v.(marked); ok {
		return own.itself()
	}
	return mark{}
}

// partsOf answers the values that stand directly in v, in order, of an entry
// the key ahead of the value.
func partsOf(v Value) []Value {
	switch x := v.(type) {
	case structure:
		return x.fields
	case list:
		return x.items
	case dictionary:
		var parts []Value
		for _, e := range x.entries {
			parts = append(parts, e.key, e.value)
		}
		return parts
	case pointer:
		return x.leadsTo
	}
	return nil
}

// rawOf answers the descriptor in form of v, in memory of its own.
func rawOf(v Value) api.Desc {
	m := markOf(v)
	d := api.Desc{Kind: m.kind, Type: m.typeName, Hook: m.hook}
	switch x := v.(type) {
	case truth:
		d.Bits = oneIf(x.holds)
	case signed:
		d.Bits = uint64(x.number)
	case unsigned:
		d.Bits = x.number
	case float:
		d.Bits = x.bits
	case pair:
		d.Bits, d.Imag = x.re, x.im
	case text:
		d.Text = x.s
	case octets:
		d.Text = x.s
	case structure:
		d.Names = append(d.Names, x.names...)
	case pointer:
		d.Bits = x.address
	}
	for _, part := range partsOf(v) {
		d.Parts = append(d.Parts, rawOf(part))
	}
	return d
}

func oneIf(holds bool) uint64 {
	if holds {
		return 1
	}
	return 0
}

// rank is what values are ordered by, from the first field on.
type rank struct {
	kind           int
	number         uint64
	text, typeName string
}

// rankOf answers the rank of v. Of a kind without an order it tells the kind
// alone, so that all of that kind have the same.
func rankOf(v Value) rank {
	m := markOf(v)
	switch x := v.(type) {
	case truth:
		return rank{kind: m.kind, number: oneIf(x.holds), typeName: m.typeName}
	case signed:
		// With the sign bit turned over those below 0 are the lower ones.
		return rank{kind: m.kind, number: uint64(x.number) ^ 1<<63, typeName: m.typeName}
	case unsigned:
		return rank{kind: m.kind, number: x.number, typeName: m.typeName}
	case text:
		return rank{kind: m.kind, text: x.s, typeName: m.typeName}
	}
	return rank{kind: m.kind}
}
