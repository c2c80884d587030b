package tree

import (
	"platen/api"
	"platen/values"
)

// The shapes of values: kinds that are written alike share one. The types of
// package values are its own, so these stand for them in a type switch.
type (
	truth    bool
	signed   int64
	unsigned uint64
	float    struct {
		bits uint64
		size int
	}
	// pair is a complex number.
	pair struct {
		re, im uint64
		size   int
	}
	text string
	// octets are what the kind Bytes has.
	octets    string
	structure struct {
		names  []string
		fields []api.Desc
	}
	// list is an array or a slice.
	list []api.Desc
	// dictionary is a map: keys and values by turns.
	dictionary []api.Desc
	pointer    struct {
		address uint64
		leadsTo []api.Desc
	}
)

// shapeOf answers the shape of v; nil, if it counts as Nil. Raw says which kind
// it is, not v's own Kind: a Value that Build didn't make may answer anything.
func shapeOf(v values.Value) any {
	d := values.Raw(v)
	switch d.Kind {
	case api.Bool:
		return truth(d.Bits == 1)
	case api.Int8, api.Int16, api.Int32, api.Int64, api.Int:
		return signed(d.Bits)
	case api.Uint8, api.Uint16, api.Uint32, api.Uint64, api.Uint:
		return unsigned(d.Bits)
	case api.Float32:
		return float{d.Bits, 32}
	case api.Float64:
		return float{d.Bits, 64}
	case api.Complex64:
		return pair{d.Bits, d.Imag, 64}
	case api.Complex128:
		return pair{d.Bits, d.Imag, 128}
	case api.Text:
		return text(d.Text)
	case api.Bytes:
		return octets(d.Text)
	case api.Struct:
		return structure{d.Names, d.Parts}
	case api.Array, api.Slice:
		return list(d.Parts)
	case api.Map:
		return dictionary(d.Parts)
	case api.Ptr:
		return pointerOf(d)
	}
	return nil
}

// pointerOf answers the pointer that d describes: a nil pointer's address is
// 0, whatever its bits are.
func pointerOf(d api.Desc) pointer {
	if len(d.Parts) == 0 {
		return pointer{}
	}
	return pointer{d.Bits, d.Parts}
}

// isNil tells whether it is a nil pointer.
func (x pointer) isNil() bool { return len(x.leadsTo) == 0 }

// leadsToItems tells whether it leads to a value that has items.
func (x pointer) leadsToItems() bool {
	if x.isNil() {
		return false
	}
	switch x.leadsTo[0].Kind {
	case api.Struct, api.Array, api.Slice, api.Map:
		return true
	}
	return false
}

// valueOf answers the value that a part of another one is: Build refuses none.
func valueOf(part api.Desc) values.Value {
	v, _ := values.Build(part)
	return v
}
