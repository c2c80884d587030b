package values

import (
	"slices"

	"platen/api"
)

// made answers the value of a descriptor that check let pass. It refuses what
// is there twice, the last of the errors (P8.2).
func made(d api.Desc) Value {
	m := mark{kind: d.Kind, typeName: d.Type, hook: d.Hook}
	switch d.Kind {
	case api.Bool:
		return truth{m, d.Bits%2 == 1}
	case api.Int8, api.Int16, api.Int32, api.Int64, api.Int:
		return signed{m, signedBits(d.Kind, d.Bits)}
	case api.Uint8, api.Uint16, api.Uint32, api.Uint64, api.Uint:
		return unsigned{m, unsignedBits(d.Kind, d.Bits)}
	case api.Float32:
		return float{m, uint64(uint32(d.Bits))}
	case api.Float64:
		return float{m, d.Bits}
	case api.Complex64:
		return pair{m, uint64(uint32(d.Bits)), uint64(uint32(d.Imag))}
	case api.Complex128:
		return pair{m, d.Bits, d.Imag}
	case api.Text:
		return text{m, d.Text}
	case api.Bytes:
		return octets{m, d.Text}
	case api.Struct:
		must(!anyTwice(d.Names), api.ErrThere)
		return structure{m, slices.Clone(d.Names), madeAll(d.Parts)}
	case api.Array, api.Slice:
		return list{m, madeAll(d.Parts)}
	case api.Map:
		return dictionary{m, entriesOf(madeAll(d.Parts))}
	case api.Ptr:
		return pointer{m, d.Bits, madeAll(d.Parts)}
	}
	return nothing{}
}

// madeAll answers the values of all descriptors of l, in order.
func madeAll(l []api.Desc) []Value {
	var all []Value
	for _, d := range l {
		all = append(all, made(d))
	}
	return all
}

// signedBits answers the number that the lowest bits are, as many as the kind
// has.
func signedBits(kind int, bits uint64) int64 {
	switch kind {
	case api.Int8:
		return int64(int8(bits))
	case api.Int16:
		return int64(int16(bits))
	case api.Int32:
		return int64(int32(bits))
	}
	return int64(bits)
}

// unsignedBits answers the lowest bits, as many as the kind has.
func unsignedBits(kind int, bits uint64) uint64 {
	switch kind {
	case api.Uint8:
		return uint64(uint8(bits))
	case api.Uint16:
		return uint64(uint16(bits))
	case api.Uint32:
		return uint64(uint32(bits))
	}
	return bits
}

// anyTwice tells whether one of the names stands there twice.
func anyTwice(names []string) bool {
	for i, name := range names {
		if slices.Contains(names[:i], name) {
			return true
		}
	}
	return false
}

// entriesOf answers the entries whose keys and values these are by turns, by
// rising keys, and refuses a key that is there twice.
func entriesOf(keysAndValues []Value) []entry {
	var entries []entry
	for i := 0; i < len(keysAndValues); i += 2 {
		entries = append(entries, entry{keysAndValues[i], keysAndValues[i+1]})
	}
	slices.SortFunc(entries, func(a, b entry) int {
		return Cmp(a.key, b.key)
	})
	for i := 1; i < len(entries); i++ {
		// Keys that are the same stand side by side now.
		must(Cmp(entries[i-1].key, entries[i].key) != 0, api.ErrThere)
	}
	return entries
}
