package tree

import (
	"iter"
	"strings"

	"platen/ints"
)

// enclosed answers the items between these brackets or, as in a program's
// text, behind their type.
func (w writer) enclosed(typeName, opening, closing string, items iter.Seq[string]) string {
	gap := " "
	if w.asSyntax() {
		opening, closing, gap = typeName+"{", "}", ", "
	}
	ahead := between(gap)
	var b strings.Builder
	b.WriteString(opening)
	for item := range items {
		b.WriteString(ahead())
		b.WriteString(item)
	}
	b.WriteString(closing)
	return b.String()
}

// between answers a function that tells what stands ahead of the next item:
// nothing ahead of the first one, the gap ahead of each other one.
func between(gap string) func() string {
	next := ""
	return func() string {
		now := next
		next = gap
		return now
	}
}

// numbersOf goes through the texts of bytes, which are no values: ask is not
// asked of them.
func (w writer) numbersOf(x octets) iter.Seq[string] {
	return func(yield func(string) bool) {
		for i := range len(x) {
			// Unsigned refuses neither d nor v.
			number, _ := ints.Unsigned(uint64(x[i]), w.forNumbers())
			if !yield(number) {
				return
			}
		}
	}
}

// fieldsOf goes through the texts of fields, which are of that depth.
func (w writer) fieldsOf(x structure, depth int) iter.Seq[string] {
	return func(yield func(string) bool) {
		for i, field := range x.fields {
			name := ""
			if w.withNames() {
				name = x.names[i] + ":"
			}
			if !yield(name + w.written(valueOf(field), depth)) {
				return
			}
		}
	}
}

// itemsOf goes through the texts of a list's items, which are of that depth.
func (w writer) itemsOf(x list, depth int) iter.Seq[string] {
	return func(yield func(string) bool) {
		for _, item := range x {
			if !yield(w.written(valueOf(item), depth)) {
				return
			}
		}
	}
}

// entriesOf goes through the texts of entries, whose keys and values are of
// that depth.
func (w writer) entriesOf(x dictionary, depth int) iter.Seq[string] {
	return func(yield func(string) bool) {
		for i := 0; i < len(x); i += 2 {
			key := w.written(valueOf(x[i]), depth)
			value := w.written(valueOf(x[i+1]), depth)
			if !yield(key + ":" + value) {
				return
			}
		}
	}
}
