// Package buf is layer 1: see shared/doc/01-buf.md.
package buf

import (
	"strings"

	"platen/api"
)

// TooLong stands behind a print that was cut.
const TooLong = "%!(TOOLONG)"

// Rune answers the UTF-8 of c, or that of fffd if c is no code point (P1.1).
func Rune(c rune) string { return string(c) }

// Decode answers the first code point of s and how many bytes it has (P1.1).
func Decode(s string) (rune, int) {
	var first rune
	for i, c := range s {
		// Only where the second rune begins tells a broken byte from a fffd
		// that is written out: both read as the same rune.
		if i > 0 {
			return first, i
		}
		first = c
	}
	return first, len(s)
}

// Count answers how many runes s has (P1.1).
func Count(s string) int {
	n := 0
	for range s {
		n++
	}
	return n
}

// Cut answers the first n runes of s, or all of it if n is below 0 (P1.1).
func Cut(s string, n int) string {
	if n < 0 {
		return s
	}
	for i := range s {
		if n == 0 {
			return s[:i]
		}
		n--
	}
	return s
}

// Fill answers the byte c n times, as often as a width allows (P1.2).
func Fill(c byte, n int) string {
	// By way of a list of bytes: a conversion of c itself would make a rune of it.
	return strings.Repeat(string([]byte{c}), width(n))
}

// Pad fills s to the width of f (P1.2).
func Pad(s string, f api.Spec) string {
	lacking := width(f.Wid) - Count(s)
	switch {
	case f.Minus:
		return s + Fill(' ', lacking)
	case f.Zero:
		return Fill('0', lacking) + s
	}
	return Fill(' ', lacking) + s
}

// width brings n into the range of a width; no width fills as little as 0 does.
func width(n int) int { return min(max(n, 0), api.MaxWidth) }

// Buf is what a print is written to.
type Buf struct {
	// An array, not a slice: a Buf that is copied shares nothing with its
	// copy, and nothing behind MaxOut, which Text never tells, is kept.
	kept [api.MaxOut]byte
	n    int
}

// Put adds s at the end (P1.3).
func (b *Buf) Put(s string) {
	if b.n < api.MaxOut {
		copy(b.kept[b.n:], s)
	}
	b.n += len(s)
}

// PutRune adds the UTF-8 of c at the end (P1.3).
func (b *Buf) PutRune(c rune) { b.Put(Rune(c)) }

// Len answers how many bytes were added, those that are not kept among them (P1.3).
func (b *Buf) Len() int { return b.n }

// Over tells whether more was added than a print may have (P1.3).
func (b *Buf) Over() bool { return b.n > api.MaxOut }

// Text answers what was added, cut at MaxOut (P1.3).
func (b *Buf) Text() string {
	if b.Over() {
		return string(b.kept[:]) + TooLong
	}
	return string(b.kept[:b.n])
}

// Reset makes it empty (P1.3).
func (b *Buf) Reset() { *b = Buf{} }
