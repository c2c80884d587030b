package bad

import (
	"strings"

	"platen/buf"
)

// Read answers which of the texts s is, its verb, and what stands between its
// outer brackets (P10.3).
func Read(s string) (int, rune, string) {
	rest, begun := strings.CutPrefix(s, begin)
	rest, ended := strings.CutSuffix(rest, closing)
	if !begun || !ended {
		return IsNone, 0, ""
	}
	kind, verb, inside := parts(rest)
	if kind == IsNone {
		return IsNone, 0, ""
	}
	return kind, verb, inside
}

// parts reads what stands between the beginning and the last bracket.
func parts(rest string) (int, rune, string) {
	// Of two brackets the first one is the verb.
	if inside, ok := strings.CutPrefix(rest, opening); ok && !strings.HasPrefix(inside, opening) {
		return withoutVerb(inside), 0, inside
	}
	verb, size := buf.Decode(rest)
	inside, opened := strings.CutPrefix(rest[size:], opening)
	// A fffd that is written out has more bytes than a broken one.
	if !opened || verb == 0xfffd && size == 1 {
		return IsNone, 0, ""
	}
	return withVerb(inside), verb, inside
}

// withoutVerb tells which of the texts without a verb has this inside.
func withoutVerb(inside string) int {
	switch inside {
	case saysOpen:
		return IsOpen
	case saysWidth:
		return IsWidth
	case saysPrec:
		return IsPrec
	case saysDepth:
		return IsDepth
	}
	if strings.HasPrefix(inside, saysExtra) {
		return IsExtra
	}
	return IsNone
}

// withVerb tells which of the texts with a verb has this inside.
func withVerb(inside string) int {
	switch inside {
	case saysNil:
		return IsNil
	case saysMissing:
		return IsMissing
	case saysIndex:
		return IsIndex
	}
	switch {
	case strings.HasPrefix(inside, saysPanic) && strings.Contains(inside, saysMethod):
		return IsPanic
	case strings.Contains(inside, equals):
		return IsVerb
	}
	return IsNone
}
