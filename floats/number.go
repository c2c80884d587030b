package floats

import (
	"math/bits"
	"strings"

	"platen/api"
	"platen/bigdec"
	"platen/ints"
	"platen/short"
)

const (
	usualPlaces    = 6  // digits behind the point, if no precision says how many
	usualSharp     = 6  // digits with Sharp, if no precision says how many
	leastPower     = -4 // of a first digit that needs no exponent
	shortestPowers = 21 // a shortest decimal's powers without an exponent end below it
)

// By x a number's bits stand behind a leading one: at most 52 of them, and so
// hexPlaces digits to the base 16 have room for all.
const (
	hexPlaces = 13
	leading   = 4 * hexPlaces // the bit at which the leading one stands
)

// number is a finite float without its sign, and how it is written.
type number struct {
	bits      uint64
	size      int
	m         uint64 // the value is m times 2 to the power of e
	e         int
	precision int  // below 0: unset
	sharp     bool // is a point written with no digits behind it, too
}

// withExponent is what e and E write (P6.2).
func (n number) withExponent() string {
	count := n.places() + 1
	d, _ := bigdec.Round(n.value(), count)
	return n.scientific(lengthenedBehind(d.Digits, count), powerOf(d))
}

// fixed is what f and F write (P6.2).
func (n number) fixed() string {
	places := n.places()
	d, _ := bigdec.Places(n.value(), places)
	ahead, behind := around(d.Digits, d.Point)
	return n.pointed(ahead, lengthenedBehind(behind, places))
}

// general is what g, G and v write (P6.3).
func (n number) general() string {
	d, most, sharpCount := n.brief()
	digits, power := lengthenedBehind(d.Digits, 1), powerOf(d)
	if n.sharp {
		digits = lengthenedBehind(digits, sharpCount)
	}
	if power < leastPower || power >= most {
		return n.scientific(digits, power)
	}
	return n.pointed(around(digits, power+1))
}

// inParts is what b writes (P6.4).
func (n number) inParts() string {
	return together(ints.Digits(n.m, 10), "p", signed(n.e, 1))
}

// hexadecimal is what x and X write (P6.4).
func (n number) hexadecimal() string {
	m, power := n.normal()
	digits := lengthened(ints.Digits(m, 16), 1+hexPlaces)
	return together("0x", n.pointed(digits[:1], n.hexPart(digits[1:])), "p", signed(power, 2))
}

// value answers the exact decimal. (Its errors can't be: e is in the range of
// Exact, and no float has more digits than a decimal may have.)
func (n number) value() api.Dec {
	d, _ := bigdec.Exact(n.m, n.e)
	return d
}

// places answers how many digits stand behind the point by e and f.
func (n number) places() int {
	if n.precision < 0 {
		return usualPlaces
	}
	return n.precision
}

// brief answers the decimal of P6.3, the power from which on it has an
// exponent, and how many digits it has with Sharp.
func (n number) brief() (api.Dec, int, int) {
	if n.precision < 0 {
		d, _ := short.Shortest(n.bits, n.size)
		return d, shortestPowers, usualSharp
	}
	count := max(n.precision, 1)
	d, _ := bigdec.Round(n.value(), count)
	return d, count, count
}

// normal answers m with its leading one at the bit leading, rounded to the
// precision, and the power of 2 of that one; of 0 just 0.
func (n number) normal() (uint64, int) {
	if n.m == 0 {
		return 0, 0
	}
	shift := leading - (bits.Len64(n.m) - 1)
	m, power := roundedBits(n.m<<shift, n.precision), n.e+leading-shift
	if m>>leading == 2 {
		return m / 2, power + 1
	}
	return m, power
}

// roundedBits answers m rounded to count of its hexPlaces digits behind the
// leading one, of two as near the even one; count below 0: all of them.
func roundedBits(m uint64, count int) uint64 {
	if count < 0 || count >= hexPlaces {
		return m
	}
	unit := uint64(1) << (4 * (hexPlaces - count))
	whole, rest := m/unit, m%unit
	if rest > unit/2 || rest == unit/2 && whole%2 == 1 {
		whole++
	}
	return whole * unit
}

// hexPart answers of all digits behind the point those that are written.
func (n number) hexPart(digits string) string {
	if n.precision < 0 {
		return strings.TrimRight(digits, "0")
	}
	return lengthenedBehind(digits[:min(n.precision, hexPlaces)], n.precision)
}

// scientific answers digits with a point behind the first one, and its power
// of 10.
func (n number) scientific(digits string, power int) string {
	return together(n.pointed(digits[:1], digits[1:]), "e", signed(power, 2))
}

// pointed answers the digits on both sides of a point; it is left out, if none
// stand behind it and there is no Sharp.
func (n number) pointed(ahead, behind string) string {
	if behind == "" && !n.sharp {
		return ahead
	}
	return together(ahead, ".", behind)
}

// around answers the digits ahead of a point and behind it: it stands behind
// so many of them, with noughts where they do not reach it.
func around(digits string, point int) (string, string) {
	if point <= 0 {
		return "0", lengthened(digits, len(digits)-point)
	}
	digits = lengthenedBehind(digits, point)
	return digits[:point], digits[point:]
}

// powerOf answers the power of 10 of the first digit of d, which is in form; of
// 0 it is 0.
func powerOf(d api.Dec) int {
	if d.Digits == "" {
		return 0
	}
	return d.Point - 1
}

// signed answers n behind its sign, in at least so many digits.
func signed(n, least int) string {
	sign := "+"
	if n < 0 {
		sign, n = "-", -n
	}
	return together(sign, lengthened(ints.Digits(uint64(n), 10), least))
}

// lengthened answers digits with noughts ahead, until there are count.
func lengthened(digits string, count int) string {
	return together(noughts(count-len(digits)), digits)
}

// lengthenedBehind answers digits with noughts behind, until there are count.
func lengthenedBehind(digits string, count int) string {
	return together(digits, noughts(count-len(digits)))
}

// noughts answers n noughts, none if n is below 0. (buf's Fill ends at
// api.MaxWidth, and by e 0 has one digit more than the greatest precision.)
func noughts(n int) string { return strings.Repeat("0", max(n, 0)) }

// together answers the texts one behind the other.
func together(texts ...string) string { return strings.Join(texts, "") }
