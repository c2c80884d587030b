package bigdec

import (
	"strings"

	"platen/api"
)

// A whole number of any size is a list of limbs, the lowest one first, without
// noughts at its end. A limb has limbDigits digits, and is below limbBase.
const (
	limbDigits = 9
	limbBase   = 1_000_000_000
)

// cut answers a list without the zero values at its end.
func cut[T comparable](list []T) []T {
	var zero T
	for len(list) > 0 && list[len(list)-1] == zero {
		list = list[:len(list)-1]
	}
	return list
}

// limbsOf answers the limbs of m.
func limbsOf(m uint64) []uint32 {
	var limbs []uint32
	for ; m > 0; m /= limbBase {
		limbs = append(limbs, uint32(m%limbBase))
	}
	return limbs
}

// limbsUpTo answers the limbs of d in units of the place last, which is d's
// last one or lower.
func limbsUpTo(d api.Dec, last int) []uint32 {
	text := d.Digits + strings.Repeat("0", lastPlace(d)-last)
	var limbs []uint32
	for len(text) > 0 {
		at := max(len(text)-limbDigits, 0)
		limbs = append(limbs, limbOf(text[at:]))
		text = text[:at]
	}
	return cut(limbs)
}

// limbOf answers the limb that has these digits.
func limbOf(digits string) uint32 {
	limb := uint32(0)
	for i := range len(digits) {
		limb = limb*10 + uint32(digits[i]-'0')
	}
	return limb
}

// whole answers the decimal in form of limbs in units of the place last.
func whole(limbs []uint32, last int) api.Dec {
	text := make([]byte, len(limbs)*limbDigits)
	at := len(text)
	for _, limb := range limbs {
		for range limbDigits {
			at--
			text[at] = '0' + byte(limb%10)
			limb /= 10
		}
	}
	return inForm(api.Dec{Digits: string(text), Point: len(text) + last})
}

// sum answers the limbs of a and b together.
func sum(a, b []uint32) []uint32 {
	if len(a) < len(b) {
		a, b = b, a
	}
	// A copy, one limb longer: a is the caller's, and the last carry needs room.
	total := make([]uint32, len(a)+1)
	copy(total, a)
	carry := uint32(0)
	for i := range total {
		total[i] += carry
		if i < len(b) {
			total[i] += b[i]
		}
		carry = total[i] / limbBase
		total[i] %= limbBase
	}
	return cut(total)
}

// multiplied answers the limbs multiplied n times by a number below 10; it
// writes over them.
func multiplied(limbs []uint32, by uint32, n int) []uint32 {
	for n > 0 {
		factor := uint32(1)
		for ; n > 0 && factor < limbBase/by; n-- {
			factor *= by
		}
		limbs = scaled(limbs, factor)
	}
	return limbs
}

// scaled answers the limbs multiplied by a factor below limbBase, so that
// what is carried is a limb; it writes over them.
func scaled(limbs []uint32, factor uint32) []uint32 {
	carry := uint64(0)
	for i, limb := range limbs {
		product := uint64(limb)*uint64(factor) + carry
		limbs[i] = uint32(product % limbBase)
		carry = product / limbBase
	}
	return cut(append(limbs, uint32(carry)))
}
