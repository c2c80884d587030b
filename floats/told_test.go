package floats

import (
	"math"
	"math/big"
	"strconv"
	"strings"

	"platen/api"
)

// What the chapter says of a float, put together step by step out of exact
// fractions, without the packages below.

// power answers base to the power of n, n below 0, too.
func power(base int64, n int) *big.Rat {
	p := new(big.Int).Exp(big.NewInt(base), big.NewInt(int64(max(n, -n))), nil)
	if n < 0 {
		return new(big.Rat).SetFrac(big.NewInt(1), p)
	}
	return new(big.Rat).SetInt(p)
}

// valueOf answers the value of a finite pattern without its sign.
func valueOf(bits uint64, size int) *big.Rat {
	r := new(big.Rat)
	if size == 32 {
		r.SetFloat64(float64(math.Float32frombits(uint32(bits))))
	} else {
		r.SetFloat64(math.Float64frombits(bits))
	}
	return r.Abs(r)
}

// nearest answers the whole number nearest to r, of two as near the even one.
func nearest(r *big.Rat) *big.Int {
	n, rest := new(big.Int).QuoRem(r.Num(), r.Denom(), new(big.Int))
	switch rest.Lsh(rest, 1).Cmp(r.Denom()) {
	case 1:
		n.Add(n, big.NewInt(1))
	case 0:
		n.Add(n, new(big.Int).And(n, big.NewInt(1)))
	}
	return n
}

// firstPower answers the greatest n of which base to the power of n is not
// above r.
func firstPower(r *big.Rat, base int64) int {
	bits := float64(r.Num().BitLen() - r.Denom().BitLen())
	n := int(bits/math.Log2(float64(base))) - 3
	for power(base, n+1).Cmp(r) <= 0 {
		n++
	}
	return n
}

// toDigits answers r rounded to so many digits, all of them written, and the
// power of 10 of the first one.
func toDigits(r *big.Rat, count int) (string, int) {
	if r.Sign() == 0 {
		return strings.Repeat("0", count), 0
	}
	x := firstPower(r, 10)
	s := nearest(new(big.Rat).Mul(r, power(10, count-1-x))).String()
	if len(s) > count {
		return s[:count], x + 1
	}
	return s, x
}

// fewest answers the digits of the shortest decimal, and the power of 10 of the
// first one, as Go's own library has them.
func fewest(bits uint64, size int) (string, int) {
	v := math.Float64frombits(bits &^ (1 << 63))
	if size == 32 {
		v = float64(math.Float32frombits(uint32(bits) &^ (1 << 31)))
	}
	digits, x, _ := strings.Cut(strconv.FormatFloat(v, 'e', -1, size), "e")
	n, _ := strconv.Atoi(x)
	return strings.Replace(digits, ".", "", 1), n
}

// exponent answers a sign and two digits or more.
func exponent(x int) string {
	s := strconv.Itoa(max(x, -x))
	if len(s) < 2 {
		s = "0" + s
	}
	if x < 0 {
		return "-" + s
	}
	return "+" + s
}

// withPoint answers what stands ahead of the point, the point, if there is one,
// and what stands behind it.
func withPoint(ahead, behind string, f api.Spec) string {
	if behind != "" || f.Sharp && f.Verb != 'v' {
		return ahead + "." + behind
	}
	return ahead
}

// toldE is what P6.2 says of e.
func toldE(bits uint64, size, prec int, f api.Spec) string {
	if prec < 0 {
		prec = 6
	}
	digits, x := toDigits(valueOf(bits, size), prec+1)
	return withPoint(digits[:1], digits[1:], f) + "e" + exponent(x)
}

// toldF is what P6.2 says of f.
func toldF(bits uint64, size, prec int, f api.Spec) string {
	if prec < 0 {
		prec = 6
	}
	s := nearest(new(big.Rat).Mul(valueOf(bits, size), power(10, prec))).String()
	if len(s) < prec+1 {
		s = strings.Repeat("0", prec+1-len(s)) + s
	}
	return withPoint(s[:len(s)-prec], s[len(s)-prec:], f)
}

// toldG is what P6.3 says of g and v.
func toldG(bits uint64, size, prec int, f api.Spec) string {
	digits, x := fewest(bits, size)
	most, count := 21, 6
	if prec >= 0 {
		count = max(prec, 1)
		most = count
		digits, x = toDigits(valueOf(bits, size), count)
	}
	digits = digits[:1] + strings.TrimRight(digits[1:], "0")
	for f.Sharp && f.Verb != 'v' && len(digits) < count {
		digits += "0"
	}
	if x < -4 || x >= most {
		return withPoint(digits[:1], digits[1:], f) + "e" + exponent(x)
	}
	for ; x < 0; x++ {
		digits = "0" + digits
	}
	for len(digits) < x+1 {
		digits += "0"
	}
	return withPoint(digits[:x+1], digits[x+1:], f)
}

// toldB is what P6.4 says of b.
func toldB(bits uint64, size int) string {
	places, bias := 52, 1075
	if size == 32 {
		places, bias = 23, 150
	}
	field := int(bits >> places & (1<<(size-1-places) - 1))
	m := bits & (1<<places - 1)
	if field == 0 {
		field = 1
	} else {
		m += 1 << places
	}
	if e := field - bias; e < 0 {
		return strconv.FormatUint(m, 10) + "p" + strconv.Itoa(e)
	} else {
		return strconv.FormatUint(m, 10) + "p+" + strconv.Itoa(e)
	}
}

// toldX is what P6.4 says of x.
func toldX(bits uint64, size, prec int, f api.Spec) string {
	r := valueOf(bits, size)
	x, count := 0, 13
	if prec >= 0 {
		count = prec
	}
	if r.Sign() > 0 {
		x = firstPower(r, 2)
		r.Mul(r, power(2, -x))
	}
	n := nearest(r.Mul(r, power(16, count)))
	if n.BitLen() == 4*count+2 {
		n.Rsh(n, 1)
		x++
	}
	s := n.Text(16)
	if n.Sign() == 0 {
		s = strings.Repeat("0", count+1)
	}
	behind := s[1:]
	if prec < 0 {
		behind = strings.TrimRight(behind, "0")
	}
	return "0x" + withPoint(s[:1], behind, f) + "p" + exponent(x)
}

// toldPlain is what stands behind the sign of a finite float, without a width.
func toldPlain(bits uint64, size int, f api.Spec) string {
	prec := min(f.Prec, 1000)
	switch f.Verb {
	case 'e':
		return toldE(bits, size, prec, f)
	case 'E':
		return strings.ToUpper(toldE(bits, size, prec, f))
	case 'f', 'F':
		return toldF(bits, size, prec, f)
	case 'g', 'v':
		return toldG(bits, size, prec, f)
	case 'G':
		return strings.ToUpper(toldG(bits, size, prec, f))
	case 'b':
		return toldB(bits, size)
	case 'x':
		return toldX(bits, size, prec, f)
	case 'X':
		return strings.ToUpper(toldX(bits, size, prec, f))
	}
	panic("no verb of floats")
}

// toldSign is what P6.1 says of the sign.
func toldSign(negative bool, f api.Spec) string {
	if negative {
		return "-"
	}
	if f.Plus {
		return "+"
	}
	if f.Space {
		return " "
	}
	return ""
}

// toldFilled is what P6.5 says: plain is what stands behind the sign.
func toldFilled(sign, plain string, f api.Spec) string {
	lacking := max(min(f.Wid, 1000)-len(sign)-len(plain), 0)
	if f.Wid < 0 {
		lacking = 0
	}
	switch {
	case f.Minus:
		return sign + plain + strings.Repeat(" ", lacking)
	case f.Zero:
		return sign + strings.Repeat("0", lacking) + plain
	}
	return strings.Repeat(" ", lacking) + sign + plain
}
