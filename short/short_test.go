package short

import (
	"math"
	"math/big"
	"slices"
	"strconv"
	"strings"
	"testing"

	"platen/api"
	"platen/bigdec"
)

// dec is short for a decimal.
func dec(digits string, point int) api.Dec { return api.Dec{Digits: digits, Point: point} }

// ten answers 10 to the power of n.
func ten(n int) *big.Int { return new(big.Int).Exp(big.NewInt(10), big.NewInt(int64(n)), nil) }

// valueOf answers the number that d is, by the fourth chapter's words.
func valueOf(t *testing.T, d api.Dec) *big.Rat {
	t.Helper()
	n, ok := new(big.Int).SetString("0"+d.Digits, 10)
	if !ok {
		t.Fatalf("%q is no number", d.Digits)
	}
	r := new(big.Rat).SetInt(n)
	if p := d.Point - len(d.Digits); p >= 0 {
		return r.Mul(r, new(big.Rat).SetInt(ten(p)))
	} else {
		return r.Quo(r, new(big.Rat).SetInt(ten(-p)))
	}
}

// decOf answers the decimal that r is, with k places behind its point, and so
// not in form; r must have no more places.
func decOf(t *testing.T, r *big.Rat, k int) api.Dec {
	t.Helper()
	scaled := new(big.Rat).Mul(r, new(big.Rat).SetInt(ten(k)))
	if !scaled.IsInt() {
		t.Fatal(r, "has more places than", k)
	}
	digits := scaled.Num().String()
	return dec(digits, len(digits)-k)
}

// exactPlaces answers how many places r has, whose denominator is a power of 2.
func exactPlaces(r *big.Rat) int { return r.Denom().BitLen() - 1 }

// valueAt answers the value of a finite pattern without its sign bit, by Go's
// own reading of it; Inf counts as the chapter says.
func valueAt(p uint64, size int) *big.Rat {
	if p == infOf(size) {
		one := big.NewInt(1)
		return new(big.Rat).SetInt(one.Lsh(one, map[int]uint{32: 128, 64: 1024}[size]))
	}
	if size == 32 {
		return new(big.Rat).SetFloat64(float64(math.Float32frombits(uint32(p))))
	}
	return new(big.Rat).SetFloat64(math.Float64frombits(p))
}

// bitsOf answers the pattern that Go's own library reads a number as.
func bitsOf(r *big.Rat, size int) uint64 {
	if size == 32 {
		f, _ := r.Float32()
		return uint64(math.Float32bits(f))
	}
	f, _ := r.Float64()
	return math.Float64bits(f)
}

// parsed answers the pattern that strconv reads d as.
func parsed(d api.Dec, size int) uint64 {
	f, _ := strconv.ParseFloat("0."+d.Digits+"0e"+strconv.Itoa(d.Point), size)
	if size == 32 {
		return uint64(math.Float32bits(float32(f)))
	}
	return math.Float64bits(f)
}

func infOf(size int) uint64 {
	if size == 32 {
		return 0x7f800000
	}
	return 0x7ff0000000000000
}

func signOf(size int) uint64 { return 1 << (size - 1) }

func fractionOf(size int) int { return map[int]int{32: 23, 64: 52}[size] }

var sizes = []int{32, 64}

// wrongSizes are all but 32 and 64, some of them with those in their lowest bits.
func wrongSizes() []int {
	l := []int{math.MinInt, math.MinInt + 32, math.MinInt + 64, -64, -32, -1, 0, 1, 8, 16, 23, 31, 33, 52, 63, 65, 80, 96, 128, 256 + 32, 256 + 64, 1<<16 + 64, math.MaxInt}
	return append(l, 1<<32+32, 1<<32+64)
}

// chance is a row of numbers that is the same in every run.
type chance uint64

func (c *chance) below(n int) int {
	*c = *c*6364136223846793005 + 1442695040888963407
	return int(uint64(*c>>33) % uint64(n))
}

func (c *chance) bits() uint64 {
	return uint64(c.below(1<<30))<<60 ^ uint64(c.below(1<<30))<<30 ^ uint64(c.below(1<<30))
}

// edges are the patterns, without sign bits, that the chapter's words part.
func edges(size int) []uint64 {
	top, inf := uint64(1)<<fractionOf(size), infOf(size)
	l := []uint64{0, 1, 2, 3, 4, 5, 6, 7, 8, 9, 10, 11, top / 2, top/2 + 1, top - 2, top - 1, top, top + 1, top + 2, 2*top - 1, 2 * top, 2*top + 1, 3*top - 1, 3 * top, 3*top + 1, inf - top - 1, inf - top, inf - top + 1, inf - 3, inf - 2, inf - 1}
	for i := range fractionOf(size) {
		l = append(l, 1<<i, 1<<i+1)
	}
	return l
}

// powers are all powers of two above the patterns with E 0, and those beside them.
func powers(size int) []uint64 {
	var l []uint64
	for p := uint64(1) << fractionOf(size); p < infOf(size); p += 1 << fractionOf(size) {
		l = append(l, p-1, p, p+1)
	}
	return l
}

// some are finite patterns out of all of them, many with an E near that of 1,
// where decimals just between two patterns have few digits.
func some(c *chance, size, count int) []uint64 {
	var l []uint64
	one := infOf(size) / 2 >> fractionOf(size)
	for len(l) < count {
		p := c.bits() & (signOf(size) - 1)
		if len(l)%2 == 0 {
			p = p%(1<<fractionOf(size)) + (one+uint64(c.below(80)))<<fractionOf(size)
		}
		if p < infOf(size) {
			l = append(l, p)
		}
	}
	return l
}

func TestExamples(t *testing.T) {
	if neg, m, e, what := Parts(0x3ff8000000000000, 64); neg || m != 6755399441055744 || e != -52 || what != Finite {
		t.Error(neg, m, e, what)
	}
	if neg, m, e, what := Parts(0x7f800000, 32); neg || m != 0 || e != 0 || what != Inf {
		t.Error(neg, m, e, what)
	}
	reads(t, dec("1", 0), 64, 0x3fb999999999999a)
	reads(t, dec("1", 400), 64, 0x7ff0000000000000)
	shortens(t, 0x3fb999999999999a, 64, dec("1", 0))
	shortens(t, 0x3dcccccd, 32, dec("1", 0))
	shortens(t, 1, 64, dec("5", -323))
	if d, err := Shortest(0x7ff0000000000000, 64); err != api.ErrArg || d != (api.Dec{}) {
		t.Error(d, err)
	}
	if Finite != 0 || Inf != 1 || NaN != 2 || None != 3 {
		t.Error(Finite, Inf, NaN, None)
	}
}

// reads fails unless Read tells d as that pattern.
func reads(t *testing.T, d api.Dec, size int, want uint64) {
	t.Helper()
	if p, err := Read(d, size); err != api.OK || p != want {
		t.Errorf("Read(%.40v, %d): %x, %d, want %x", d, size, p, err, want)
	}
}

// shortens fails unless Shortest tells the pattern as that decimal.
func shortens(t *testing.T, bits uint64, size int, want api.Dec) {
	t.Helper()
	if d, err := Shortest(bits, size); err != api.OK || d != want {
		t.Errorf("Shortest(%x, %d): %v, %d, want %v", bits, size, d, err, want)
	}
}

type partsRow struct {
	bits uint64
	size int
	neg  bool
	m    uint64
	e    int
	what int
}

func (r partsRow) check(t *testing.T) {
	t.Helper()
	if neg, m, e, what := Parts(r.bits, r.size); neg != r.neg || m != r.m || e != r.e || what != r.what {
		t.Errorf("Parts(%x, %d): %t, %d, %d, %d", r.bits, r.size, neg, m, e, what)
	}
}

func TestPartsP51(t *testing.T) {
	for _, r := range []partsRow{
		{0, 64, false, 0, -1074, Finite}, {1 << 63, 64, true, 0, -1074, Finite}, {1, 64, false, 1, -1074, Finite}, {1<<63 | 1, 64, true, 1, -1074, Finite},
		{1<<52 - 1, 64, false, 1<<52 - 1, -1074, Finite}, {1 << 52, 64, false, 1 << 52, -1074, Finite}, {1<<52 + 1, 64, false, 1<<52 + 1, -1074, Finite}, {2 << 52, 64, false, 1 << 52, -1073, Finite},
		{0x3ff0000000000000, 64, false, 1 << 52, -52, Finite}, {0xbff0000000000000, 64, true, 1 << 52, -52, Finite}, {0x4340000000000000, 64, false, 1 << 52, 1, Finite}, {0x4330000000000000, 64, false, 1 << 52, 0, Finite},
		{0x7fefffffffffffff, 64, false, 1<<53 - 1, 971, Finite}, {0xffefffffffffffff, 64, true, 1<<53 - 1, 971, Finite},
		{0x7ff0000000000000, 64, false, 0, 0, Inf}, {0xfff0000000000000, 64, true, 0, 0, Inf}, {0x7ff0000000000001, 64, false, 0, 0, NaN}, {0xfff0000000000001, 64, true, 0, 0, NaN},
		{0x7ff8000000000000, 64, false, 0, 0, NaN}, {0x7fffffffffffffff, 64, false, 0, 0, NaN}, {math.MaxUint64, 64, true, 0, 0, NaN}, {0x80000000, 64, false, 1 << 31, -1074, Finite},
		{0, 32, false, 0, -149, Finite}, {1 << 31, 32, true, 0, -149, Finite}, {1, 32, false, 1, -149, Finite}, {1<<31 | 1, 32, true, 1, -149, Finite},
		{1<<23 - 1, 32, false, 1<<23 - 1, -149, Finite}, {1 << 23, 32, false, 1 << 23, -149, Finite}, {1<<23 + 1, 32, false, 1<<23 + 1, -149, Finite}, {2 << 23, 32, false, 1 << 23, -148, Finite},
		{0x3f800000, 32, false, 1 << 23, -23, Finite}, {0xbf800000, 32, true, 1 << 23, -23, Finite}, {0x7f7fffff, 32, false, 1<<24 - 1, 104, Finite}, {0xff7fffff, 32, true, 1<<24 - 1, 104, Finite},
		{0x7f800000, 32, false, 0, 0, Inf}, {0xff800000, 32, true, 0, 0, Inf}, {0x7f800001, 32, false, 0, 0, NaN}, {0xff800001, 32, true, 0, 0, NaN}, {0x7fc00000, 32, false, 0, 0, NaN}, {0xffffffff, 32, true, 0, 0, NaN},
	} {
		r.check(t)
		if r.size == 32 { // what stands above is not looked at
			for _, high := range []uint64{1 << 32, 1 << 63, 0xffffffff << 32, 0x7ff00000 << 32} {
				r.bits = r.bits&0xffffffff | high
				r.check(t)
			}
		}
	}
}

func TestPartsOtherSizesP51(t *testing.T) {
	for _, size := range wrongSizes() {
		for _, bits := range []uint64{0, 1, 0x3ff8000000000000, 0x7ff0000000000000, 0x7f800000, 0xff800001, 1 << 63, math.MaxUint64} {
			partsRow{bits, size, false, 0, 0, None}.check(t)
		}
	}
}

func TestPartsValuesP51(t *testing.T) {
	c := chance(51)
	for _, size := range sizes {
		top := uint64(1) << fractionOf(size)
		for _, p := range slices.Concat(edges(size), powers(size), some(&c, size, 2000)) {
			neg, m, e, what := Parts(p, size)
			if neg || what != Finite || m >= 2*top || (m < top) != (p < top) || e < -1074 || e > 971 {
				t.Fatalf("Parts(%x, %d): %t, %d, %d, %d", p, size, neg, m, e, what)
			}
			value := new(big.Rat).SetFloat64(math.Ldexp(float64(m), e))
			if value.Cmp(valueAt(p, size)) != 0 {
				t.Fatalf("Parts(%x, %d): %d, %d", p, size, m, e)
			}
			if neg, m2, e2, what := Parts(p|signOf(size), size); !neg || m2 != m || e2 != e || what != Finite {
				t.Fatalf("Parts of -%x: %t, %d, %d, %d", p, neg, m2, e2, what)
			}
		}
	}
}

func TestReadWrittenP52(t *testing.T) {
	const D, P = api.MaxDigits, api.MaxPoint
	noughts := strings.Repeat("0", D-1)
	for _, x := range []struct {
		d    api.Dec
		size int
		want uint64
	}{
		{dec("", 0), 64, 0}, {dec("", P), 64, 0}, {dec("", -P), 32, 0}, {dec("0", 3), 64, 0}, {dec(noughts+"0", P), 32, 0},
		{dec("1", 1), 64, 0x3ff0000000000000}, {dec("1", 1), 32, 0x3f800000}, {dec("0010", 3), 64, 0x3ff0000000000000}, {dec("15", 1), 64, 0x3ff8000000000000}, {dec("00150", 3), 32, 0x3fc00000}, {dec(noughts+"1", D), 64, 0x3ff0000000000000}, {dec("1"+noughts, 1), 32, 0x3f800000},
		{dec("1", 0), 32, 0x3dcccccd}, {dec("3333333333333333333333333333", 0), 64, 0x3fd5555555555555}, {dec("1", 23), 64, 0x4480f0cf064dd592}, {dec("1", 24), 64, 0x44b52d02c7e14af6}, {dec("9007199254740993", 16), 64, 0x4340000000000000}, {dec("9007199254740995", 16), 64, 0x4340000000000002}, {dec("90071992547409930000001", 16), 64, 0x4340000000000001},
		{dec("16777217", 8), 32, 0x4b800000}, {dec("16777219", 8), 32, 0x4b800002}, {dec("167772170001", 8), 32, 0x4b800001}, {dec("16777216999", 8), 32, 0x4b800000},
		{dec("24703282292062327208", -323), 64, 0}, {dec("24703282292062327209", -323), 64, 1}, {dec("25", -323), 64, 1}, {dec("5", -323), 64, 1}, {dec("24", -323), 64, 0}, {dec("1", -323), 64, 0}, {dec("1", -P), 64, 0}, {dec(noughts+"1", -P), 64, 0}, {dec(strings.Repeat("9", D), -P), 32, 0},
		{dec("7006492321624085354", -45), 32, 0}, {dec("7006492321624085355", -45), 32, 1}, {dec("14", -44), 32, 1}, {dec("1", -44), 32, 1}, {dec("7", -45), 32, 0},
		{dec("22250738585072011", -307), 64, 0x000fffffffffffff}, {dec("22250738585072014", -307), 64, 0x0010000000000000}, {dec("11754944", -37), 32, 0x00800000}, {dec("11754942", -37), 32, 0x007fffff},
		{dec("17976931348623157", 309), 64, 0x7fefffffffffffff}, {dec("17976931348623158", 309), 64, 0x7fefffffffffffff}, {dec("17976931348623159", 309), 64, 0x7ff0000000000000}, {dec("18", 309), 64, 0x7ff0000000000000}, {dec("1", 310), 64, 0x7ff0000000000000}, {dec("1", P), 64, 0x7ff0000000000000}, {dec(strings.Repeat("9", D), P), 64, 0x7ff0000000000000}, {dec(noughts+"1", P), 64, 0x7ff0000000000000},
		{dec("34028235", 39), 32, 0x7f7fffff}, {dec("34028236", 39), 32, 0x7f800000}, {dec("340282356779733661637539395458142568448", 39), 32, 0x7f800000}, {dec("340282356779733661637539395458142568447", 39), 32, 0x7f7fffff}, {dec("1", 40), 32, 0x7f800000}, {dec("1", 400), 32, 0x7f800000}, {dec("1", P), 32, 0x7f800000},
	} {
		reads(t, x.d, x.size, x.want)
	}
}

// TestReadBetweenP52: decimals just between two patterns, and just beside that.
func TestReadBetweenP52(t *testing.T) {
	c := chance(52)
	for _, size := range sizes {
		for _, p := range slices.Concat(edges(size), some(&c, size, 150)) {
			r := new(big.Rat).Add(valueAt(p, size), valueAt(p+1, size))
			r.Quo(r, big.NewRat(2, 1))
			reads(t, decOf(t, r, exactPlaces(r)), size, p+p%2)
			// As little beside it as the count of digits leaves room for.
			k := min(1600, api.MaxDigits-len(new(big.Int).Quo(r.Num(), r.Denom()).String()))
			little := new(big.Rat).SetFrac(big.NewInt(1), ten(k))
			reads(t, decOf(t, new(big.Rat).Sub(r, little), k), size, p)
			reads(t, decOf(t, new(big.Rat).Add(r, little), k), size, p+1)
		}
	}
}

// TestReadP52 holds Read against Go's library, and against the chapter's words.
func TestReadP52(t *testing.T) {
	c := chance(520)
	for i := range 2500 {
		size := sizes[i%2]
		digits := strings.Repeat("0", c.below(3))
		for range c.below(30) {
			digits += string("0000999512345678"[c.below(16)])
		}
		d := dec(digits, c.below(760)-400)
		if i%3 == 0 {
			d.Point = c.below(100) - 50
		}
		value := valueOf(t, d)
		want := bitsOf(value, size)
		reads(t, d, size, want)
		if want != parsed(d, size) {
			t.Fatal("Go's readings of", d, "differ")
		}
		if want == infOf(size) {
			continue
		}
		distance := func(p uint64) *big.Rat {
			r := new(big.Rat).Sub(valueAt(p, size), value)
			return r.Abs(r)
		}
		p, _ := Read(d, size)
		for _, q := range []uint64{p - 1, p + 1} {
			if p == 0 && q != 1 {
				continue
			}
			if side := distance(p).Cmp(distance(q)); side > 0 || side == 0 && p%2 == 1 {
				t.Errorf("Read(%v, %d): %x, not %x", d, size, p, q)
			}
		}
	}
}

// TestReadErrorsP52: a wrong size ahead of what Norm refuses.
func TestReadErrorsP52(t *testing.T) {
	const D, P = api.MaxDigits, api.MaxPoint
	wrong := []api.Dec{
		dec(strings.Repeat("1", D+1), 0), dec(strings.Repeat("0", D+1), 0), dec(strings.Repeat("x", D+1), 0), dec("1", P+1), dec("1", -P-1), dec("", P+1), dec("0", -P-1), dec("1", math.MaxInt), dec("1", math.MinInt), dec("001", -P-1),
		dec("x", 0), dec("1x", 0), dec("-1", 0), dec("1.5", 0), dec(" 1", 0), dec("1e5", 0), dec("٣", 0), dec("\xff", 0), dec("x", P+1), dec("x", math.MinInt), dec("inf", 0), dec("nan", 0), dec("NaN", 0),
	}
	refused := func(d api.Dec, size int, want api.Errno) {
		t.Helper()
		if p, err := Read(d, size); err != want || p != 0 {
			t.Errorf("Read(%.20v, %d): %x, %d, want %d", d, size, p, err, want)
		}
	}
	for _, d := range wrong {
		_, want := bigdec.Norm(d)
		if want == api.OK {
			t.Fatal("not wrong:", d)
		}
		for _, size := range sizes {
			refused(d, size, want)
		}
		for _, size := range wrongSizes() {
			refused(d, size, api.ErrArg)
		}
	}
	for _, size := range wrongSizes() {
		for _, d := range []api.Dec{{}, dec("1", 0), dec("0010", 3), dec("1", 400)} {
			refused(d, size, api.ErrArg)
		}
	}
}

func TestShortestWrittenP53(t *testing.T) {
	for _, x := range []struct {
		bits uint64
		size int
		want api.Dec
	}{
		{0, 64, dec("", 0)}, {1 << 63, 64, dec("", 0)}, {0, 32, dec("", 0)}, {1 << 31, 32, dec("", 0)}, {1 << 63, 32, dec("", 0)}, {1 << 32, 32, dec("", 0)},
		{1, 64, dec("5", -323)}, {1<<63 | 1, 64, dec("5", -323)}, {2, 64, dec("1", -322)}, {3, 64, dec("15", -322)}, {4, 64, dec("2", -322)}, {1, 32, dec("1", -44)}, {1<<31 | 1, 32, dec("1", -44)}, {2, 32, dec("3", -44)}, {3, 32, dec("4", -44)}, {7, 32, dec("1", -43)},
		{0x000fffffffffffff, 64, dec("2225073858507201", -307)}, {0x0010000000000000, 64, dec("22250738585072014", -307)}, {0x0010000000000001, 64, dec("2225073858507202", -307)}, {0x7fefffffffffffff, 64, dec("17976931348623157", 309)}, {0xffefffffffffffff, 64, dec("17976931348623157", 309)},
		{0x007fffff, 32, dec("11754942", -37)}, {0x00800000, 32, dec("11754944", -37)}, {0x7f7fffff, 32, dec("34028235", 39)}, {0xff7fffff, 32, dec("34028235", 39)}, {0xffffffff7f7fffff, 32, dec("34028235", 39)},
		{0x3ff0000000000000, 64, dec("1", 1)}, {0xbff8000000000000, 64, dec("15", 1)}, {0x3fb999999999999a, 64, dec("1", 0)}, {0x3fb999999999999b, 64, dec("10000000000000002", 0)}, {0x400921fb54442d18, 64, dec("3141592653589793", 1)}, {0x3fd5555555555555, 64, dec("3333333333333333", 0)}, {0x3f800000, 32, dec("1", 1)}, {0x3eaaaaab, 32, dec("33333334", 0)}, {0x40490fdb, 32, dec("31415927", 1)}, {0x3dcccccd, 32, dec("1", 0)},
		{0x44b52d02c7e14af6, 64, dec("1", 24)}, {0x44b52d02c7e14af5, 64, dec("9999999999999997", 23)}, {0x44b52d02c7e14af7, 64, dec("10000000000000001", 24)}, {0x4340000000000000, 64, dec("9007199254740992", 16)}, {0x4340000000000001, 64, dec("9007199254740994", 16)}, {0x4b800000, 32, dec("16777216", 8)},
		// Of two as near the one whose last digit is even.
		{math.Float64bits(1125899906842624.25), 64, dec("11258999068426242", 16)}, {math.Float64bits(1125899906842624.75), 64, dec("11258999068426248", 16)}, {uint64(math.Float32bits(2097152.25)), 32, dec("20971522", 7)}, {uint64(math.Float32bits(2097152.75)), 32, dec("20971528", 7)},
		// The nearest one below a power of two is read as the next pattern below.
		{math.Float64bits(math.Ldexp(1, -44)), 64, dec("5684341886080802", -13)}, {math.Float64bits(math.Ldexp(1, -1022)), 64, dec("22250738585072014", -307)}, {uint64(math.Float32bits(float32(math.Ldexp(1, 90)))), 32, dec("12379401", 28)},
		// Just between two patterns: read as the one with an even m alone.
		{math.Float64bits(18014398509482008), 64, dec("1801439850948201", 17)}, {math.Float64bits(18014398509482032), 64, dec("1801439850948203", 17)}, {math.Float64bits(18014398509482028), 64, dec("18014398509482028", 17)}, {math.Float64bits(18014398509482012), 64, dec("18014398509482012", 17)}, {uint64(math.Float32bits(33554448)), 32, dec("3355445", 8)}, {uint64(math.Float32bits(33554452)), 32, dec("33554452", 8)},
	} {
		shortens(t, x.bits, x.size, x.want)
	}
}

// TestShortestErrorsP53: other sizes, and what is not finite.
func TestShortestErrorsP53(t *testing.T) {
	refused := func(bits uint64, size int) {
		t.Helper()
		if d, err := Shortest(bits, size); err != api.ErrArg || d != (api.Dec{}) {
			t.Errorf("Shortest(%x, %d): %v, %d", bits, size, d, err)
		}
	}
	for _, size := range wrongSizes() {
		for _, bits := range []uint64{0, 1, 0x3ff0000000000000, 0x3f800000, 0x7ff0000000000000, math.MaxUint64} {
			refused(bits, size)
		}
	}
	for _, bits := range []uint64{0x7ff0000000000000, 0xfff0000000000000, 0x7ff0000000000001, 0xfff0000000000001, 0x7ff8000000000000, 0x7fffffffffffffff, math.MaxUint64} {
		refused(bits, 64)
	}
	for _, bits := range []uint64{0x7f800000, 0xff800000, 0x7f800001, 0xff800001, 0x7fc00000, 0x7fffffff, 0xffffffff} {
		refused(bits, 32)
		refused(bits|0x3ff00000<<32, 32)
		refused(bits|0xffffffff<<32, 32)
	}
}

// searched answers what the chapter's words ask of Shortest, by looking at the
// decimals of n digits beside the value, for n from 1 on.
func searched(t *testing.T, p uint64, size int) api.Dec {
	value := valueAt(p, size)
	exact := decOf(t, value, exactPlaces(value))
	for n := 1; ; n++ {
		var best api.Dec
		var least *big.Rat
		first, _ := new(big.Int).SetString((exact.Digits + strings.Repeat("0", n))[:n], 10)
		for step := int64(-2); step <= 3; step++ {
			digits := new(big.Int).Add(first, big.NewInt(step)).String()
			bare := strings.TrimRight(digits, "0")
			d := dec(bare, exact.Point+len(digits)-n)
			if bare == "" || digits[0] == '-' || len(bare) > n || parsed(d, size) != p {
				continue
			}
			far := valueOf(t, d)
			far.Abs(far.Sub(far, value))
			if least != nil && far.Cmp(least) == 0 && bare[len(bare)-1]%2 == 1 {
				continue
			}
			if least == nil || far.Cmp(least) <= 0 {
				best, least = d, far
			}
		}
		if least != nil {
			return best
		}
	}
}

func TestShortestP53(t *testing.T) {
	c := chance(53)
	for _, size := range sizes {
		for _, p := range slices.Concat(edges(size)[1:], powers(size), some(&c, size, 3000)) {
			want := searched(t, p, size)
			shortens(t, p, size, want)
			shortens(t, p|signOf(size), size, want)
			if size == 32 {
				shortens(t, p|c.bits()<<32, size, want)
			}
		}
	}
}

// TestShortestGoP53: Go's library has the same shortest decimals.
func TestShortestGoP53(t *testing.T) {
	c := chance(530)
	for _, size := range sizes {
		for _, p := range slices.Concat(edges(size)[1:], some(&c, size, 6000)) {
			f := math.Float64frombits(p)
			if size == 32 {
				f = float64(math.Float32frombits(uint32(p)))
			}
			digits, power, _ := strings.Cut(strconv.FormatFloat(f, 'e', -1, size), "e")
			n, err := strconv.Atoi(power)
			if err != nil {
				t.Fatal(err)
			}
			shortens(t, p, size, dec(strings.Replace(digits, ".", "", 1), n+1))
		}
	}
}

func TestReadBackP54(t *testing.T) {
	c := chance(54)
	for _, size := range sizes {
		for _, p := range slices.Concat([]uint64{0}, edges(size), some(&c, size, 1000)) {
			d, err := Shortest(p|signOf(size), size)
			if err != api.OK {
				t.Fatal(p, size, err)
			}
			reads(t, d, size, p)
		}
	}
}

// TestFewestNearestP55 asks by Read itself.
func TestFewestNearestP55(t *testing.T) {
	c := chance(55)
	for _, size := range sizes {
		for _, p := range slices.Concat(edges(size)[1:], some(&c, size, 60)) {
			d, _ := Shortest(p, size)
			value := valueAt(p, size)
			exact := decOf(t, value, exactPlaces(value))
			if n := len(d.Digits) - 1; n > 0 { // the next ones below and above of one digit less
				below := dec((exact.Digits + strings.Repeat("0", n))[:n], exact.Point)
				above, _ := bigdec.Add(below, dec("1", exact.Point-n+1))
				for _, fewer := range []api.Dec{below, above} {
					if q, err := Read(fewer, size); err != api.OK || q == p {
						t.Errorf("%v is read as %x, and has fewer digits than %v", fewer, p, d)
					}
				}
			}
			far := new(big.Rat).Sub(valueOf(t, d), value)
			far.Abs(far)
			unit := valueOf(t, dec("1", d.Point-len(d.Digits)+1))
			for _, other := range []*big.Rat{new(big.Rat).Add(valueOf(t, d), unit), new(big.Rat).Sub(valueOf(t, d), unit)} {
				away := new(big.Rat).Sub(other, value)
				if bitsOf(other, size) == p && away.Abs(away).Cmp(far) < 0 {
					t.Errorf("%s is nearer to %x than %v", other.FloatString(30), p, d)
				}
			}
		}
	}
}

// TestReadExactP56: exact values, in form or not.
func TestReadExactP56(t *testing.T) {
	c := chance(56)
	for _, size := range sizes {
		for _, p := range slices.Concat(edges(size), some(&c, size, 300)) {
			_, m, e, _ := Parts(p, size)
			d, err := bigdec.Exact(m, e)
			if err != api.OK {
				t.Fatal(m, e, err)
			}
			reads(t, d, size, p)
			n := c.below(300)
			reads(t, dec(strings.Repeat("0", n)+d.Digits+"00", d.Point+n), size, p)
		}
	}
}

// TestReadOrderP56: a greater decimal is never read as a lesser pattern.
func TestReadOrderP56(t *testing.T) {
	c := chance(560)
	for i := range 1200 {
		size := sizes[i%2]
		p := some(&c, size, 2)[i/2%2]
		d, _ := Shortest(p, size)
		for len(d.Digits) < 12 {
			d.Digits += "0"
		}
		digits := []byte(d.Digits)
		at := c.below(len(digits))
		digits[at] = '0' + byte(c.below(10))
		other := dec(string(digits)+strconv.Itoa(c.below(1000)), d.Point)
		q, err := Read(other, size)
		side, _ := bigdec.Cmp(d, other)
		if err != api.OK || side < 0 && q < p || side > 0 && q > p || side == 0 && q != p {
			t.Errorf("size %d: %v is read as %x, %v as %x", size, d, p, other, q)
		}
	}
}

// TestSearch: every pattern can be found, and the function is asked of none but
// those from 1 to the top one.
func TestSearch(t *testing.T) {
	for _, top := range []uint64{0, 1, 2, 3, 7, 8, 100, math.MaxUint64 - 1} {
		for _, want := range []uint64{0, 1, 2, 3, 6, 7, 8, 50, 99, 100, math.MaxUint64 - 2, math.MaxUint64 - 1} {
			if want > top {
				continue
			}
			got := greatest(top, func(p uint64) bool {
				if p == 0 || p > top {
					t.Error("asked of", p, "up to", top)
				}
				return p > want
			})
			if got != want {
				t.Errorf("up to %d: %d, want %d", top, got, want)
			}
		}
	}
}
