package bigdec

import (
	"math"
	"math/big"
	"strings"
	"testing"

	"platen/api"
)

// dec is short for a decimal.
func dec(digits string, point int) api.Dec { return api.Dec{Digits: digits, Point: point} }

// isInForm tells what the chapter calls in form.
func isInForm(d api.Dec) bool {
	if d.Digits == "" {
		return d.Point == 0
	}
	return strings.Trim(d.Digits, "0123456789") == "" && d.Digits[0] != '0' && d.Digits[len(d.Digits)-1] != '0'
}

// ten answers 10 to the power of n.
func ten(n int) *big.Int { return new(big.Int).Exp(big.NewInt(10), big.NewInt(int64(n)), nil) }

// valueOf answers the number that d is, by the chapter's first words.
func valueOf(t *testing.T, d api.Dec) *big.Rat {
	t.Helper()
	n, ok := new(big.Int).SetString("0"+d.Digits, 10)
	if !ok {
		t.Fatalf("%q is no number", d.Digits)
	}
	r := new(big.Rat).SetInt(n)
	if p := d.Point - len(d.Digits); p >= 0 {
		return r.Mul(r, new(big.Rat).SetInt(ten(p)))
	} else {
		return r.Quo(r, new(big.Rat).SetInt(ten(-p)))
	}
}

// same fails unless got is in form and is the number want.
func same(t *testing.T, got api.Dec, want *big.Rat, what ...any) {
	t.Helper()
	if !isInForm(got) || valueOf(t, got).Cmp(want) != 0 {
		t.Errorf("%v: got %v, want %v", what, got, want.FloatString(40))
	}
}

// chance is a row of numbers that is the same in every run.
type chance uint64

func (c *chance) below(n int) int {
	*c = *c*6364136223846793005 + 1442695040888963407
	return int(uint64(*c>>33) % uint64(n))
}

// digits answers so many digits, of which many are noughts, fives and nines.
func (c *chance) digits(n int) string {
	b := make([]byte, n)
	for i := range b {
		b[i] = "0000055999991234678"[c.below(19)]
	}
	return string(b)
}

// small are decimals of few digits, some of them not in form.
func small() []api.Dec {
	l := []api.Dec{{}, dec("", 3), dec("0", -2), dec("000", 0)}
	for _, digits := range []string{"1", "2", "4", "5", "6", "9", "10", "01", "05", "50", "25", "35", "45", "49", "51", "55", "95", "99", "105", "115", "125", "135", "149", "150", "151", "251", "0250", "449", "450", "499", "500", "501", "995", "985", "999", "1005", "9995", "99949999", "99950000", "123456789", "999999999", "1000000000", "1000000001", "999999999999999999", "0123450", "500000000000000000001", "499999999999999999999", "999999999999999999995"} {
		for _, point := range []int{-3, -1, 0, 1, 2, 5, 12} {
			l = append(l, dec(digits, point))
		}
	}
	return l
}

// large are decimals at the limits.
func large() []api.Dec {
	const D, P = api.MaxDigits, api.MaxPoint
	var l []api.Dec
	for _, point := range []int{-P, -P + 1, -D, 0, D, P - 1, P} {
		for _, digits := range []string{"", "1", "9", "5", strings.Repeat("9", D), strings.Repeat("9", D-1) + "5", "1" + strings.Repeat("0", D-2) + "1", strings.Repeat("0", D-1) + "5", strings.Repeat("0", D), "5" + strings.Repeat("0", D-1), strings.Repeat("45", D/2)} {
			l = append(l, dec(digits, point))
		}
	}
	return l
}

// wrong are decimals with the error that Norm has of them.
func wrong() map[api.Errno][]api.Dec {
	const D, P = api.MaxDigits, api.MaxPoint
	return map[api.Errno][]api.Dec{
		api.ErrBig: {
			dec(strings.Repeat("1", D+1), 0), dec(strings.Repeat("0", D+1), 0), dec(strings.Repeat("1", 5*D), 0),
			dec(strings.Repeat("x", D+1), 0), dec(strings.Repeat("x", D+1), P+1), dec(strings.Repeat("1", D)+"x", 0),
			dec("1", P+1), dec("1", -P-1), dec("1", math.MaxInt), dec("1", math.MinInt),
			dec("", P+1), dec("", -P-1), dec("0", P+1), dec("01", P+1), dec("10", -P-1), dec("", math.MaxInt), dec("", math.MinInt),
		},
		api.ErrForm: {
			dec("x", 0), dec("1x", 0), dec("x1", 0), dec("1x1", 0), dec("-1", 0), dec("+1", 0), dec("1.5", 0), dec(" 1", 0), dec("1 ", 0), dec("1e5", 0), dec("a", 0),
			dec("/", 0), dec(":", 0), dec("1\x00", 0), dec("\xff", 0), dec("٣", 0), dec("1_000", 0), dec("0x1", 0),
			dec("x", P+1), dec("x", math.MinInt), dec(strings.Repeat("0", D-1)+"x", 0), dec("x"+strings.Repeat("0", D-1), 0),
		},
	}
}

func TestExamples(t *testing.T) {
	check := func(got api.Dec, err api.Errno, want api.Dec) {
		t.Helper()
		if err != api.OK || got != want {
			t.Errorf("got %v, %d, want %v", got, err, want)
		}
	}
	of := func(d api.Dec, err api.Errno) func(want api.Dec) {
		return func(want api.Dec) { t.Helper(); check(d, err, want) }
	}
	of(Exact(1, -1))(dec("5", 0))
	of(Exact(3, 2))(dec("12", 2))
	of(Exact(0, 5))(dec("", 0))
	of(Norm(dec("0012300", 3)))(dec("123", 1))
	of(Round(dec("125", 1), 2))(dec("12", 1))
	of(Round(dec("135", 1), 2))(dec("14", 1))
	of(Round(dec("995", 1), 2))(dec("1", 2))
	of(Round(dec("5", 3), 0))(dec("", 0))
	of(Round(dec("51", 3), 0))(dec("1", 4))
	of(Places(dec("125", 1), 1))(dec("12", 1))
	of(Places(dec("25", 0), 1))(dec("2", 0))
	of(Places(dec("4", 0), 0))(dec("", 0))
	of(Add(dec("9", 0), dec("1", 0)))(dec("1", 1))
	if d, err := Norm(dec("1x", 0)); err != api.ErrForm || d != (api.Dec{}) {
		t.Error(d, err)
	}
}

func TestNormP41(t *testing.T) {
	const D, P = api.MaxDigits, api.MaxPoint
	for _, x := range [][2]api.Dec{
		{dec("", 0), dec("", 0)}, {dec("", 7), dec("", 0)}, {dec("0", -7), dec("", 0)}, {dec("0000", P), dec("", 0)}, {dec("", -P), dec("", 0)},
		{dec("1", 0), dec("1", 0)}, {dec("10", 5), dec("1", 5)}, {dec("01", 5), dec("1", 4)}, {dec("001", 1), dec("1", -1)}, {dec("10203", -4), dec("10203", -4)},
		{dec("0102030", 9), dec("10203", 8)}, {dec("1", P), dec("1", P)}, {dec("1", -P), dec("1", -P)}, {dec("001", -P), dec("1", -P-2)}, {dec("001", P), dec("1", P-2)},
		{dec(strings.Repeat("0", D-1)+"7", -P), dec("7", -P-D+1)}, {dec("7"+strings.Repeat("0", D-1), P), dec("7", P)}, {dec(strings.Repeat("8", D), 3), dec(strings.Repeat("8", D), 3)},
		{dec("0123456789", 1), dec("123456789", 0)}, {dec("9876543210", 1), dec("987654321", 1)},
	} {
		if d, err := Norm(x[0]); err != api.OK || d != x[1] {
			t.Errorf("Norm(%v): %v, %d", x[0], d, err)
		}
	}
	for _, d := range append(small(), large()...) {
		got, err := Norm(d)
		if err != api.OK {
			t.Error(d, err)
		}
		same(t, got, valueOf(t, d), "Norm", d)
	}
}

func TestErrorsP41(t *testing.T) {
	good := dec("15", 1)
	for want, l := range wrong() {
		for _, d := range l {
			if got, err := Norm(d); err != want || got != (api.Dec{}) {
				t.Errorf("Norm(%.20q, %d): %v, %d", d.Digits, d.Point, got, err)
			}
			for _, n := range []int{math.MinInt, -1, 0, 1, math.MaxInt} {
				if got, err := Round(d, n); err != want || got != (api.Dec{}) {
					t.Errorf("Round(%.20q, %d): %v, %d", d.Digits, d.Point, got, err)
				}
				if got, err := Places(d, n); err != want || got != (api.Dec{}) {
					t.Errorf("Places(%.20q, %d): %v, %d", d.Digits, d.Point, got, err)
				}
			}
			for _, x := range [][2]api.Dec{{d, good}, {good, d}, {d, d}} {
				twoFail(t, x[0], x[1], want)
			}
		}
	}
}

// TestFirstErrorP41: the error of a is told ahead of that of b.
func TestFirstErrorP41(t *testing.T) {
	for first, l := range wrong() {
		for _, a := range l {
			for _, l := range wrong() {
				for _, b := range l {
					twoFail(t, a, b, first)
				}
			}
		}
	}
}

func twoFail(t *testing.T, a, b api.Dec, want api.Errno) {
	t.Helper()
	if c, err := Cmp(a, b); err != want || c != 0 {
		t.Errorf("Cmp(%.20v, %.20v): %d, %d", a, b, c, err)
	}
	if d, err := Add(a, b); err != want || d != (api.Dec{}) {
		t.Errorf("Add(%.20v, %.20v): %v, %d", a, b, d, err)
	}
}

// mantissas are numbers around the powers of 2 and of 10.
func mantissas() []uint64 {
	l := []uint64{0, 1, 2, 3, 5, 10, 25, 999999999, 1000000000, 1000000001, 999999999999999999, 1000000000000000000, 6755399441055744, math.MaxUint64, math.MaxUint64 - 1, 12345678901234567890}
	for i := 4; i < 64; i += 5 {
		l = append(l, 1<<i-1, 1<<i, 1<<i+1)
	}
	return l
}

// powers are some powers of 2, all that are near to a limit or to 0 among them.
func powers() []int {
	l := []int{-1200, -1199, -1198, -1150, -1075, -1074, -1073, -997, -500, -149, -100, 100, 127, 499, 971, 1023, 1150, 1198, 1199, 1200}
	for e := -66; e <= 66; e++ {
		l = append(l, e)
	}
	return l
}

func TestExactP42(t *testing.T) {
	for _, m := range mantissas() {
		for _, e := range powers() {
			want := new(big.Rat).SetInt(new(big.Int).SetUint64(m))
			power := new(big.Rat).SetInt(new(big.Int).Lsh(big.NewInt(1), uint(max(e, -e))))
			if e < 0 {
				want.Quo(want, power)
			} else {
				want.Mul(want, power)
			}
			got, err := Exact(m, e)
			if err != api.OK {
				t.Error(m, e, err)
			}
			same(t, got, want, "Exact", m, e)
		}
	}
}

func TestExactFailsP42(t *testing.T) {
	for _, e := range []int{1201, -1201, 1202, 2000, -2000, math.MaxInt, math.MinInt, math.MaxInt32 + 1, 1 << 32} {
		for _, m := range []uint64{0, 1, math.MaxUint64} {
			if d, err := Exact(m, e); err != api.ErrArg || d != (api.Dec{}) {
				t.Error(m, e, d, err)
			}
		}
	}
}

// TestExactWrittenP42 holds some powers against what is written out.
func TestExactWrittenP42(t *testing.T) {
	for _, x := range []struct {
		m    uint64
		e    int
		want api.Dec
	}{
		{1, 0, dec("1", 1)}, {10, 0, dec("1", 2)}, {1, 10, dec("1024", 4)}, {1, -10, dec("9765625", -3)}, {5, 1, dec("1", 2)}, {1, 64, dec("18446744073709551616", 20)},
		{math.MaxUint64, 0, dec("18446744073709551615", 20)}, {0, 1200, dec("", 0)}, {0, -1200, dec("", 0)}, {0, 0, dec("", 0)}, {3, -1, dec("15", 1)}, {1024, -10, dec("1", 1)},
	} {
		if d, err := Exact(x.m, x.e); err != api.OK || d != x.want {
			t.Error(x, d, err)
		}
	}
}

func TestCmpP43(t *testing.T) {
	for _, x := range []struct {
		a, b api.Dec
		want int
	}{
		{dec("", 0), dec("", 0), 0}, {dec("", 5), dec("0", -5), 0}, {dec("", 0), dec("1", -5000), -1}, {dec("1", -5000), dec("0", 5000), 1},
		{dec("1", 1), dec("2", 1), -1}, {dec("9", 0), dec("1", 1), -1}, {dec("1", 1), dec("999", 0), 1}, {dec("12", 1), dec("1", 1), 1}, {dec("1", 1), dec("10000", 1), 0},
		{dec("010", 2), dec("1", 1), 0}, {dec("19", 1), dec("2", 1), -1}, {dec("2", 1), dec("19", 1), 1}, {dec("0009", 3), dec("8", 0), 1}, {dec("1", 5000), dec("9", 4999), 1},
		{dec("1", -10), dec("1", -9), -1}, {dec("0001", 5), dec("1", 2), 0},
	} {
		if c, err := Cmp(x.a, x.b); err != api.OK || c != x.want {
			t.Errorf("Cmp(%v, %v): %d, %d", x.a, x.b, c, err)
		}
	}
	var values []*big.Rat
	for _, d := range small() {
		values = append(values, valueOf(t, d))
	}
	for i, a := range small() {
		for k, b := range small() {
			if c, err := Cmp(a, b); err != api.OK || c != values[i].Cmp(values[k]) {
				t.Fatalf("Cmp(%v, %v): %d, %d", a, b, c, err)
			}
		}
	}
	for _, a := range large() {
		for _, b := range large() {
			want := valueOf(t, a).Cmp(valueOf(t, b))
			if c, err := Cmp(a, b); err != api.OK || c != want {
				t.Fatalf("Cmp(%.20v, %.20v): %d, %d", a, b, c, err)
			}
		}
	}
}

// adds holds Add(a, b) against the sum of the numbers that they are.
func adds(t *testing.T, a, b api.Dec) {
	t.Helper()
	want := new(big.Rat).Add(valueOf(t, a), valueOf(t, b))
	got, err := Add(a, b)
	if countOf(want) > api.MaxDigits {
		if err != api.ErrBig || got != (api.Dec{}) {
			t.Errorf("Add(%.20v, %.20v): %.20v, %d, want ErrBig", a, b, got, err)
		}
		return
	}
	if err != api.OK {
		t.Errorf("Add(%.20v, %.20v): %d", a, b, err)
	}
	same(t, got, want, "Add")
}

// countOf answers how many digits a decimal has from its first to its last.
func countOf(r *big.Rat) int {
	shifted := new(big.Rat).Mul(r, new(big.Rat).SetInt(ten(api.MaxPoint+api.MaxDigits)))
	return len(strings.Trim(shifted.Num().String(), "0"))
}

func TestAddP43(t *testing.T) {
	few := small()
	for i := 0; i < len(few); i += 3 {
		for k := 0; k < len(few); k += 4 {
			adds(t, few[i], few[k])
		}
	}
	c := chance(43)
	for range 300 {
		adds(t, dec(c.digits(c.below(60)), c.below(80)-40), dec(c.digits(c.below(60)), c.below(80)-40))
	}
}

// TestAddLimitsP43: sums with just as many digits as may be, one less, one more.
func TestAddLimitsP43(t *testing.T) {
	const D, P = api.MaxDigits, api.MaxPoint
	nines := strings.Repeat("9", D)
	for _, x := range []struct {
		a, b, want api.Dec
		err        api.Errno
	}{
		{dec("1", 1), dec("1", -D+2), dec("1"+strings.Repeat("0", D-2)+"1", 1), api.OK},
		{dec("1", 1), dec("1", -D+1), api.Dec{}, api.ErrBig},
		{dec("1", P), dec("1", -P), api.Dec{}, api.ErrBig},
		{dec(nines, 0), dec("1", -D+1), dec("1", 1), api.OK},
		{dec(nines, 0), dec("9", -D+1), dec("1"+strings.Repeat("0", D-1)+"8", 1), api.ErrBig},
		{dec(nines, 0), dec(nines, 0), dec("1"+strings.Repeat("9", D-1)+"8", 1), api.ErrBig},
		{dec(strings.Repeat("5", D), 0), dec(strings.Repeat("5", D), 0), dec(strings.Repeat("1", D)+"0", 1), api.OK},
		{dec(nines, P), dec("", 0), dec(nines, P), api.OK}, {dec("", 0), dec(nines, -P), dec(nines, -P), api.OK},
		{dec("", P), dec("1", -P), dec("1", -P), api.OK}, {dec("1", P), dec("0", -P), dec("1", P), api.OK},
		{dec("9", P), dec("1", P), dec("1", P+1), api.OK}, {dec("", 0), dec("", 0), dec("", 0), api.OK},
		{dec(strings.Repeat("0", D-1)+"1", -P), dec(strings.Repeat("0", D-1)+"9", -P), dec("1", -P-D+2), api.OK},
	} {
		want := x.want
		if x.err != api.OK {
			want = api.Dec{}
		} else {
			want = inForm(want)
		}
		for _, o := range [][2]api.Dec{{x.a, x.b}, {x.b, x.a}} {
			if d, err := Add(o[0], o[1]); err != x.err || d != want {
				t.Errorf("Add(%.20v, %.20v): %.20v, %d", o[0], o[1], d, err)
			}
		}
	}
	for i, a := range large() {
		for k, b := range large() {
			if (i+k)%3 == 0 {
				adds(t, a, b)
			}
		}
	}
}

// nearest answers what the chapter says of rounding r to units of 10 to the
// power of place: the nearest whole number of them, of two as near the even one.
func nearest(r *big.Rat, place int) *big.Rat {
	unit := new(big.Rat).SetInt(ten(max(place, -place)))
	if place < 0 {
		unit.Inv(unit)
	}
	units := new(big.Rat).Quo(r, unit)
	n := new(big.Int).Quo(units.Num(), units.Denom())
	part := new(big.Rat).Sub(units, new(big.Rat).SetInt(n))
	if c := part.Cmp(big.NewRat(1, 2)); c > 0 || c == 0 && n.Bit(0) == 1 {
		n.Add(n, big.NewInt(1))
	}
	return unit.Mul(unit, new(big.Rat).SetInt(n))
}

// rounds holds Round and Places of d against nearest.
func rounds(t *testing.T, d api.Dec, n int) {
	t.Helper()
	r := valueOf(t, d)
	form, err := Norm(d)
	if err != api.OK {
		t.Fatal(d, err)
	}
	want := new(big.Rat)
	if n >= 0 && form.Digits != "" {
		want = nearest(r, form.Point-n)
	}
	got, err := Round(d, n)
	if err != api.OK {
		t.Error(d, n, err)
	}
	same(t, got, want, "Round", d, n)
	got, err = Places(d, n)
	if err != api.OK {
		t.Error(d, n, err)
	}
	same(t, got, nearest(r, -n), "Places", d, n)
}

func TestRoundPlacesP44(t *testing.T) {
	for _, d := range small() {
		for n := -14; n <= 24; n++ {
			rounds(t, d, n)
		}
	}
	c := chance(44)
	for range 1500 {
		d := dec(c.digits(c.below(50)), c.below(60)-30)
		rounds(t, d, c.below(100)-50)
	}
}

func TestRoundWrittenP44(t *testing.T) {
	const D, P = api.MaxDigits, api.MaxPoint
	nines := strings.Repeat("9", D)
	for _, x := range []struct {
		d    api.Dec
		n    int
		want api.Dec
	}{
		{dec("12345", 2), 5, dec("12345", 2)}, {dec("12345", 2), 6, dec("12345", 2)}, {dec("12345", 2), math.MaxInt, dec("12345", 2)}, {dec("12345", 2), 4, dec("1234", 2)}, {dec("12355", 2), 4, dec("1236", 2)},
		{dec("12345", 2), 3, dec("123", 2)}, {dec("12345", 2), 1, dec("1", 2)}, {dec("12345", 2), 0, dec("", 0)}, {dec("12345", 2), -1, dec("", 0)}, {dec("99", 2), -1, dec("", 0)}, {dec("12345", 2), math.MinInt, dec("", 0)},
		{dec("10005", 1), 4, dec("1", 1)}, {dec("10015", 1), 4, dec("1002", 1)}, {dec("100051", 1), 4, dec("1001", 1)}, {dec("002500", 3), 1, dec("2", 1)}, {dec("003500", 3), 1, dec("4", 1)}, {dec("00250010", 3), 1, dec("3", 1)},
		{dec("5", 0), 0, dec("", 0)}, {dec("50", 0), 0, dec("", 0)}, {dec("0500", 0), 0, dec("", 0)}, {dec("5001", 0), 0, dec("1", 1)}, {dec("6", 0), 0, dec("1", 1)}, {dec("4999", 0), 0, dec("", 0)}, {dec("95", 0), 1, dec("1", 1)}, {dec("85", 0), 1, dec("8", 0)},
		{dec("", 0), 0, dec("", 0)}, {dec("", 0), 5, dec("", 0)}, {dec("000", 9), 0, dec("", 0)}, {dec("", 0), -5, dec("", 0)}, {dec("", 0), math.MinInt, dec("", 0)},
		{dec(nines, P), D - 1, dec("1", P+1)}, {dec(nines, P), D, dec(nines, P)}, {dec(nines, -P), 0, dec("1", -P+1)}, {dec(nines, -P), 1, dec("1", -P+1)}, {dec(strings.Repeat("8", D), 0), D - 1, dec(strings.Repeat("8", D-2)+"9", 0)},
		{dec(strings.Repeat("0", D-1)+"6", -P), 0, dec("1", -P-D+2)},
	} {
		if d, err := Round(x.d, x.n); err != api.OK || d != x.want {
			t.Errorf("Round(%.20v, %d): %.20v, %d", x.d, x.n, d, err)
		}
	}
}

func TestPlacesWrittenP44(t *testing.T) {
	const D, P = api.MaxDigits, api.MaxPoint
	for _, x := range []struct {
		d    api.Dec
		k    int
		want api.Dec
	}{
		{dec("125", 1), 2, dec("125", 1)}, {dec("125", 1), 0, dec("1", 1)}, {dec("15", 1), 0, dec("2", 1)}, {dec("25", 1), 0, dec("2", 1)}, {dec("5", 0), 0, dec("", 0)}, {dec("51", 0), 0, dec("1", 1)}, {dec("95", 1), 0, dec("1", 2)},
		{dec("125", 3), -1, dec("12", 3)}, {dec("135", 3), -1, dec("14", 3)}, {dec("125", 3), -2, dec("1", 3)}, {dec("125", 3), -3, dec("", 0)}, {dec("5", 3), -3, dec("", 0)}, {dec("501", 3), -3, dec("1", 4)}, {dec("999", 3), -4, dec("", 0)},
		{dec("5", -3), 3, dec("", 0)}, {dec("51", -3), 3, dec("1", -2)}, {dec("9", -4), 3, dec("", 0)}, {dec("05", -2), 3, dec("", 0)}, {dec("015", -2), 4, dec("2", -3)}, {dec("00099500", 3), 1, dec("1", 1)},
		{dec("125", 3), math.MinInt, dec("", 0)}, {dec("125", -3), math.MinInt, dec("", 0)}, {dec("125", 3), math.MaxInt, dec("125", 3)}, {dec("125", -3), math.MaxInt, dec("125", -3)}, {dec("", 0), 0, dec("", 0)}, {dec("", 5), math.MaxInt, dec("", 0)}, {dec("", 5), math.MinInt, dec("", 0)},
		{dec("6", P), -P, dec("1", P+1)}, {dec("5", P), -P, dec("", 0)}, {dec("9", P), -P - 1, dec("", 0)}, {dec("9", P), -P + 1, dec("9", P)}, {dec("6", -P), P, dec("1", -P+1)}, {dec("9", -P), P - 1, dec("", 0)}, {dec("9", -P), P + 1, dec("9", -P)},
		{dec(strings.Repeat("0", D-1)+"6", -P), P + D - 1, dec("1", -P-D+2)}, {dec(strings.Repeat("0", D-1)+"6", -P), P + D, dec("6", -P-D+1)}, {dec(strings.Repeat("9", D), -P), P + D - 1, dec("1", -P+1)}, {dec(strings.Repeat("9", D), -P), P + D, dec(strings.Repeat("9", D), -P)},
	} {
		if d, err := Places(x.d, x.k); err != api.OK || d != x.want {
			t.Errorf("Places(%.20v, %d): %.20v, %d", x.d, x.k, d, err)
		}
	}
}

func TestRoundLimitsP44(t *testing.T) {
	const D, P = api.MaxDigits, api.MaxPoint
	for i, d := range large() {
		for k, n := range []int{-P - 1, -P, -D, -1, 0, 1, D - 1, D, D + 1, P - 1, P, P + 1, P + D - 1, P + D} {
			if (i+k)%2 == 0 {
				rounds(t, d, n)
			}
		}
	}
}

func TestTwiceP45(t *testing.T) {
	for _, m := range mantissas() {
		for _, e := range powers() {
			if e == 1200 {
				continue
			}
			d, err := Exact(m, e)
			twice, err2 := Add(d, d)
			next, err3 := Exact(m, e+1)
			if err != api.OK || err2 != api.OK || err3 != api.OK || twice != next {
				t.Errorf("Exact(%d, %d) twice: %v, not %v", m, e, twice, next)
			}
		}
	}
}

func TestOrderP46(t *testing.T) {
	c := chance(46)
	cmp := func(a, b api.Dec) int {
		n, err := Cmp(a, b)
		if err != api.OK {
			t.Fatal(a, b, err)
		}
		return n
	}
	add := func(a, b api.Dec) api.Dec {
		d, err := Add(a, b)
		if err != api.OK {
			t.Fatal(a, b, err)
		}
		return d
	}
	pick := func() api.Dec { return dec(c.digits(c.below(12)), c.below(12)-6) }
	for range 20000 {
		x, y, z := pick(), pick(), pick()
		if cmp(x, y) != -cmp(y, x) || cmp(x, x) != 0 {
			t.Fatal("turned round:", x, y)
		}
		if cmp(x, y) <= 0 && cmp(y, z) <= 0 && cmp(x, z) > 0 {
			t.Fatal("no order:", x, y, z)
		}
		if cmp(add(x, z), add(y, z)) != cmp(x, y) || add(x, y) != add(y, x) || add(add(x, y), z) != add(x, add(y, z)) {
			t.Fatal("does not go with Add:", x, y, z)
		}
	}
}

func TestRoundedStaysP47(t *testing.T) {
	c := chance(47)
	for range 3000 {
		d := inForm(dec(c.digits(1+c.below(40)), c.below(60)-30))
		n, k := c.below(44)-2, c.below(80)-40
		once, _ := Round(d, n)
		if again, err := Round(once, n); err != api.OK || n > 0 && again != once {
			t.Fatal("Round again:", d, n, once, again)
		}
		place := d.Point - n
		if n >= 0 && d.Digits != "" && distance(t, d, once).Cmp(half(place)) > 0 {
			t.Fatal("Round:", d, n, once)
		}
		once, _ = Places(d, k)
		if again, err := Places(once, k); err != api.OK || again != once {
			t.Fatal("Places again:", d, k, once, again)
		}
		if distance(t, d, once).Cmp(half(-k)) > 0 {
			t.Fatal("Places:", d, k, once)
		}
	}
}

func distance(t *testing.T, a, b api.Dec) *big.Rat {
	r := new(big.Rat).Sub(valueOf(t, a), valueOf(t, b))
	return r.Abs(r)
}

// half answers half a unit of the place 10 to the power of n.
func half(n int) *big.Rat {
	r := new(big.Rat).SetInt(ten(max(n, -n)))
	if n < 0 {
		r.Inv(r)
	}
	return r.Quo(r, big.NewRat(2, 1))
}

// TestPure: a call's answer hangs on no call ahead, and lists are the call's own.
func TestPure(t *testing.T) {
	a, b := append(make([]uint32, 0, 9), 1, 2, 3), append(make([]uint32, 0, 9), limbBase-1, limbBase-1, limbBase-1, 7)
	sum(a, b)
	sum(b, a)
	if a[0] != 1 || a[1] != 2 || a[2] != 3 || b[0] != limbBase-1 || b[3] != 7 {
		t.Error("sum changed what it was handed:", a, b)
	}
	if got := cut([]string{"", "a", "", ""}); len(got) != 2 {
		t.Error(got)
	}
	if got := cut([]uint32{0, 0}); len(got) != 0 {
		t.Error(got)
	}
}
