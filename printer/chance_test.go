package printer

import (
	"fmt"
	"math"
	"regexp"
	"strconv"
	"strings"
	"testing"

	"platen/api"
	"platen/hooks"
	"platen/quote"
	"platen/tree"
	"platen/values"
)

// chance is a row of numbers that is the same in each run.
type chance uint64

// below answers a number from 0 to n - 1.
func (c *chance) below(n int) int {
	*c ^= *c << 13
	*c ^= *c >> 7
	*c ^= *c << 17
	return int(uint64(*c) >> 11 % uint64(n))
}

// one answers one of these.
func one[T any](c *chance, l ...T) T { return l[c.below(len(l))] }

// directive is how chapter 9 cuts one, up to its verb.
var directive = regexp.MustCompile(`^%([-+# 0]*)(\[[0-9]+\]|\[)?(\*|[1-9][0-9]*)?(?:(\.)(\[[0-9]+\]|\[)?(\*|[0-9]*))?(\[[0-9]+\]|\[)?`)

// reckoning is a second way to a print, by the document's words: formats are
// cut by an expression, texts are put together whole, and what a hook says is
// reckoned here.
type reckoning struct {
	table   []api.Hook
	within  int // how many prints within prints it took
	indexed bool
	args    []values.Value
	next    int
	out     strings.Builder
}

// whole cuts a print that is too long.
func whole(s string) string {
	if len(s) > 4096 {
		return s[:4096] + "%!(TOOLONG)"
	}
	return s
}

// reckoned is what At tells, and how many prints within prints that took.
func reckoned(depth int, table []api.Hook, format string, args []api.Desc) (string, int) {
	if depth > 3 {
		return "%!(DEPTH)", 0
	}
	r := &reckoning{table: table, args: builtAll(args), next: 1}
	for format != "" {
		format = format[r.first(max(depth, 0), format):]
	}
	var left []string
	for i := r.next; i <= len(r.args); i++ {
		left = append(left, values.Type(r.args[i-1])+"="+r.show(max(depth, 0), r.args[i-1], api.Spec{Verb: 'v', Wid: -1, Prec: -1}))
	}
	if !r.indexed && len(left) > 0 {
		r.out.WriteString("%!(EXTRA " + strings.Join(left, ", ") + ")")
	}
	return whole(r.out.String()), r.within
}

func builtAll(args []api.Desc) []values.Value {
	var l []values.Value
	for i := 0; i < len(args) && i < 16; i++ {
		v, _ := values.Build(args[i])
		l = append(l, v)
	}
	return l
}

// first prints the first piece of a format, and answers how many bytes it has.
func (r *reckoning) first(depth int, format string) int {
	if at := strings.IndexByte(format, '%'); at != 0 {
		if at < 0 {
			at = len(format)
		}
		r.out.WriteString(format[:at])
		return at
	}
	m := directive.FindStringSubmatch(format)
	r.indexed = r.indexed || m[2]+m[5]+m[7] != ""
	if len(m[0]) == len(format) {
		r.out.WriteString("%!(NOVERB)")
		return len(format)
	}
	var verb rune
	size := len(format) - len(m[0])
	for i, c := range format[len(m[0]):] {
		if i > 0 {
			size = i
			break
		}
		verb = c
	}
	f := api.Spec{Wid: -1, Prec: -1, Verb: verb}
	for _, c := range m[1] {
		switch c {
		case '+':
			f.Plus = true
		case '-':
			f.Minus = true
		case '#':
			f.Sharp = true
		case ' ':
			f.Space = true
		case '0':
			f.Zero = true
		}
	}
	if m[3] != "" {
		n, ok := r.size(m[3], m[2])
		switch {
		case !ok || n < -1000:
			r.out.WriteString("%!(BADWIDTH)")
		case n < 0:
			f.Minus, f.Wid = true, -n
		default:
			f.Wid = n
		}
	}
	if m[4] != "" {
		n, ok := r.size("0"+m[6], m[5])
		if ok && n >= 0 {
			f.Prec = n
		} else {
			r.out.WriteString("%!(BADPREC)")
		}
	}
	r.verb(depth, f, m)
	return len(m[0]) + size
}

// size is the number of a width or a precision, at most 1000.
func (r *reckoning) size(written, index string) (int, bool) {
	if !strings.HasSuffix(written, "*") {
		x, err := strconv.ParseFloat(written, 64)
		return int(min(x, 1001)), err == nil && x <= 1000
	}
	v, ok := r.take(index)
	if !ok {
		return 0, false
	}
	d := values.Raw(v)
	switch {
	case d.Kind >= api.Int8 && d.Kind <= api.Int:
		return int(d.Bits), int64(d.Bits) <= 1000
	case d.Kind >= api.Uint8 && d.Kind <= api.Uint:
		return int(d.Bits), d.Bits <= 1000
	}
	return 0, false
}

// take is the argument of an index; an empty one: the next.
func (r *reckoning) take(index string) (values.Value, bool) {
	n := r.next
	if index != "" {
		digits := strings.Trim(index, "[]")
		if n, _ = strconv.Atoi(digits); len(digits) > 9 || digits == "" {
			n = 0
		}
	}
	if n < 1 || n > len(r.args) {
		return nil, false
	}
	r.next = n + 1
	return r.args[n-1], true
}

// verb prints what a directive's verb asks for.
func (r *reckoning) verb(depth int, f api.Spec, m []string) {
	if f.Verb == '%' {
		r.out.WriteString("%")
		return
	}
	var free []string
	wrong := false
	if m[2] != "" && m[3] != "*" {
		free = append(free, m[2])
		wrong = m[3] != "" || m[4] != ""
	}
	if m[5] != "" && m[6] != "*" {
		free = append(free, m[5])
		wrong = wrong || m[6] != ""
	}
	if m[7] != "" {
		free = append(free, m[7])
	}
	if wrong || len(free) > 1 {
		free = []string{"["}
	}
	v, ok := r.take(strings.Join(free, ""))
	switch {
	case ok:
		r.out.WriteString(r.show(depth, v, f))
	case len(free) > 0:
		r.out.WriteString("%!" + string(f.Verb) + "(BADINDEX)")
	default:
		r.out.WriteString("%!" + string(f.Verb) + "(MISSING)")
	}
}

// show is what Show tells of v, hooks being asked for a print of that depth.
func (r *reckoning) show(depth int, v values.Value, f api.Spec) string {
	deeper := func(format string, args ...api.Desc) string {
		s, n := reckoned(depth+1, r.table, format, args)
		r.within += n + 1
		return s
	}
	return tree.Show(v, f, func(v values.Value, f api.Spec) (string, bool) {
		n := values.Hook(v)
		if n < 1 || n > len(r.table) || n > 16 {
			return "", false
		}
		h := r.table[n-1]
		which := hooks.Which(h, f.Verb, f.Sharp)
		if which == hooks.None {
			return "", false
		}
		act := []api.Act{h.Format, h.Syntax, h.Error, h.String}[which-1]
		text := act.Text
		switch act.Kind {
		case api.Throws:
			if d := values.Raw(v); d.Kind == api.Ptr && len(d.Parts) == 0 {
				return "<nil>", true
			}
			return "%!" + string(f.Verb) + "(PANIC=" + hooks.Method(which) + " method: " + deeper("%v", act.Panic) + ")", true
		case api.Prints:
			text = deeper(act.Format, act.Args...)
		}
		if which == hooks.Error || which == hooks.String {
			text, _ = quote.Text(text, f)
		}
		return text, true
	})
}

// anyFormat answers a format of at most so many pieces.
func (c *chance) anyFormat(pieces int) string {
	s := ""
	for range c.below(pieces + 1) {
		if c.below(3) == 0 {
			s += one(c, "a", "é", "[1]", "\xff", "d", "%%", "]", "*", "")
			continue
		}
		s += "%" + one(c, "", "", "", "-", "+", "0", "#", " ", "+-", "-0", "# ")
		s += c.anyIndex() + c.anySize()
		if c.below(3) == 0 {
			s += "." + c.anyIndex() + one(c, "", "0", "2", "*", "*", "1000", "1001")
		}
		s += c.anyIndex() + one(c, "v", "v", "v", "s", "d", "d", "q", "x", "T", "t", "f", "z", "%", "日", "\xff", "!", "")
	}
	return s
}

func (c *chance) anyIndex() string {
	if c.below(3) > 0 {
		return ""
	}
	return one(c, "[1]", "[1]", "[2]", "[2]", "[3]", "[03]", "[4]", "[0]", "[", "[x]", "[16]", "[17]", "[1", "[]", "[1234567890]", "[000000001]")
}

func (c *chance) anySize() string {
	return one(c, "", "", "", "", "3", "9", "*", "*", "*", "10", "1000", "1001", "99999999999999999999")
}

// anyArgs answers at most so many descriptors, with hooks or without.
func (c *chance) anyArgs(most int) []api.Desc {
	var l []api.Desc
	for range c.below(most + 1) {
		l = append(l, c.anyDesc(3))
	}
	return l
}

func (c *chance) anyDesc(deep int) api.Desc {
	d := api.Desc{Kind: one(c, api.Int, api.Int, api.Int8, api.Uint64, api.Text, api.Text, api.Ptr, api.Slice, c.below(25)-1)}
	d.Bits = one(c, 0, 1, 5, uint64(c.below(20)), 1000, 1001, math.MaxUint64, math.MaxUint64-4, 1<<64-1000, 1<<64-1001, 1<<63)
	d.Text = one(c, "", "a", "té", "%d", "\xff")
	d.Type = one(c, "", "", "", "T", "a b")
	d.Hook = one(c, 0, 0, 1, 1, 2, 2, 3, 3, 4, 5, -1, 17)
	if deep == 0 || d.Kind < api.Struct {
		return d
	}
	n := c.below(3)
	switch {
	case d.Kind == api.Ptr:
		n = c.below(2)
	case d.Kind == api.Map:
		return of(api.Map, ofInt(1), c.anyDesc(deep-1), ofInt(2), c.anyDesc(deep-1))
	}
	for i := range n {
		d.Parts = append(d.Parts, c.anyDesc(deep-1))
		if d.Kind == api.Struct {
			d.Names = append(d.Names, "f"+strconv.Itoa(i))
		}
	}
	return d
}

// anyTable answers rows whose methods ask for prints with rows of it.
func (c *chance) anyTable() []api.Hook {
	act := func() api.Act {
		a := api.Act{Kind: one(c, 0, 0, api.Tells, api.Throws, api.Prints, api.Prints, api.Prints, 9), Text: one(c, "", "té", "long text"), Panic: c.anyDesc(1)}
		a.Format, a.Args = c.anyFormat(3), c.anyArgs(3)
		return a
	}
	var l []api.Hook
	for range 3 + c.below(3) {
		h := api.Hook{Syntax: act(), Error: act(), String: act()}
		if c.below(3) == 0 {
			h.Format = act()
		}
		l = append(l, h)
	}
	return l
}

func TestAnyPrintP141P142P143(t *testing.T) {
	c := chance(141)
	rounds, deep := 0, 0
	for range 40000 {
		table, format, args, depth := c.anyTable(), c.anyFormat(5), c.anyArgs(5), c.below(7)-1
		want, within := reckoned(depth, table, format, args)
		if within > 5000 {
			continue
		}
		rounds++
		if strings.Contains(want, "%!(DEPTH)") && depth < 3 {
			deep++
		}
		if got := At(depth, table, format, args); got != want {
			t.Fatalf("At %d %q of %+v with %+v:\n%q, not\n%q", depth, format, args, table, got, want)
		}
		if want, _ = reckoned(0, table, format, args); Sprintf(table, format, args) != want {
			t.Fatalf("Sprintf %q of %+v with %+v: not %q", format, args, table, want)
		}
		parted, joined := "", ""
		for i, v := range builtAll(args) {
			s := (&reckoning{table: table}).show(0, v, api.Spec{Verb: 'v', Wid: -1, Prec: -1})
			if i > 0 {
				parted += " "
				ahead, _ := values.Build(args[i-1])
				if values.Raw(ahead).Kind != api.Text && values.Raw(v).Kind != api.Text {
					joined += " "
				}
			}
			parted, joined = parted+s, joined+s
		}
		if got := Sprint(table, args); got != whole(joined) {
			t.Fatalf("Sprint of %+v with %+v:\n%q, not\n%q", args, table, got, joined)
		}
		if got := Sprintln(table, args); got != whole(parted+"\n") {
			t.Fatalf("Sprintln of %+v with %+v:\n%q, not\n%q", args, table, got, parted)
		}
	}
	if rounds < 30000 || deep < 500 {
		t.Error(rounds, deep)
	}
}

// All formats of a few of the parts that say something.
func TestAllShortFormatsP141(t *testing.T) {
	parts := []string{"%", "[1]", "[2]", "[9]", "[", "*", ".", "-", "5", "0", "d", "v", "x]", "%%"}
	argLists := [][]api.Desc{nil, ints(1), {ofInt(3), ofText("a")}, {ofInt(-4), ofInt(2), ofInt(7)}, {ofText("x"), hooked(1, ofInt(1)), {}}}
	table := rowsOf(api.Hook{Error: prints("<%d>", ofInt(8), ofInt(9)), Syntax: tells("G")})
	var try func(format string, left int)
	try = func(format string, left int) {
		for _, args := range argLists {
			if want, _ := reckoned(0, table, format, args); Sprintf(table, format, args) != want {
				t.Fatalf("%q of %+v: %q, not %q", format, args, Sprintf(table, format, args), want)
			}
		}
		if left == 0 {
			return
		}
		for _, part := range parts {
			try(format+part, left-1)
		}
	}
	try("", 3)
	try("%", 4)
}

// What Go's own print says of the same, where the document says no other
// thing: the index of a * is not wrong, % has no index of its own, and flags
// stand only where the verb may be.
func TestAsGoPrintsP141(t *testing.T) {
	c := new(chance)
	*c = 14
	given := []any{7, "té", 2.5, -3, uint8(4), true, 0, "b"}
	var descs []api.Desc
	for _, x := range given {
		switch x := x.(type) {
		case int:
			descs = append(descs, ofInt(x))
		case string:
			descs = append(descs, ofText(x))
		case float64:
			descs = append(descs, ofFloat(x))
		case uint8:
			descs = append(descs, number(api.Uint8, int(x)))
		case bool:
			descs = append(descs, api.Desc{Kind: api.Bool, Bits: 1})
		}
	}
	for range 200000 {
		n := c.below(len(given) + 1)
		within := func() string {
			if n == 0 || c.below(3) > 0 {
				return ""
			}
			return "[" + strconv.Itoa(1+c.below(n)) + "]"
		}
		format := ""
		for range c.below(6) {
			s := one(c, "", "x", "%%", "é") + "%"
			// Where a verb may not be Go's text has the width of the directive.
			verb := one(c, "v", "T", "d", "s", "z", "%")
			if verb == "v" || verb == "%" {
				s += one(c, "", "-", "-") + one(c, "", within()+"*", "5", "12")
				s += one(c, "", ".3", "."+within()+"*", ".", ".0")
			}
			index := within()
			switch {
			case verb == "%":
				index = ""
			case c.below(9) == 0:
				index = one(c, "[9]", "[0]", "[17]", "[1234567]")
			}
			format += s + index + verb
		}
		format += one(c, "", "", "y", "%")
		// Go takes the second of two indices for the verb.
		if strings.Contains(format, "][") {
			continue
		}
		want := fmt.Sprintf(format, given[:n]...)
		if got := Sprintf(nil, format, descs[:n]); got != want {
			t.Fatalf("%q of %v: %q, not %q", format, given[:n], got, want)
		}
	}
}
