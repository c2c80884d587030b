package values

import (
	"bytes"
	"slices"
	"strings"
	"testing"

	"platen/api"
)

// pick answers one of them.
func pick[T any](c *chance, l ...T) T { return l[c.below(len(l))] }

// anyKind answers a kind, now and then one that there isn't.
func (c *chance) anyKind(wrong int) int {
	if wrong > 0 && c.below(wrong) == 0 {
		return pick(c, -1, 23, 99)
	}
	if c.below(2) == 0 {
		return pick(c, api.Struct, api.Array, api.Slice, api.Map, api.Ptr)
	}
	return c.below(api.Ptr + 1)
}

// anyDesc answers a descriptor with at most so many in one another. Of so many
// of each sort one is wrong; none, if that is 0.
func (c *chance) anyDesc(deep, wrong int) api.Desc {
	d := api.Desc{Kind: c.anyKind(wrong), Bits: c.bits() >> c.below(64), Imag: c.bits(), Hook: c.below(20) - 2}
	d.Type = pick(c, "", "", "T", "U", "[]T", strings.Repeat("t", api.MaxName))
	d.Text = strings.Repeat(pick(c, "a", "b", "é", "\xff"), pick(c, 0, 1, 2, 3, api.MaxText/2))
	if wrong > 0 && c.below(wrong) == 0 {
		d.Type = pick(c, "a b", "é", strings.Repeat("t", api.MaxName+1))
	}
	if wrong > 0 && c.below(wrong) == 0 {
		d.Text = strings.Repeat("x", api.MaxText+1)
	}
	if deep < 2 {
		return d
	}
	return c.withParts(d, deep, wrong)
}

// withParts answers d with parts that it may have, or, now and then, may not.
func (c *chance) withParts(d api.Desc, deep, wrong int) api.Desc {
	n := c.below(4)
	switch d.Kind {
	case api.Ptr:
		n = c.below(2)
	case api.Map:
		n = 2 * n
	case api.Struct:
		d.Names = []string{"a", "_", "B9", strings.Repeat("n", api.MaxName)}[:n]
	}
	if wrong > 0 && c.below(wrong) == 0 {
		n++
	}
	for i := range n {
		part := c.anyDesc(deep-1, wrong)
		if d.Kind == api.Map && i%2 == 0 && (wrong == 0 || c.below(wrong) > 0) {
			// There are so few bits that some keys are there twice, where that may be.
			part = c.anyKey(i, wrong)
		}
		d.Parts = append(d.Parts, part)
	}
	if d.Kind == api.Struct && wrong > 0 && c.below(wrong) == 0 && n > 0 {
		d.Names = append(slices.Clone(d.Names[:n-1]), pick(c, "a", "_", "", "1", "x y"))
	}
	return d
}

// anyKey answers a key, of which no two are the same, if none may be wrong.
func (c *chance) anyKey(i, wrong int) api.Desc {
	d := api.Desc{Kind: pick(c, api.Bool, api.Int8, api.Int, api.Uint8, api.Uint, api.Text), Bits: uint64(c.below(5)) - 2, Type: pick(c, "", "T"), Hook: c.below(3)}
	d.Text = pick(c, "", "a", "b")
	if wrong == 0 {
		d.Type = string(letters[i])
	}
	return d
}

// node is a descriptor with the number of those that it stands in.
type node struct {
	api.Desc
	outer int
}

// lookedAt answers all descriptors that are looked at.
func lookedAt(d api.Desc) []node {
	l := []node{{d, 0}}
	for i := 0; i < len(l); i++ {
		switch l[i].Kind {
		case api.Struct, api.Array, api.Slice, api.Map, api.Ptr:
			for _, part := range l[i].Parts {
				l = append(l, node{part, l[i].outer + 1})
			}
		}
	}
	return l
}

// keyText answers a text that two keys share just where Cmp of them is 0.
func keyText(d api.Desc) string {
	value := d.Text
	if d.Kind != api.Text {
		value = string(rune(bitsOf(d.Kind, d.Bits) & 0xff))
	}
	return string(rune(d.Kind)) + d.Type + " " + value
}

// hasTwo tells whether one of the texts is there twice.
func hasTwo(l []string) bool {
	sorted := slices.Sorted(slices.Values(l))
	return len(slices.Compact(sorted)) < len(l)
}

// keysOf answers the keys of a map.
func keysOf(d api.Desc) []api.Desc {
	var keys []api.Desc
	for i := 0; i < len(d.Parts); i += 2 {
		keys = append(keys, d.Parts[i])
	}
	return keys
}

// has tells whether d, a node of a descriptor, has that error.
func has(d node, e api.Errno) bool {
	switch {
	case e == api.ErrBig:
		return (d.Kind == api.Text || d.Kind == api.Bytes) && len(d.Text) > 1024
	case e == api.ErrDeep:
		return d.outer > 7
	case e == api.ErrKind:
		return d.Kind < 0 || d.Kind > 22
	case e == api.ErrForm && d.Kind != api.Nil && (len(d.Type) > 32 || strings.ContainsFunc(d.Type, func(r rune) bool { return r < 33 || r > 126 })):
		return true
	case e == api.ErrForm && d.Kind == api.Struct:
		bad := func(s string) bool { return s == "" || len(s) > 32 || strings.ContainsAny(s, " é") || s[0] == '1' }
		return len(d.Names) != len(d.Parts) || slices.ContainsFunc(d.Names, bad)
	case e == api.ErrForm && d.Kind == api.Map:
		bad := func(key api.Desc) bool { return key.Kind < 1 || key.Kind > 11 && key.Kind != 16 }
		return len(d.Parts)%2 == 1 || slices.ContainsFunc(keysOf(d.Desc), bad)
	case e == api.ErrForm && d.Kind == api.Ptr:
		return len(d.Parts) > 1
	case e == api.ErrThere && d.Kind == api.Struct:
		return hasTwo(d.Names)
	case e == api.ErrThere && d.Kind == api.Map:
		var texts []string
		for _, key := range keysOf(d.Desc) {
			texts = append(texts, keyText(key))
		}
		return hasTwo(texts)
	}
	return false
}

// wantedError answers what Build tells of d.
func wantedError(d api.Desc) api.Errno {
	nodes := lookedAt(d)
	if len(nodes) > 64 {
		return api.ErrBig
	}
	for _, e := range []api.Errno{api.ErrBig, api.ErrDeep, api.ErrKind, api.ErrForm, api.ErrThere} {
		if slices.ContainsFunc(nodes, func(d node) bool { return has(d, e) }) {
			return e
		}
	}
	return api.OK
}

// lower tells whether the key a stands ahead of the key b, both in form.
func lower(a, b api.Desc) bool {
	signed := a.Kind >= api.Int8 && a.Kind <= api.Int
	switch {
	case a.Kind != b.Kind:
		return a.Kind < b.Kind
	case signed && a.Bits != b.Bits:
		return int64(a.Bits) < int64(b.Bits)
	case a.Bits != b.Bits:
		return a.Bits < b.Bits
	case a.Text != b.Text:
		return bytes.Compare([]byte(a.Text), []byte(b.Text)) < 0
	}
	return bytes.Compare([]byte(a.Type), []byte(b.Type)) < 0
}

// inForm answers d, of which there is a value, in form.
func inForm(d api.Desc) api.Desc {
	f := api.Desc{Kind: d.Kind, Bits: bitsOf(d.Kind, d.Bits), Imag: imagOf(d.Kind, d.Imag)}
	if d.Kind != api.Nil {
		f.Type, f.Hook = d.Type, d.Hook
	}
	if d.Kind == api.Text || d.Kind == api.Bytes {
		f.Text = d.Text
	}
	if d.Kind == api.Struct {
		f.Names = d.Names
	}
	if d.Kind < api.Struct {
		return f
	}
	for _, part := range d.Parts {
		f.Parts = append(f.Parts, inForm(part))
	}
	// Neighbours are turned round till no two are the wrong way.
	for turned := d.Kind == api.Map; turned; {
		turned = false
		for i := 2; i < len(f.Parts); i += 2 {
			if p := f.Parts[i-2:]; lower(p[2], p[0]) {
				p[0], p[1], p[2], p[3], turned = p[2], p[3], p[0], p[1], true
			}
		}
	}
	return f
}

func TestAnyDescriptorP82P83P84(t *testing.T) {
	c := chance(83)
	told := make(map[api.Errno]int)
	for i := range 60000 {
		// From none wrong to many, and from flat to too deep.
		d := c.anyDesc(1+i%10, []int{0, 0, 10, 40, 200}[i/10%5])
		want := wantedError(d)
		told[want]++
		if want != api.OK {
			refused(t, d, want)
			continue
		}
		v := built(t, d)
		if raw := Raw(v); !same(raw, inForm(d)) {
			t.Fatalf("%+v: %+v", d, raw)
		}
		nodes := lookedAt(d)
		deepest := slices.MaxFunc(nodes, func(a, b node) int { return a.outer - b.outer })
		if Size(v) != len(nodes) || Deep(v) != deepest.outer+1 || v.Kind() != d.Kind {
			t.Fatalf("%+v: %d, %d", d, Size(v), Deep(v))
		}
	}
	for _, e := range []api.Errno{api.OK, api.ErrBig, api.ErrDeep, api.ErrKind, api.ErrForm, api.ErrThere} {
		if told[e] < 100 {
			t.Errorf("%v: %d times", e, told[e])
		}
	}
}

func TestBuildOfRawP86(t *testing.T) {
	c := chance(86)
	for range 20000 {
		v, e := Build(c.anyDesc(6, 0))
		if e != api.OK {
			continue
		}
		raw := Raw(v)
		again := built(t, raw)
		if !same(Raw(again), raw) || Type(again) != Type(v) || Hook(again) != Hook(v) || Size(again) != Size(v) || Deep(again) != Deep(v) || Cmp(v, again) != 0 {
			t.Fatalf("%+v: %+v", raw, Raw(again))
		}
	}
	if again := built(t, Raw(nil)); !same(Raw(again), api.Desc{}) {
		t.Error(Raw(again))
	}
}

func TestCmpIsAnOrderP85(t *testing.T) {
	c := chance(85)
	var l []Value
	for range 150 {
		l = append(l, built(t, c.anyKey(0, 1)), built(t, api.Desc{Kind: c.below(api.Struct), Bits: c.bits(), Text: "x"}))
	}
	for _, a := range l {
		for _, b := range l {
			x, y := Raw(a), Raw(b)
			want := 0
			if x.Kind != y.Kind || wantedError(of(api.Map, x, x)) == api.OK {
				want = order2(lower(x, y), lower(y, x))
			}
			if got := Cmp(a, b); got != want || Cmp(b, a) != -want {
				t.Fatalf("%+v, %+v: %d, %d", x, y, got, Cmp(b, a))
			}
		}
	}
}

// order2 answers -1 if the first one is lower, 1 if the second one is.
func order2(a, b bool) int {
	switch {
	case a:
		return -1
	case b:
		return 1
	}
	return 0
}

// roomy answers d with something behind the length of each of its lists.
func roomy(d api.Desc) api.Desc {
	d.Names = append(slices.Clone(d.Names), "a", "a")[:len(d.Names)]
	d.Parts = append(slices.Clone(d.Parts), api.Desc{Kind: 23}, ofText("x"))[:len(d.Parts)]
	for i := range d.Parts {
		d.Parts[i] = roomy(d.Parts[i])
	}
	return d
}

// roomKept tells whether what roomy laid behind the lists is still there.
func roomKept(d api.Desc) bool {
	names, parts := d.Names[len(d.Names):len(d.Names)+2], d.Parts[len(d.Parts):len(d.Parts)+2]
	return names[0] == "a" && names[1] == "a" && parts[0].Kind == 23 && parts[1].Text == "x" && !slices.ContainsFunc(d.Parts, func(d api.Desc) bool { return !roomKept(d) })
}

func TestWhatIsHandedInP87(t *testing.T) {
	c := chance(87)
	for i := range 20000 {
		d := roomy(c.anyDesc(1+i%9, []int{0, 0, 30}[i%3]))
		before := copied(d)
		v, e := Build(d)
		if !same(d, before) || !roomKept(d) {
			t.Fatalf("%+v was %+v", d, before)
		}
		if e != wantedError(before) {
			t.Fatalf("%+v: %v", before, e)
		}
		if e != api.OK {
			continue
		}
		raw := Raw(v)
		kept := copied(raw)
		spoilt(d)
		if again := Raw(v); !same(again, kept) {
			t.Fatalf("%+v was %+v", again, kept)
		}
		spoilt(raw)
		if again := Raw(v); !same(again, kept) || Size(v) != len(lookedAt(kept)) {
			t.Fatalf("%+v was %+v", again, kept)
		}
	}
}

func TestAnswersShareNothingP87(t *testing.T) {
	shared := []api.Desc{ofInt(2), ofInt(1)}
	names := []string{"a", "b"}
	d := of(api.Slice, of(api.Slice, shared...), of(api.Slice, shared...), api.Desc{Kind: api.Struct, Names: names, Parts: shared}, api.Desc{Kind: api.Struct, Names: names, Parts: shared}, of(api.Map, ofInt(5), ofInt(6), ofInt(3), ofInt(4)))
	v := built(t, d)
	raw := Raw(v)
	raw.Parts[0].Parts[0].Bits = 99
	raw.Parts[2].Names[0] = "z"
	raw.Parts[2].Parts[1].Bits = 98
	if raw.Parts[1].Parts[0].Bits != 2 || raw.Parts[3].Names[0] != "a" || raw.Parts[3].Parts[1].Bits != 1 {
		t.Errorf("%+v", raw)
	}
	again := append(Raw(v).Parts[0].Parts, ofInt(7))
	if again[0].Bits != 2 || shared[0].Bits != 2 || names[0] != "a" || d.Parts[4].Parts[0].Bits != 5 || Raw(v).Parts[1].Parts[1].Bits != 1 {
		t.Errorf("%+v", again)
	}
}
