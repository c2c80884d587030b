package free

import (
	"math"
	"slices"
	"strconv"
	"testing"
)

// counter makes the numbers from 1 on, and keeps how often it was asked.
type counter struct{ n int }

func (c *counter) next() int {
	c.n++
	return c.n
}

// holds fails if the store doesn't have so many things, or made others.
func holds[T any](t *testing.T, p *Free[T], length, made int) {
	t.Helper()
	if p.Len() != length || p.Made() != made {
		t.Errorf("there are %d, made %d, not %d and %d", p.Len(), p.Made(), length, made)
	}
}

// got fails if the store's next thing isn't that one.
func got[T comparable](t *testing.T, p *Free[T], want T) {
	t.Helper()
	if x := p.Get(); x != want {
		t.Errorf("%v, not %v", x, want)
	}
}

// put fails if the store doesn't take x, or takes it, other than it should.
func put[T any](t *testing.T, p *Free[T], x T, want bool) {
	t.Helper()
	if p.Put(x) != want {
		t.Errorf("%v: %v", x, !want)
	}
}

func TestExampleP131(t *testing.T) {
	p := New(1, func() string { return "made" })
	got(t, p, "made")
	put(t, p, "a", true)
	put(t, p, "b", false)
	got(t, p, "a")
	holds(t, p, 0, 1)
}

func TestRoomP131(t *testing.T) {
	for n, room := range map[int]int{
		math.MinInt: 0, -65: 0, -1: 0, 0: 0, 1: 1, 2: 2, 63: 63, 64: 64, 65: 64, 128: 64, 1 << 40: 64, math.MaxInt: 64,
	} {
		c := &counter{}
		p := New(n, c.next)
		holds(t, p, 0, 0)
		if c.n != 0 {
			t.Errorf("New(%d) made %d", n, c.n)
		}
		for i := range room {
			put(t, p, 1000+i, true)
			holds(t, p, i+1, 0)
		}
		for range 3 {
			put(t, p, -1, false)
			holds(t, p, room, 0)
		}
		for i := range room {
			got(t, p, 1000+i)
			holds(t, p, room-i-1, 0)
		}
		// Then it is empty, and makes new ones.
		for i := range 70 {
			got(t, p, i+1)
			holds(t, p, 0, i+1)
		}
		put(t, p, 7, room > 0)
		holds(t, p, min(room, 1), 70)
		if c.n != 70 {
			t.Errorf("New(%d): make was asked %d times", n, c.n)
		}
	}
}

func TestNilMakeP131(t *testing.T) {
	ints := New[int](2, nil)
	got(t, ints, 0)
	put(t, ints, 5, true)
	got(t, ints, 5)
	got(t, ints, 0)
	holds(t, ints, 0, 2)
	texts := New[string](0, nil)
	got(t, texts, "")
	holds(t, texts, 0, 1)
	type row struct {
		a int
		b *string
	}
	rows := New[row](3, nil)
	got(t, rows, row{})
	lists := New[[]byte](3, nil)
	if lists.Get() != nil {
		t.Error("a list")
	}
	functions := New[func()](3, nil)
	if functions.Get() != nil || !functions.Put(func() {}) || functions.Get() == nil {
		t.Error("a function")
	}
}

func TestThingsP131(t *testing.T) {
	// A thing that is got is the one that was put, not another like it.
	p := New(2, func() *counter { return &counter{} })
	a, b := p.Get(), p.Get()
	if a == b {
		t.Error("one thing twice")
	}
	put(t, p, b, true)
	put(t, p, a, true)
	got(t, p, b)
	got(t, p, a)
	// A nil thing is a thing.
	put(t, p, nil, true)
	holds(t, p, 1, 2)
	got(t, p, nil)
	holds(t, p, 0, 2)
	// So is one that is there already, and one of an interface's.
	put(t, p, a, true)
	put(t, p, a, true)
	got(t, p, a)
	got(t, p, a)
	anything := New[any](1, nil)
	got(t, anything, nil)
	put(t, anything, any(3), true)
	got(t, anything, any(3))
	holds(t, anything, 0, 1)
}

func TestNotMadeP132(t *testing.T) {
	for _, p := range []*Free[string]{nil, {}, new(Free[string])} {
		for range 2 {
			got(t, p, "")
			put(t, p, "a", false)
			holds(t, p, 0, 0)
		}
	}
	var own Free[[]int]
	if own.Get() != nil || own.Put([]int{1}) || own.Len() != 0 || own.Made() != 0 {
		t.Error(own.Get(), own.Len(), own.Made())
	}
}

func TestStoresAreOfTheirOwnR3(t *testing.T) {
	c := &counter{}
	p, q := New(2, c.next), New(2, c.next)
	put(t, p, 9, true)
	holds(t, q, 0, 0)
	got(t, q, 1)
	holds(t, p, 1, 0)
	got(t, p, 9)
	got(t, p, 2)
	holds(t, p, 0, 1)
	holds(t, q, 0, 1)
}

func TestInOrderOnceP133(t *testing.T) {
	for _, n := range []int{0, 1, 2, 5, 64, 100} {
		room := min(n, 64)
		p := New(n, func() int { return -1 })
		var there []int
		step := uint32(7)
		for i := range 5000 {
			step = step*1664525 + 1013904223
			// By turns the store is rather filled, and rather emptied.
			if step>>16%10 < uint32(3+i/500%2*4) {
				put(t, p, i, len(there) < room)
				if len(there) < room {
					there = append(there, i)
				}
			} else if len(there) > 0 {
				got(t, p, there[0])
				there = there[1:]
			} else {
				got(t, p, -1)
			}
			if p.Len() != len(there) {
				t.Fatalf("there are %d, not %d", p.Len(), len(there))
			}
		}
	}
}

func TestBalanceP134(t *testing.T) {
	// All that were made are there, out, or were refused, each just once.
	c := &counter{}
	p := New(8, c.next)
	var out, refused []int
	step := uint32(3)
	for i := range 5000 {
		step = step*1664525 + 1013904223
		k := int(step >> 16)
		if len(out) > 0 && k%16 < 7+i/700%2*3 {
			x := out[k%len(out)]
			out = slices.DeleteFunc(out, func(y int) bool { return x == y })
			if !p.Put(x) {
				refused = append(refused, x)
			}
		} else {
			out = append(out, p.Get())
		}
		if p.Made() != p.Len()+len(out)+len(refused) || p.Made() != c.n {
			t.Fatalf("made %d, there are %d, out %d, refused %d", p.Made(), p.Len(), len(out), len(refused))
		}
	}
	for p.Len() > 0 {
		out = append(out, p.Get())
	}
	all := slices.Sorted(slices.Values(append(out, refused...)))
	for i, x := range all {
		if x != i+1 {
			t.Fatalf("%d stands for %d", x, i+1)
		}
	}
	if len(all) != p.Made() || len(refused) == 0 || p.Made() < 100 || p.Made() > 4000 {
		t.Errorf("of %d made %d are left, %d refused", p.Made(), len(all), len(refused))
	}
}

func TestMakeThatPanicsR1(t *testing.T) {
	asked := 0
	p := New(2, func() string {
		asked++
		if asked%2 == 0 {
			panic("boo")
		}
		return strconv.Itoa(asked)
	})
	for _, want := range []string{"1", "", "3", ""} {
		got(t, p, want)
	}
	holds(t, p, 0, 4)
}

func TestMakeThatUsesTheStoreR3(t *testing.T) {
	var p *Free[int]
	p = New(2, func() int {
		p.Put(100 + p.Made())
		return 1
	})
	for i, want := range []int{1, 100, 1, 101} {
		got(t, p, want)
		holds(t, p, (i+1)%2, i/2+1)
	}
}
