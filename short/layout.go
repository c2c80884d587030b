package short

import (
	"platen/api"
	"platen/bigdec"
)

// layout is where the patterns of a size have their parts. Without their sign
// bits patterns go up as their values do, and Inf is the next one behind the
// greatest finite one.
type layout struct {
	fieldBits    int // of E
	fractionBits int // of F
	least        int // e, if E is 0
}

// layoutOf answers the layout of a size, if there is one.
func layoutOf(size int) (layout, bool) {
	switch size {
	case 32:
		return layout{fieldBits: 8, fractionBits: 23, least: -149}, true
	case 64:
		return layout{fieldBits: 11, fractionBits: 52, least: -1074}, true
	}
	return layout{}, false
}

// split answers whether the sign bit is set, and the pattern without it.
func (l layout) split(bits uint64) (bool, uint64) {
	sign := uint64(1) << (l.fieldBits + l.fractionBits)
	return bits&sign != 0, bits & (sign - 1)
}

// inf answers the pattern of Inf.
func (l layout) inf() uint64 {
	return (1<<l.fieldBits - 1) << l.fractionBits
}

// finite answers m and e of a finite pattern.
func (l layout) finite(p uint64) (uint64, int) {
	top := uint64(1) << l.fractionBits
	field, fraction := p/top, p%top
	if field == 0 {
		return fraction, l.least
	}
	return top + fraction, l.least + int(field) - 1
}

// above answers what lies just between a finite pattern and the next one. That
// one is m + 1 with the same e: of the greatest m, too, where it is a power of
// two or counts as one.
func (l layout) above(p uint64) api.Dec {
	m, e := l.finite(p)
	return exact(2*m+1, e-1)
}

// boundsOf answers the bounds of what is read as a finite pattern that is not 0.
func (l layout) boundsOf(p uint64) bounds {
	return bounds{low: l.above(p - 1), high: l.above(p), within: isEven(p)}
}

// bounds are where decimals begin and end to be read as a pattern.
type bounds struct {
	low, high api.Dec
	within    bool // are they themselves read as it
}

// has tells whether d is read as the pattern.
func (b bounds) has(d api.Dec) bool {
	low, high := compare(d, b.low), compare(d, b.high)
	if b.within {
		return low >= 0 && high <= 0
	}
	return low > 0 && high < 0
}

// isEven tells whether the m of a pattern is even: its last bit is the pattern's.
func isEven(p uint64) bool { return p%2 == 0 }

// exact is Exact of an e that it takes: those of both layouts, and one below.
func exact(m uint64, e int) api.Dec {
	d, _ := bigdec.Exact(m, e)
	return d
}

// compare is Cmp of decimals that it takes.
func compare(a, b api.Dec) int {
	side, _ := bigdec.Cmp(a, b)
	return side
}
