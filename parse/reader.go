package parse

import "platen/api"

const (
	// indexDigits is how many digits an index that is Good has at most.
	indexDigits = 9
	// manyDigits is the least number of as many digits: a number that has come
	// to it is told apart by its digits, or is above every width, and need not
	// grow, which keeps it in its range.
	manyDigits = 100_000_000
)

// reader goes through a format from the left.
type reader struct {
	at int
	// next tells the rune at a place of the format, and how many bytes it has:
	// none at the format's end, where the rune is 0.
	next func(at int) (rune, int)
}

// take goes behind c, if that is what comes next.
func (r *reader) take(c rune) bool {
	next, size := r.next(r.at)
	if next != c {
		return false
	}
	r.at += size
	return true
}

// piece goes through a literal or a directive, and answers it without its text.
func (r *reader) piece() Piece {
	if r.take('%') {
		return r.directive()
	}
	r.literal()
	return Piece{Kind: Lit}
}

// literal goes to the next %, or to the end.
func (r *reader) literal() {
	for {
		c, size := r.next(r.at)
		if size == 0 || c == '%' {
			return
		}
		r.at += size
	}
}

// directive answers what stands behind a %.
func (r *reader) directive() Piece {
	p := Piece{Kind: Dir, Spec: r.flags()}
	var ofWidth, ofPrecision Index
	p.Wid, ofWidth = r.width()
	if r.take('.') {
		ofWidth = spoilt(ofWidth)
		p.Prec, ofPrecision = r.precision()
	}
	p.Arg = single(ofWidth, ofPrecision, r.index())
	verb, size := r.next(r.at)
	if size == 0 {
		p.Kind = Open
	}
	p.Spec.Verb = verb
	r.at += size
	return p
}

// flags answers a spec with all flags that come next.
func (r *reader) flags() api.Spec {
	f := api.Spec{Wid: -1, Prec: -1}
search:
	for {
		c, size := r.next(r.at)
		switch c {
		case '+':
			f.Plus = true
		case '-':
			f.Minus = true
		case '#':
			f.Sharp = true
		case ' ':
			f.Space = true
		case '0':
			f.Zero = true
		default:
			break search
		}
		r.at += size
	}
	return f
}

// width answers the width, if there is one, and the index ahead of it, if no *
// takes that.
func (r *reader) width() (Num, Index) {
	ahead := r.index()
	if r.take('*') {
		return Num{Kind: Star, Arg: ahead}, Index{}
	}
	if c, _ := r.next(r.at); c < '1' || c > '9' {
		return Num{Kind: Unset}, ahead
	}
	return r.given(), spoilt(ahead)
}

// precision answers the precision behind a point, and the index ahead of it, if
// no * takes that.
func (r *reader) precision() (Num, Index) {
	ahead := r.index()
	if r.take('*') {
		return Num{Kind: Star, Arg: ahead}, Index{}
	}
	begin := r.at
	n := r.given()
	if r.at > begin {
		ahead = spoilt(ahead)
	}
	return n, ahead
}

// given answers the number of the digits that come next.
func (r *reader) given() Num {
	n, end := r.number(r.at)
	r.at = end
	if n > api.MaxWidth {
		n = -1
	}
	return Num{Kind: Given, N: n}
}

// index answers the index that comes next, if one does.
func (r *reader) index() Index {
	if !r.take('[') {
		return Index{Kind: Next}
	}
	n, end := r.number(r.at)
	digits := end - r.at
	if c, size := r.next(end); digits > 0 && c == ']' {
		r.at = end + size
		if digits <= indexDigits && n > 0 {
			return Index{Kind: Good, N: n}
		}
	}
	return Index{Kind: Wrong}
}

// number answers the number of the digits from a place on, and where they end.
func (r *reader) number(at int) (n, end int) {
	for {
		c, size := r.next(at)
		if c < '0' || c > '9' {
			return n, at
		}
		if n < manyDigits {
			n = 10*n + int(c-'0')
		}
		at += size
	}
}

// spoilt answers what is left of an index behind which something stands that
// parts it from the verb.
func spoilt(x Index) Index {
	if x.Kind == Next {
		return x
	}
	return Index{Kind: Wrong}
}

// single answers the one index that there is among free.
func single(free ...Index) Index {
	var one Index
	for _, x := range free {
		if x.Kind == Next {
			continue
		}
		if one.Kind != Next {
			return Index{Kind: Wrong}
		}
		one = x
	}
	return one
}
