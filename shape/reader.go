package shape

import (
	"watersmeet/api"
	"watersmeet/text"
)

// none is what stands where there is no rune; no sign is it.
const none rune = -1

// reader goes through l, rune by rune.
// Once something is wrong it stays where that is, and finds no rune any more, so that what was wrong first is told.
type reader struct {
	l      []rune
	at     int // the place of the rune that comes next
	leaves int // how many have begun
	errno  api.Errno
}

// tree reads a tree.
// The brackets that open it are counted, not gone down into: so any number of them may stand in a text.
// What is nested on the right has a leaf ahead of it: so to go down into that ends where there may be no more leaves.
func (r *reader) tree() api.Tree {
	open := 0
	for r.skip('(') {
		open++
	}
	t := r.leaf()
	for ; open > 0 && r.errno == api.OK; open-- {
		t = r.operator(t)
	}
	return t
}

// operator reads what stands behind the first of an operator's Kids, up to the bracket that closes it.
func (r *reader) operator(first api.Tree) api.Tree {
	defer r.pass(')')
	kind := r.kind()
	hash := r.skip(hashed)
	conj := r.conj()
	second := r.tree()
	return api.Tree{Kind: kind, Kids: []api.Tree{first, second}, Conj: conj, Hash: hash}
}

// kind reads the sign of an operator.
func (r *reader) kind() int {
	for kind := api.Inner; kind <= api.Anti; kind++ {
		if r.skip(signs[kind]) {
			return kind
		}
	}
	r.fail(r.at, api.ErrForm)
	return api.Leaf
}

// conj reads one conjunct, or several of them, and the brackets around them.
func (r *reader) conj() []api.Pred {
	r.pass('[')
	defer r.pass(']')
	l := []api.Pred{r.pred()}
	for r.skip(';') {
		if len(l) == api.MaxConj {
			r.fail(r.at, api.ErrLong)
		}
		l = append(l, r.pred())
	}
	return l
}

// pred reads a conjunct.
func (r *reader) pred() api.Pred {
	if r.errno != api.OK {
		return api.Pred{}
	}
	p, at, errno := text.Take(r.l, r.at)
	r.at, r.errno = at, errno
	return p
}

// leaf reads the number of a table, with as many digits as stand there.
func (r *reader) leaf() api.Tree {
	r.begin()
	from, n := r.at, 0
	for digit(r.next()) {
		// However many digits there are, no more has to be known of a number than that it is too great.
		n = min(n*10+int(r.next()-'0'), api.MaxTables)
		r.at++
	}
	switch {
	case r.at == from:
		r.fail(from, api.ErrForm)
	case r.at > from+1 && r.l[from] == '0':
		r.fail(from+1, api.ErrForm)
	case n == api.MaxTables:
		r.fail(from, api.ErrRange)
	}
	return api.Tree{Table: n}
}

// begin counts the leaf that begins, if one does.
func (r *reader) begin() {
	if !digit(r.next()) {
		return
	}
	r.leaves++
	if r.leaves > api.MaxTables {
		r.fail(r.at, api.ErrLong)
	}
}

// next tells the rune that comes next.
func (r *reader) next() rune {
	if r.errno != api.OK || r.at == len(r.l) {
		return none
	}
	return r.l[r.at]
}

// skip goes over c, and tells whether it was there.
func (r *reader) skip(c rune) bool {
	if r.next() != c {
		return false
	}
	r.at++
	return true
}

// pass goes over c, which must be there.
func (r *reader) pass(c rune) {
	if !r.skip(c) {
		r.fail(r.at, api.ErrForm)
	}
}

// fail tells what is wrong at a place, unless something is wrong already.
func (r *reader) fail(at int, errno api.Errno) {
	if r.errno == api.OK {
		r.at, r.errno = at, errno
	}
}

// digit tells whether c is one of the ten digits; other scripts' digits are none.
func digit(c rune) bool {
	return '0' <= c && c <= '9'
}
