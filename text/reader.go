package text

import (
	"watersmeet/api"
	"watersmeet/value"
)

// none is what stands where there is no rune; no sign is it.
const none rune = -1

// reader goes through l, rune by rune.
// Once something is wrong it stays where that is, and finds no rune any more, so that what was wrong first is told.
type reader struct {
	l     []rune
	at    int // the place of the rune that comes next
	errno api.Errno
}

// way is who reads a predicate that begins with one of these signs: he is told the place of the sign, and the predicate's depth.
type way struct {
	signs string
	read  func(sign, depth int) api.Pred
}

// ways tells who reads which predicates.
func (r *reader) ways() [5]way {
	return [...]way{
		{truths, r.truth},
		{comparisons, r.comparison},
		{null, r.null},
		{lists, r.list},
		{not, r.not},
	}
}

// pred reads a predicate at this depth.
func (r *reader) pred(depth int) api.Pred {
	// The depth stands first: what is too deep is so, whatever stands there.
	if depth > api.MaxDeep {
		r.fail(r.at, api.ErrLong)
		return api.Pred{}
	}
	c := r.next()
	for _, w := range r.ways() {
		if sign, ok := place(w.signs, c); ok {
			r.at++
			return w.read(sign, depth)
		}
	}
	r.fail(r.at, api.ErrForm)
	return api.Pred{}
}

// truth tells the predicate of which nothing stands behind the sign.
func (r *reader) truth(sign, _ int) api.Pred {
	return api.Pred{Kind: api.PredTruth, Truth: api.False + sign}
}

// comparison reads what is compared.
func (r *reader) comparison(sign, _ int) api.Pred {
	a := r.term()
	r.pass(',')
	return api.Pred{Kind: api.PredCmp, Op: api.Eq + sign, A: a, B: r.term()}
}

// null reads what is asked to be null.
func (r *reader) null(_, _ int) api.Pred {
	return api.Pred{Kind: api.PredNull, A: r.term()}
}

// list reads Parts, and the brackets around them.
func (r *reader) list(sign, depth int) api.Pred {
	p := api.Pred{Kind: api.PredAnd + sign}
	r.pass('(')
	if r.next() != ')' {
		p.Parts = r.parts(depth + 1)
	}
	r.pass(')')
	return p
}

// parts reads one predicate at this depth, or several of them.
func (r *reader) parts(depth int) []api.Pred {
	l := []api.Pred{r.pred(depth)}
	for r.skip(';') {
		if len(l) == api.MaxParts {
			r.fail(r.at, api.ErrLong)
		}
		l = append(l, r.pred(depth))
	}
	return l
}

// not reads the one part that is turned round.
func (r *reader) not(_, depth int) api.Pred {
	return api.Pred{Kind: api.PredNot, Parts: []api.Pred{r.pred(depth + 1)}}
}

// term reads a column, or a quote and a value.
func (r *reader) term() api.Term {
	if r.skip('\'') {
		return api.Term{Kind: api.TermValue, Value: r.value()}
	}
	table := r.below(api.MaxTables)
	r.pass('.')
	return api.Term{Kind: api.TermCol, Table: table, Col: r.below(api.MaxCols)}
}

// value reads null, or a number.
func (r *reader) value() api.Value {
	from := r.at
	if !r.skip('∅') {
		r.skip('-')
		r.digits()
	}
	v, errno := value.Parse(string(r.l[from:r.at]))
	switch errno {
	case api.ErrForm:
		// Of what digits lets through, a nought alone behind a - is all that has no form.
		r.fail(r.at-1, errno)
	case api.ErrRange:
		r.fail(from, errno)
	}
	return v
}

// below reads a number that must be below n.
func (r *reader) below(n int64) int {
	from := r.at
	r.digits()
	v, errno := value.Parse(string(r.l[from:r.at]))
	if errno != api.OK || v.N >= n {
		r.fail(from, api.ErrRange)
	}
	return int(v.N)
}

// digits goes over a number's digits, as many as stand there: one or more, and none behind a nought that comes first.
func (r *reader) digits() {
	from := r.at
	for digit(r.next()) {
		r.at++
	}
	switch {
	case r.at == from:
		r.fail(from, api.ErrForm)
	case r.at > from+1 && r.l[from] == '0':
		r.fail(from+1, api.ErrForm)
	}
}

// next tells the rune that comes next.
func (r *reader) next() rune {
	if r.errno != api.OK || r.at == len(r.l) {
		return none
	}
	return r.l[r.at]
}

// skip goes over c, and tells whether it was there.
func (r *reader) skip(c rune) bool {
	if r.next() != c {
		return false
	}
	r.at++
	return true
}

// pass goes over c, which must be there.
func (r *reader) pass(c rune) {
	if !r.skip(c) {
		r.fail(r.at, api.ErrForm)
	}
}

// fail tells what is wrong at a place, unless something is wrong already.
func (r *reader) fail(at int, errno api.Errno) {
	if r.errno == api.OK {
		r.at, r.errno = at, errno
	}
}

// digit tells whether c is one of the ten digits; other scripts' digits are none.
func digit(c rune) bool {
	return '0' <= c && c <= '9'
}
