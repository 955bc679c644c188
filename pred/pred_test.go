package pred_test

import (
	"math"
	"reflect"
	"slices"
	"testing"

	"watersmeet/api"
	"watersmeet/pred"
)

var null = api.Value{Null: true}

// wide are numbers of all sorts: those at which what is told turns, and some that would be right if they were cut to fewer digits.
var wide = []int{math.MinInt, math.MinInt + 1, -1 << 32, -256, -255, -2, -1, 0, 1, 2, 3, 4, 5, 6, 7, 8, 127, 128, 255, 256, 257, 262, 1 << 32, 1<<32 + 1, 1<<32 + 6, math.MaxInt}

// values are values of all sorts; the last ones may not be.
var values = []api.Value{{}, {N: 1}, {N: -5}, {N: math.MaxInt64}, {N: math.MinInt64}, null, {Null: true, N: 1}, {Null: true, N: math.MinInt64}}

var (
	truthTrue    = truth(api.True)
	truthFalse   = truth(api.False)
	truthUnknown = truth(api.Unknown)
	truths       = []api.Pred{truthFalse, truthUnknown, truthTrue}
)

func truth(t int) api.Pred {
	return api.Pred{Kind: api.PredTruth, Truth: t}
}

func col(table, c int) api.Term {
	return api.Term{Kind: api.TermCol, Table: table, Col: c}
}

func val(v api.Value) api.Term {
	return api.Term{Kind: api.TermValue, Value: v}
}

func num(n int64) api.Value {
	return api.Value{N: n}
}

func cmp(op int, a, b api.Term) api.Pred {
	return api.Pred{Kind: api.PredCmp, Op: op, A: a, B: b}
}

func isNull(a api.Term) api.Pred {
	return api.Pred{Kind: api.PredNull, A: a}
}

func and(l ...api.Pred) api.Pred {
	return api.Pred{Kind: api.PredAnd, Parts: l}
}

func or(l ...api.Pred) api.Pred {
	return api.Pred{Kind: api.PredOr, Parts: l}
}

func not(l ...api.Pred) api.Pred {
	return api.Pred{Kind: api.PredNot, Parts: l}
}

// wrap puts p into n predicates of this kind, one within the other.
func wrap(kind, n int, p api.Pred) api.Pred {
	for range n {
		p = api.Pred{Kind: kind, Parts: []api.Pred{p}}
	}
	return p
}

// dice tells numbers without a pattern, the same ones each time.
type dice struct{ word uint64 }

func (d *dice) below(n int) int {
	d.word = d.word*6364136223846793005 + 1442695040888963407
	return int(d.word >> 33 % uint64(n))
}

// term tells a term that may be.
func (d *dice) term() api.Term {
	if d.below(3) == 0 {
		return val([]api.Value{num(1), num(2), null}[d.below(3)])
	}
	return col(d.below(4), d.below(3))
}

// right tells a predicate that may be where there is room for so many below it.
func (d *dice) right(room int) api.Pred {
	kind := d.below(9)
	if room == 0 {
		kind %= 4
	}
	switch kind {
	case 0:
		return truth(d.below(3))
	case 1:
		return isNull(d.term())
	case 2, 3:
		return cmp(api.Eq+d.below(6), d.term(), d.term())
	case 4:
		return not(d.right(room - 1))
	}
	p := api.Pred{Kind: api.PredAnd + kind%2}
	for range d.below(5) {
		p.Parts = append(p.Parts, d.right(room-1))
	}
	return p
}

// wild tells a predicate of any sort: each field may be anything.
func (d *dice) wild(room int) api.Pred {
	term := func() api.Term {
		if d.below(3) == 0 {
			return api.Term{}
		}
		return api.Term{Kind: d.below(4), Table: d.below(6) - 1, Col: d.below(6) - 1, Value: values[d.below(len(values))]}
	}
	p := api.Pred{Kind: d.below(9) - 1, Truth: d.below(5) - 1, Op: d.below(9) - 1, A: term(), B: term()}
	if room > 0 {
		for range d.below(4) {
			p.Parts = append(p.Parts, d.wild(room-1))
		}
	}
	return p
}

// rows tells rows of all sorts: some tables have no row, some rows are short.
func (d *dice) rows() []api.Row {
	rows := make([]api.Row, d.below(6))
	for i := range rows {
		for range d.below(5) {
			rows[i] = append(rows[i], []api.Value{num(1), num(2), num(3), null}[d.below(4)])
		}
	}
	return rows
}

// some are predicates of all sorts, those that may be first.
func some() []api.Pred {
	d := &dice{6}
	var l []api.Pred
	for range 300 {
		l = append(l, d.right(3))
	}
	for range 300 {
		l = append(l, d.wild(3))
	}
	return l
}

// deep copies p without the help of the package.
func deep(p api.Pred) api.Pred {
	parts := p.Parts
	p.Parts = nil
	for _, part := range parts {
		p.Parts = append(p.Parts, deep(part))
	}
	return p
}

// within tells p and all predicates within it, each ahead of its Parts.
func within(p *api.Pred) []*api.Pred {
	l := []*api.Pred{p}
	for i := range p.Parts {
		l = append(l, within(&p.Parts[i])...)
	}
	return l
}

// slowRight tells whether p may be: what its Kind has is asked and taken out, and nothing may be left.
func slowRight(p api.Pred, depth int) bool {
	right := depth <= 4
	term := func(t *api.Term) {
		x := *t
		*t = api.Term{}
		if x.Kind == api.TermCol {
			right = right && x.Table >= 0 && x.Table < 64 && x.Col >= 0 && x.Col < 4 && x.Value == api.Value{}
			return
		}
		right = right && x.Kind == api.TermValue && x.Table == 0 && x.Col == 0 && (!x.Value.Null || x.Value.N == 0)
	}
	switch p.Kind {
	case api.PredTruth:
		right = right && p.Truth >= 0 && p.Truth <= 2
		p.Truth = 0
	case api.PredCmp:
		right = right && p.Op >= 1 && p.Op <= 6
		p.Op = 0
		term(&p.A)
		term(&p.B)
	case api.PredNull:
		term(&p.A)
	case api.PredAnd, api.PredOr, api.PredNot:
		right = right && len(p.Parts) <= 4 && (p.Kind != api.PredNot || len(p.Parts) == 1)
		for _, part := range p.Parts {
			right = right && slowRight(part, depth+1)
		}
		p.Parts = nil
	default:
		return false
	}
	p.Kind = 0
	if len(p.Parts) == 0 {
		p.Parts = nil
	}
	return right && reflect.DeepEqual(p, api.Pred{})
}

// slowSame holds a and b against each other, field by field.
func slowSame(a, b api.Pred) bool {
	if len(a.Parts) != len(b.Parts) {
		return false
	}
	for i := range a.Parts {
		if !slowSame(a.Parts[i], b.Parts[i]) {
			return false
		}
	}
	a.Parts, b.Parts = nil, nil
	return reflect.DeepEqual(a, b)
}

// slowColumns tells the columns in p in order.
func slowColumns(p api.Pred) [][2]int {
	var l [][2]int
	for _, q := range within(&p) {
		for _, x := range []api.Term{q.A, q.B} {
			if x.Kind == api.TermCol {
				l = append(l, [2]int{x.Table, x.Col})
			}
		}
	}
	return l
}

// slowOf tells what p is: the truths rise from False by Unknown to True, And is the least, Or the greatest, Not turns round.
func slowOf(p api.Pred, rows []api.Row) int {
	look := func(t api.Term) api.Value {
		if t.Kind != api.TermCol {
			return t.Value
		}
		if t.Table < 0 || t.Table >= len(rows) || t.Col < 0 || t.Col >= len(rows[t.Table]) {
			return null
		}
		return rows[t.Table][t.Col]
	}
	sure := func(b bool) int {
		if b {
			return 2
		}
		return 0
	}
	switch a, b := look(p.A), look(p.B); p.Kind {
	case api.PredTruth:
		if p.Truth == 0 || p.Truth == 2 {
			return p.Truth
		}
	case api.PredCmp:
		if !a.Null && !b.Null && p.Op >= 1 && p.Op <= 6 {
			return sure([]bool{a.N == b.N, a.N != b.N, a.N < b.N, a.N <= b.N, a.N > b.N, a.N >= b.N}[p.Op-1])
		}
	case api.PredNull:
		return sure(a.Null)
	case api.PredAnd:
		least := 2
		for _, part := range p.Parts {
			least = min(least, slowOf(part, rows))
		}
		return least
	case api.PredOr:
		most := 0
		for _, part := range p.Parts {
			most = max(most, slowOf(part, rows))
		}
		return most
	case api.PredNot:
		if len(p.Parts) > 0 {
			return 2 - slowOf(p.Parts[0], rows)
		}
	}
	return 1
}

// P6.1: Right

func TestRight(t *testing.T) {
	eq := cmp(api.Eq, col(0, 0), col(1, 0))
	for i, c := range []struct {
		p    api.Pred
		want bool
	}{
		{truthFalse, true},
		{truthUnknown, true},
		{truthTrue, true},
		{truth(3), false},
		{truth(-1), false},
		{eq, true},
		{cmp(api.Ge, val(null), val(num(-1))), true},
		{cmp(0, col(0, 0), col(1, 0)), false},
		{cmp(7, col(0, 0), col(1, 0)), false},
		{cmp(api.Lt, col(64, 0), col(1, 0)), false},
		{cmp(api.Lt, col(0, 0), col(1, 4)), false},
		{cmp(api.Lt, api.Term{}, col(1, 0)), false},
		{cmp(api.Lt, col(0, 0), api.Term{}), false},
		{isNull(col(63, 3)), true},
		{isNull(val(null)), true},
		{isNull(val(api.Value{Null: true, N: 1})), false},
		{isNull(api.Term{}), false},
		{and(), true},
		{or(), true},
		{not(), false},
		{not(eq), true},
		{not(eq, eq), false},
		{and(eq, eq, eq, eq), true},
		{or(eq, eq, eq, eq), true},
		{and(eq, eq, eq, eq, eq), false},
		{or(eq, eq, eq, eq, eq), false},
		{and(eq, truth(3)), false},
		{or(truth(3), eq), false},
		{not(truth(3)), false},
		{api.Pred{}, false},
		{api.Pred{Kind: 7}, false},
		{and(api.Pred{}), false},
	} {
		if pred.Right(c.p) != c.want {
			t.Errorf("%d: Right(%v) is %t", i, c.p, !c.want)
		}
	}
}

// Of all fields those alone that the Kind has may be other than zero.
func TestRightByFields(t *testing.T) {
	type has struct{ truth, op, a, b, parts bool }
	for _, c := range []struct {
		p   api.Pred
		has has
	}{
		{truthFalse, has{truth: true}},
		{cmp(api.Eq, col(0, 0), val(num(0))), has{op: true, a: true, b: true}},
		{isNull(col(0, 0)), has{a: true}},
		{and(), has{parts: true}},
		{or(), has{parts: true}},
		{not(truthTrue), has{parts: true}},
	} {
		if !pred.Right(c.p) {
			t.Errorf("%v may not be", c.p)
		}
		for name, x := range map[string]struct {
			change func(*api.Pred)
			want   bool
		}{
			"Truth":      {func(p *api.Pred) { p.Truth = api.True }, c.has.truth},
			"Op":         {func(p *api.Pred) { p.Op = api.Lt }, c.has.op},
			"A":          {func(p *api.Pred) { p.A = val(num(7)) }, c.has.a},
			"A's column": {func(p *api.Pred) { p.A = col(2, 2) }, c.has.a},
			"B":          {func(p *api.Pred) { p.B = val(num(7)) }, c.has.b},
			"B's column": {func(p *api.Pred) { p.B = col(2, 2) }, c.has.b},
			"Parts":      {func(p *api.Pred) { p.Parts = []api.Pred{truthFalse} }, c.has.parts},
		} {
			p := c.p
			x.change(&p)
			if pred.Right(p) != x.want {
				t.Errorf("Right(%v), of another %s, is %t", p, name, !x.want)
			}
		}
	}
}

// A term that is not there is zero in all its fields.
func TestRightByFieldsOfTerms(t *testing.T) {
	for i, x := range []api.Term{{Kind: 1}, {Kind: 2}, {Kind: -1}, {Table: 1}, {Col: 1}, {Value: num(1)}, {Value: null}} {
		for _, p := range append([]api.Pred{and(), or(), not(truthTrue)}, truths...) {
			a, b := p, p
			a.A, b.B = x, x
			if pred.Right(a) || pred.Right(b) {
				t.Errorf("%d: Right(%v) or Right(%v)", i, a, b)
			}
		}
		p := isNull(col(0, 0))
		p.B = x
		if pred.Right(p) {
			t.Errorf("%d: Right(%v)", i, p)
		}
	}
}

// Parts may be empty in each way there is.
func TestRightOfEmptyParts(t *testing.T) {
	for _, p := range []api.Pred{truthTrue, cmp(api.Eq, col(0, 0), col(1, 0)), isNull(col(0, 0)), and(), or()} {
		for _, parts := range [][]api.Pred{nil, {}, make([]api.Pred, 0, 4), make([]api.Pred, 5)[:0]} {
			p.Parts = parts
			if !pred.Right(p) {
				t.Errorf("%v may not be", p)
			}
		}
	}
}

func TestRightOfNumbers(t *testing.T) {
	for _, n := range wide {
		if got, want := pred.Right(truth(n)), n >= 0 && n <= 2; got != want {
			t.Errorf("the truth %d: %t", n, got)
		}
		if got, want := pred.Right(cmp(n, col(0, 0), val(null))), n >= 1 && n <= 6; got != want {
			t.Errorf("the comparison %d: %t", n, got)
		}
	}
}

// Each number as a Kind: those alone that have the same fields may stand for one another.
func TestRightOfKinds(t *testing.T) {
	for _, c := range []struct {
		p    api.Pred
		want []int
	}{
		{api.Pred{}, []int{api.PredTruth, api.PredAnd, api.PredOr}},
		{truthTrue, []int{api.PredTruth}},
		{cmp(api.Eq, col(0, 0), col(1, 0)), []int{api.PredCmp}},
		{isNull(col(0, 0)), []int{api.PredNull}},
		{and(truthTrue), []int{api.PredAnd, api.PredOr, api.PredNot}},
		{or(truthTrue, truthFalse), []int{api.PredAnd, api.PredOr}},
	} {
		for _, n := range wide {
			p := c.p
			p.Kind = n
			if got, want := pred.Right(p), slices.Contains(c.want, n); got != want {
				t.Errorf("Right(%v) is %t", p, got)
			}
		}
	}
}

func TestRightByDepth(t *testing.T) {
	for _, p := range []api.Pred{truthTrue, cmp(api.Eq, col(0, 0), col(1, 0)), isNull(col(0, 0)), and(), or()} {
		for _, kind := range []int{api.PredAnd, api.PredOr, api.PredNot} {
			for n := range 9 {
				if got := pred.Right(wrap(kind, n, p)); got != (n <= 3) {
					t.Errorf("%v within %d of the kind %d: %t", p, n, kind, got)
				}
			}
		}
	}
}

// No more is looked at than may be, so that the answer comes though there is no end, or hardly one.
func TestRightOfEndless(t *testing.T) {
	round := make([]api.Pred, 1)
	round[0] = not(round...)
	if pred.Right(round[0]) {
		t.Error("what is its own part may be")
	}
	for _, of := range []func(...api.Pred) api.Pred{and, or} {
		p := truthTrue
		for range 1000 {
			p = of(p, p, p, p)
		}
		if pred.Right(p) {
			t.Error("a predicate of 1000 deep may be")
		}
	}
}

// Whichever part is too deep, or may not be, the whole may not.
func TestRightByPart(t *testing.T) {
	full := and(truthTrue, truthTrue, truthTrue, truthTrue)
	for range 2 {
		full = or(full, full, full, full)
	}
	if !pred.Right(full) {
		t.Fatal("a full predicate may not be")
	}
	for at := range within(&full) {
		for _, wrong := range []api.Pred{truth(3), {}, cmp(0, col(0, 0), col(0, 0)), not(), wrap(api.PredNot, 4, truthTrue)} {
			p := deep(full)
			*within(&p)[at] = wrong
			if pred.Right(p) {
				t.Errorf("at %d %v may be", at, wrong)
			}
		}
	}
}

func TestRightByTrying(t *testing.T) {
	count := 0
	for i, p := range some() {
		want := slowRight(p, 1)
		if pred.Right(p) != want {
			t.Errorf("Right(%v) is %t", p, !want)
		}
		if want {
			count++
		}
		if i < 300 && !want {
			t.Errorf("%v should be one that may be", p)
		}
	}
	if count == 600 {
		t.Error("all may be")
	}
}

// One change alone of a predicate that may be.
func TestRightOfChanged(t *testing.T) {
	d := &dice{61}
	for _, p := range some()[:300] {
		p = deep(p)
		l := within(&p)
		q := l[d.below(len(l))]
		switch d.below(6) {
		case 0:
			q.Kind = d.below(9) - 1
		case 1:
			q.Truth = d.below(5) - 1
		case 2:
			q.Op = d.below(9) - 1
		case 3:
			q.A = api.Term{Kind: d.below(4), Table: d.below(66) - 1}
		case 4:
			q.B = api.Term{Kind: d.below(4), Col: d.below(6) - 1}
		case 5:
			q.Parts = append(q.Parts, truthTrue)
		}
		if want := slowRight(p, 1); pred.Right(p) != want {
			t.Errorf("Right(%v) is %t", p, !want)
		}
	}
}

// P6.1: Same

func TestSame(t *testing.T) {
	l := []api.Pred{
		{}, truthFalse, truthUnknown, truthTrue, truth(3),
		cmp(api.Eq, col(0, 0), col(1, 0)), cmp(api.Eq, col(1, 0), col(0, 0)), cmp(api.Ne, col(0, 0), col(1, 0)),
		isNull(col(0, 0)), isNull(col(0, 1)), isNull(val(null)), isNull(val(api.Value{Null: true, N: 1})),
		and(), or(), not(), and(truthTrue), or(truthTrue), not(truthTrue),
		and(truthTrue, truthFalse), and(truthFalse, truthTrue), and(truthTrue, truthFalse, truthFalse),
		and(and(truthTrue), truthFalse), and(and(truthTrue, truthFalse)), and(truthTrue, and(truthFalse)),
		not(not(truthTrue)), not(not(truthFalse)),
	}
	for i, a := range l {
		for j, b := range l {
			if pred.Same(a, deep(b)) != (i == j) {
				t.Errorf("Same(%v, %v) is %t", a, b, i != j)
			}
		}
	}
}

// One field alone, at any depth, tells predicates apart, in its whole range.
func TestSameByField(t *testing.T) {
	part := api.Pred{Kind: 2, Truth: 1, Op: 3, A: col(1, 2), B: val(num(7))}
	whole := api.Pred{Kind: 5, Truth: 1, Op: 3, A: col(1, 2), B: val(num(7)), Parts: []api.Pred{part, or(part, not(part))}}
	if !pred.Same(whole, whole) || !pred.Same(whole, deep(whole)) {
		t.Error("a predicate is not the same as itself")
	}
	for i, change := range []func(*api.Pred){
		func(p *api.Pred) { p.Kind++ },
		func(p *api.Pred) { p.Kind += 1 << 32 },
		func(p *api.Pred) { p.Truth = 2 },
		func(p *api.Pred) { p.Truth += 1 << 32 },
		func(p *api.Pred) { p.Op = 4 },
		func(p *api.Pred) { p.Op += 1 << 32 },
		func(p *api.Pred) { p.A.Kind++ },
		func(p *api.Pred) { p.A.Table++ },
		func(p *api.Pred) { p.A.Col++ },
		func(p *api.Pred) { p.A.Value.N++ },
		func(p *api.Pred) { p.A.Value.Null = !p.A.Value.Null },
		func(p *api.Pred) { p.B.Kind++ },
		func(p *api.Pred) { p.B.Table++ },
		func(p *api.Pred) { p.B.Col++ },
		func(p *api.Pred) { p.B.Value.N -= 1 << 32 },
		func(p *api.Pred) { p.B.Value.Null = !p.B.Value.Null },
		func(p *api.Pred) { p.Parts = append(p.Parts, api.Pred{}) },
		func(p *api.Pred) { p.Parts = append([]api.Pred{{}}, p.Parts...) },
	} {
		for at := range within(&whole) {
			other := deep(whole)
			change(within(&other)[at])
			if pred.Same(whole, other) || pred.Same(other, whole) {
				t.Errorf("change %d at %d is not seen", i, at)
			}
			if again := deep(other); !pred.Same(again, other) {
				t.Errorf("change %d at %d is not the same as itself", i, at)
			}
		}
	}
}

// Parts that are not there are the same, however they are not.
func TestSameOfEmptyParts(t *testing.T) {
	lists := [][]api.Pred{nil, {}, make([]api.Pred, 0, 4), {truthTrue, truthTrue}}
	lists[3] = lists[3][:0]
	for i, a := range lists {
		for j, b := range lists {
			if !pred.Same(and(a...), and(b...)) || !pred.Same(not(or(a...)), not(or(b...))) {
				t.Errorf("the empty lists %d and %d are not the same", i, j)
			}
		}
	}
}

func TestSameByTrying(t *testing.T) {
	l := some()
	d := &dice{62}
	for range 300 {
		l = append(l, d.right(1))
	}
	for i, a := range l {
		for _, b := range l[max(0, i-40) : i+1] {
			if want := slowSame(a, b); pred.Same(a, b) != want || pred.Same(b, a) != want {
				t.Errorf("Same(%v, %v) is %t", a, b, !want)
			}
		}
	}
}

// P6.1: Copy

func TestCopy(t *testing.T) {
	for _, p := range some() {
		if got := pred.Copy(p); !slowSame(got, p) {
			t.Errorf("Copy(%v) is %v", p, got)
		}
	}
	if got := pred.Copy(api.Pred{}); !slowSame(got, api.Pred{}) {
		t.Errorf("Copy of the zero one is %v", got)
	}
}

// Whatever of a copy, at any depth, is written over, what was copied stays, and the other way round.
func TestCopyIsNew(t *testing.T) {
	whole := and(truthTrue, or(isNull(col(1, 1)), not(truthFalse)), api.Pred{Kind: api.PredCmp, Parts: []api.Pred{truthTrue}})
	want := deep(whole)
	for at := range within(&whole) {
		c := pred.Copy(whole)
		*within(&c)[at] = api.Pred{Kind: 99}
		if !slowSame(whole, want) {
			t.Fatalf("a copy written over at %d changes what was copied", at)
		}
		p := deep(whole)
		c = pred.Copy(p)
		*within(&p)[at] = api.Pred{Kind: 99}
		if !slowSame(c, want) {
			t.Errorf("what was copied, written over at %d, changes the copy", at)
		}
	}
}

// Each list of a copy has its own memory, the room behind it too.
func TestCopyOfRoom(t *testing.T) {
	room := []api.Pred{truthTrue, truthFalse, truthUnknown, truth(7)}
	whole := or(and(room[:1]...), and(room[:3]...), and(room[:0]...), and(room...))
	want := deep(whole)
	c := pred.Copy(whole)
	for at := range c.Parts {
		for range 5 {
			c.Parts[at].Parts = append(c.Parts[at].Parts, truth(9))
		}
		for i := range c.Parts {
			n := len(want.Parts[i].Parts)
			if !slowSame(and(c.Parts[i].Parts[:n]...), want.Parts[i]) {
				t.Errorf("what is put behind the list %d changes the list %d", at, i)
			}
		}
	}
	if !slowSame(whole, want) {
		t.Errorf("what is put behind a copy's lists changes what was copied")
	}
	if got := pred.Copy(want); !slowSame(got, want) {
		t.Errorf("a copy's memory is handed out again: %v", got)
	}
}

// P6.1: Tables

func TestTables(t *testing.T) {
	for i, c := range []struct {
		p    api.Pred
		want uint64
	}{
		{api.Pred{}, 0},
		{truthTrue, 0},
		{cmp(api.Eq, col(0, 0), col(1, 0)), 3},
		{cmp(api.Eq, col(1, 0), col(1, 3)), 2},
		{cmp(api.Eq, val(num(5)), col(63, 0)), 1 << 63},
		{cmp(api.Eq, val(num(5)), val(null)), 0},
		{isNull(col(2, 0)), 4},
		{isNull(val(null)), 0},
		{and(), 0},
		{and(isNull(col(2, 0)), isNull(col(4, 0))), 20},
		{or(isNull(col(2, 0)), truthTrue, not(not(isNull(col(0, 0))))), 5},
		{not(cmp(api.Lt, col(5, 0), col(6, 0))), 96},
		{cmp(api.Eq, col(64, 0), col(-1, 0)), 0},
		{cmp(api.Eq, col(64, 0), col(3, 99)), 8},
	} {
		if got := pred.Tables(c.p); got != c.want {
			t.Errorf("%d: Tables(%v) is %d, not %d", i, c.p, got, c.want)
		}
	}
}

// All A and B in it, and in its Parts, whatever Kind they stand in.
func TestTablesWhateverTheKind(t *testing.T) {
	for _, kind := range wide {
		p := api.Pred{Kind: kind, A: col(1, 0), B: col(2, 0), Parts: []api.Pred{{Kind: kind, A: col(3, 0), B: col(4, 0)}, {B: col(5, 0)}}}
		if got := pred.Tables(p); got != 1<<1|1<<2|1<<3|1<<4|1<<5 {
			t.Errorf("Tables of the kind %d: %b", kind, got)
		}
		for _, k := range []int{api.TermValue, 0, 3, -1} {
			p.A.Kind, p.Parts[1].B.Kind = k, k
			if got := pred.Tables(p); got != 1<<2|1<<3|1<<4 {
				t.Errorf("Tables of the kind %d, with terms of the kind %d: %b", kind, k, got)
			}
		}
	}
}

func TestTablesByTrying(t *testing.T) {
	for _, p := range some() {
		want := uint64(0)
		for _, c := range slowColumns(p) {
			if c[0] >= 0 {
				want |= 1 << c[0]
			}
		}
		if got := pred.Tables(p); got != want {
			t.Errorf("Tables(%v) is %b, not %b", p, got, want)
		}
	}
}

// P6.1: Columns

func TestColumns(t *testing.T) {
	for i, c := range []struct {
		p    api.Pred
		want [][2]int
	}{
		{api.Pred{}, nil},
		{truthTrue, nil},
		{and(), nil},
		{cmp(api.Eq, col(0, 1), col(1, 0)), [][2]int{{0, 1}, {1, 0}}},
		{cmp(api.Eq, col(1, 0), col(0, 1)), [][2]int{{1, 0}, {0, 1}}},
		{cmp(api.Eq, col(2, 3), col(2, 3)), [][2]int{{2, 3}, {2, 3}}},
		{cmp(api.Eq, val(num(5)), col(63, 3)), [][2]int{{63, 3}}},
		{cmp(api.Eq, col(0, 0), val(null)), [][2]int{{0, 0}}},
		{isNull(col(2, 0)), [][2]int{{2, 0}}},
		{or(cmp(api.Eq, col(5, 0), col(4, 0)), and(isNull(col(3, 0)), not(isNull(col(9, 1)))), isNull(col(1, 0))), [][2]int{{5, 0}, {4, 0}, {3, 0}, {9, 1}, {1, 0}}},
		{cmp(api.Eq, col(64, -1), col(-1, 4)), [][2]int{{64, -1}, {-1, 4}}},
		{cmp(api.Eq, col(math.MaxInt, math.MinInt), val(null)), [][2]int{{math.MaxInt, math.MinInt}}},
	} {
		if got := pred.Columns(c.p); !slices.Equal(got, c.want) {
			t.Errorf("%d: Columns(%v) is %v, not %v", i, c.p, got, c.want)
		}
	}
}

// A's and B's stand ahead of the Parts', whatever Kind they stand in.
func TestColumnsWhateverTheKind(t *testing.T) {
	for _, kind := range wide {
		p := api.Pred{Kind: kind, A: col(9, 0), B: col(8, 0), Parts: []api.Pred{{Kind: kind, A: col(7, 0), B: col(6, 0), Parts: []api.Pred{isNull(col(5, 0))}}, {B: col(4, 0)}}}
		if got := pred.Columns(p); !slices.Equal(got, [][2]int{{9, 0}, {8, 0}, {7, 0}, {6, 0}, {5, 0}, {4, 0}}) {
			t.Errorf("Columns of the kind %d: %v", kind, got)
		}
	}
}

func TestColumnsByTrying(t *testing.T) {
	for _, p := range some() {
		if got, want := pred.Columns(p), slowColumns(p); !slices.Equal(got, want) {
			t.Errorf("Columns(%v) is %v, not %v", p, got, want)
		}
	}
}

func TestColumnsIsNew(t *testing.T) {
	p := cmp(api.Eq, col(0, 1), col(1, 0))
	a, b := pred.Columns(p), pred.Columns(p)
	a[0] = [2]int{9, 9}
	a = append(a[:1], [2]int{9, 9})
	if want := [][2]int{{0, 1}, {1, 0}}; !slices.Equal(b, want) || !slices.Equal(pred.Columns(p), want) {
		t.Errorf("lists share memory: %v, %v", a, b)
	}
}

// P6.2

func TestOf(t *testing.T) {
	rows := []api.Row{{num(2), null}, {num(3)}, {}}
	eq, lt := cmp(api.Eq, col(0, 1), val(num(1))), cmp(api.Lt, col(0, 0), col(1, 0))
	for i, c := range []struct {
		p    api.Pred
		want int
	}{
		{truthFalse, api.False},
		{truthUnknown, api.Unknown},
		{truthTrue, api.True},
		{eq, api.Unknown},
		{lt, api.True},
		{cmp(api.Gt, col(0, 0), col(1, 0)), api.False},
		{cmp(api.Eq, col(2, 0), col(2, 0)), api.Unknown},
		{cmp(api.Eq, col(7, 0), val(num(0))), api.Unknown},
		{cmp(api.Ne, val(num(0)), val(num(1))), api.True},
		{isNull(col(0, 0)), api.False},
		{isNull(col(0, 1)), api.True},
		{isNull(col(1, 1)), api.True},
		{isNull(col(2, 0)), api.True},
		{isNull(col(3, 0)), api.True},
		{isNull(val(null)), api.True},
		{isNull(val(num(0))), api.False},
		{and(), api.True},
		{and(lt, eq), api.Unknown},
		{and(eq, truthFalse, lt), api.False},
		{or(), api.False},
		{or(truthFalse, eq), api.Unknown},
		{or(truthFalse, eq, lt), api.True},
		{not(lt), api.False},
		{not(eq), api.Unknown},
		{not(truthFalse), api.True},
		{not(not(lt)), api.True},
		{and(or(eq, lt), not(and(eq, truthFalse))), api.True},
	} {
		if got := pred.Of(c.p, rows); got != c.want {
			t.Errorf("%d: Of(%v) is %d, not %d", i, c.p, got, c.want)
		}
	}
}

// Of any predicate, whether it may be or not.
func TestOfWhatMayNotBe(t *testing.T) {
	rows := []api.Row{{num(2), null}}
	for i, c := range []struct {
		p    api.Pred
		want int
	}{
		{not(), api.Unknown},
		{not(truthTrue, truthFalse), api.False},
		{not(truthFalse, truthFalse, truth(5)), api.True},
		{and(truthTrue, truthTrue, truthTrue, truthTrue, truthFalse), api.False},
		{or(truthFalse, truthFalse, truthFalse, truthFalse, truthTrue), api.True},
		{and(truth(3), truthTrue), api.Unknown},
		{or(truth(3), truthFalse), api.Unknown},
		{not(truth(-1)), api.Unknown},
		{wrap(api.PredNot, 5, truthTrue), api.False},
		{wrap(api.PredNot, 6, truthTrue), api.True},
		{wrap(api.PredAnd, 9, truthFalse), api.False},
		{cmp(api.Eq, api.Term{}, api.Term{Kind: 9, Value: num(0)}), api.True},
		{cmp(api.Eq, col(0, 4), col(0, 4)), api.Unknown},
		{isNull(api.Term{}), api.False},
		{isNull(col(64, 0)), api.True},
		{isNull(col(-1, 0)), api.True},
		{isNull(val(api.Value{Null: true, N: 1})), api.True},
		{cmp(api.Eq, val(api.Value{Null: true, N: 1}), val(num(1))), api.Unknown},
		{api.Pred{Kind: api.PredTruth, Truth: api.True, Parts: []api.Pred{truthFalse}}, api.True},
		{api.Pred{Kind: api.PredAnd, Truth: api.False, Parts: []api.Pred{truthTrue}}, api.True},
		{api.Pred{Kind: api.PredNull, A: val(num(1)), B: val(null)}, api.False},
		{api.Pred{Truth: api.True, Parts: []api.Pred{truthTrue}}, api.Unknown},
	} {
		if got := pred.Of(c.p, rows); got != c.want {
			t.Errorf("%d: Of(%v) is %d, not %d", i, c.p, got, c.want)
		}
	}
}

func TestOfNumbers(t *testing.T) {
	for _, n := range wide {
		want := api.Unknown
		if n == api.False || n == api.True {
			want = n
		}
		if got := pred.Of(truth(n), nil); got != want {
			t.Errorf("the truth %d is %d", n, got)
		}
		if got := pred.Of(cmp(n, val(num(1)), val(num(1))), nil); (n < 1 || n > 6) && got != api.Unknown {
			t.Errorf("the comparison %d is %d", n, got)
		}
		for _, p := range append([]api.Pred{cmp(api.Eq, val(num(1)), val(num(1))), and(), or(), not(truthTrue)}, truths...) {
			p.Kind = n
			if got := pred.Of(p, nil); (n < 1 || n > 6) && got != api.Unknown {
				t.Errorf("the kind %d is %d", n, got)
			}
		}
	}
}

func TestOfComparisons(t *testing.T) {
	for op := api.Eq; op <= api.Ge; op++ {
		for _, a := range values {
			for _, b := range values {
				want := slowOf(cmp(op, val(a), val(b)), nil)
				rows := []api.Row{{a}, {num(9), b}}
				for _, p := range []api.Pred{cmp(op, val(a), val(b)), cmp(op, col(0, 0), val(b)), cmp(op, val(a), col(1, 1)), cmp(op, col(0, 0), col(1, 1))} {
					if got := pred.Of(p, rows); got != want {
						t.Errorf("Of(%v, %v) is %d, not %d", p, rows, got, want)
					}
				}
			}
		}
	}
}

// All lists of truths up to four, by each of what has Parts, and by All.
func TestOfTruths(t *testing.T) {
	lists := [][]api.Pred{nil}
	for at := 0; at < len(lists); at++ {
		l := lists[at]
		for _, p := range truths {
			if len(l) < 4 {
				lists = append(lists, append(slices.Clone(l), p))
			}
		}
		for _, p := range []api.Pred{and(l...), or(l...), not(and(l...)), not(or(l...)), not(l...)} {
			if got, want := pred.Of(p, nil), slowOf(p, nil); got != want {
				t.Errorf("Of(%v) is %d, not %d", p, got, want)
			}
		}
		if got, want := pred.All(l, nil), slowOf(and(l...), nil); got != want {
			t.Errorf("All(%v) is %d, not %d", l, got, want)
		}
	}
	if len(lists) != 1+3+9+27+81 {
		t.Errorf("%d lists", len(lists))
	}
}

func TestOfByTrying(t *testing.T) {
	d := &dice{63}
	count := map[int]int{}
	for _, p := range some() {
		for range 10 {
			rows := d.rows()
			got, want := pred.Of(p, rows), slowOf(p, rows)
			if got != want {
				t.Errorf("Of(%v, %v) is %d, not %d", p, rows, got, want)
			}
			count[got]++
		}
	}
	if len(count) != 3 {
		t.Errorf("not all truths come: %v", count)
	}
}

func TestAll(t *testing.T) {
	rows := []api.Row{{num(2), null}}
	eq, lt, gt := cmp(api.Eq, col(0, 1), val(num(1))), cmp(api.Lt, col(0, 0), val(num(3))), cmp(api.Gt, col(0, 0), val(num(3)))
	for i, c := range []struct {
		l    []api.Pred
		want int
	}{
		{nil, api.True},
		{[]api.Pred{}, api.True},
		{[]api.Pred{lt}, api.True},
		{[]api.Pred{eq}, api.Unknown},
		{[]api.Pred{gt}, api.False},
		{[]api.Pred{lt, eq}, api.Unknown},
		{[]api.Pred{eq, lt}, api.Unknown},
		{[]api.Pred{lt, eq, gt}, api.False},
		{[]api.Pred{gt, lt, eq}, api.False},
		{[]api.Pred{lt, lt, lt, lt, lt, lt}, api.True},
		{[]api.Pred{{}}, api.Unknown},
		{[]api.Pred{{}, truthFalse}, api.False},
		{slices.Repeat([]api.Pred{lt}, 1000), api.True},
		{append(slices.Repeat([]api.Pred{lt}, 1000), gt), api.False},
		{append(slices.Repeat([]api.Pred{lt}, 1000), truth(9)), api.Unknown},
	} {
		if got := pred.All(c.l, rows); got != c.want {
			t.Errorf("%d: All is %d, not %d", i, got, c.want)
		}
	}
}

func TestAllByTrying(t *testing.T) {
	d := &dice{64}
	l := some()
	for range 2000 {
		rows := d.rows()
		at := d.below(len(l))
		part := l[at:min(len(l), at+d.below(4))]
		if got, want := pred.All(part, rows), slowOf(and(part...), rows); got != want {
			t.Errorf("All(%v, %v) is %d, not %d", part, rows, got, want)
		}
	}
}

// P6.3

// Rows of tables that are not named may be anything, or not be there, and so may be rows behind all that are named.
func TestTwins(t *testing.T) {
	d := &dice{65}
	others := []api.Row{nil, {}, {null}, {num(1), num(1), num(1), num(1)}, {num(7), null, num(7)}}
	for _, p := range some() {
		named := pred.Tables(p)
		for range 10 {
			rows := d.rows()
			twin := slices.Clone(rows)
			for len(twin) < 70 {
				twin = append(twin, nil)
			}
			for i := range twin {
				if i > 63 || named>>i&1 == 0 {
					twin[i] = others[d.below(len(others))]
				}
			}
			if got, want := pred.Of(p, twin), pred.Of(p, rows); got != want {
				t.Errorf("Of(%v) is %d by %v, and %d by %v", p, want, rows, got, twin)
			}
			if got, want := pred.All([]api.Pred{p, p}, twin), pred.Of(p, rows); got != want {
				t.Errorf("All of %v is %d by %v, not %d", p, got, twin, want)
			}
		}
	}
}

// The row of each table that is named is of matter: the twin of it alone is not enough.
func TestTwinsOfNamed(t *testing.T) {
	rows := make([]api.Row, 64)
	for i := range rows {
		rows[i] = api.Row{num(1), num(2), num(3), num(4)}
	}
	for i := range 64 {
		for c := range 4 {
			p := not(isNull(col(i, c)))
			if got := pred.Of(p, rows); got != api.True {
				t.Errorf("%d.%d is null", i, c)
			}
			twin := slices.Clone(rows)
			twin[i] = nil
			if got := pred.Of(p, twin); got != api.False {
				t.Errorf("%d.%d of no row is not null", i, c)
			}
		}
	}
}

// What is handed in

// cloned tells l, and all rooms behind its lists, anew.
func cloned(l []api.Pred) []api.Pred {
	l = slices.Clone(l[:cap(l)])
	for i := range l {
		l[i].Parts = cloned(l[i].Parts)
	}
	return l
}

func TestLeavesWhatIsHandedIn(t *testing.T) {
	room := []api.Pred{truthTrue, not(truthFalse), or(truthUnknown, isNull(col(1, 0)))}
	whole := []api.Pred{and(room[:2]...), or(room[:0]...), cmp(api.Eq, col(0, 0), col(1, 0)), truth(9)}
	row := api.Row{num(1), num(2), num(3)}
	rows := []api.Row{row[:1], row[:0], {num(4)}}
	want := cloned(whole)
	for _, p := range whole {
		pred.Right(p)
		pred.Same(p, whole[0])
		pred.Copy(p)
		pred.Tables(p)
		pred.Columns(p)
		pred.Of(p, rows[:2])
		pred.All(whole[:2], rows[:2])
	}
	if !reflect.DeepEqual(cloned(whole), want) {
		t.Errorf("what was handed in is changed to %v", whole)
	}
	if !slices.Equal(row, api.Row{num(1), num(2), num(3)}) || len(rows[0]) != 1 || len(rows[1]) != 0 || !slices.Equal(rows[2], api.Row{num(4)}) {
		t.Errorf("the rows are changed to %v", rows)
	}
}

// As many parts nested in one another, or beside one another, as there may be.
func TestGreatPredicates(t *testing.T) {
	const many = 1 << 16
	leaf := cmp(api.Eq, col(0, 0), val(num(1)))
	rows := []api.Row{{num(1)}}
	wideOne := and(slices.Repeat([]api.Pred{leaf}, many)...)
	for name, c := range map[string]struct {
		p             api.Pred
		truth, leaves int
	}{
		"deep not":  {wrap(api.PredNot, many-1, leaf), api.False, 1},
		"deep and":  {wrap(api.PredAnd, many-1, leaf), api.True, 1},
		"deep or":   {wrap(api.PredOr, many-1, leaf), api.True, 1},
		"wide":      {wideOne, api.True, many},
		"wide deep": {wrap(api.PredNot, many-2, wideOne), api.True, many},
	} {
		if pred.Right(c.p) {
			t.Errorf("%s may be", name)
		}
		if got := pred.Of(c.p, rows); got != c.truth {
			t.Errorf("%s is %d", name, got)
		}
		if got := pred.Tables(c.p); got != 1 {
			t.Errorf("%s names %b", name, got)
		}
		if got := pred.Columns(c.p); len(got) != c.leaves {
			t.Errorf("%s has %d columns", name, len(got))
		}
		if got := pred.Copy(c.p); !pred.Same(got, c.p) {
			t.Errorf("%s is not the same as its copy", name)
		}
	}
}

// The chapter's example

func TestExample(t *testing.T) {
	p := cmp(api.Eq, col(0, 0), col(1, 0))
	for _, rows := range [][]api.Row{{{num(5)}, {null}}, {{null}, {num(5)}}} {
		if got := pred.Of(p, rows); got != api.Unknown {
			t.Errorf("0.0 = 1.0, of rows with 5 and null: %d", got)
		}
	}
}
