package reject_test

import (
	"math"
	"reflect"
	"slices"
	"testing"

	"watersmeet/api"
	"watersmeet/pred"
	"watersmeet/reject"
)

var null = api.Value{Null: true}

// may is the set of truths that a predicate may have.
type may = [3]bool

var (
	isFalse   = may{api.False: true}
	isUnknown = may{api.Unknown: true}
	isTrue    = may{api.True: true}
	isSure    = may{api.False: true, api.True: true}
	isAny     = may{true, true, true}
)

// wide are numbers of all sorts: those at which what is told turns, and some that would be right if they were cut to fewer digits.
var wide = []int{math.MinInt, math.MinInt + 1, -1 << 32, -256, -255, -2, -1, 0, 1, 2, 3, 4, 5, 6, 7, 8, 63, 64, 65, 127, 128, 255, 256, 257, 262, 1 << 32, 1<<32 + 1, 1<<32 + 6, math.MaxInt}

// values are values of all sorts; the last ones may not be.
var values = []api.Value{{}, {N: 1}, {N: -5}, {N: math.MaxInt64}, {N: math.MinInt64}, null, {Null: true, N: 1}, {Null: true, N: math.MinInt64}}

// nulls are sets of tables of all sorts.
var nulls = []uint64{0, 1, 2, 3, 4, 5, 8, 1 << 62, 1 << 63, 1<<63 - 1, ^uint64(1), math.MaxUint64}

var (
	truthTrue    = truth(api.True)
	truthFalse   = truth(api.False)
	truthUnknown = truth(api.Unknown)
)

func truth(t int) api.Pred {
	return api.Pred{Kind: api.PredTruth, Truth: t}
}

func col(table, c int) api.Term {
	return api.Term{Kind: api.TermCol, Table: table, Col: c}
}

func val(v api.Value) api.Term {
	return api.Term{Kind: api.TermValue, Value: v}
}

func num(n int64) api.Value {
	return api.Value{N: n}
}

func cmp(op int, a, b api.Term) api.Pred {
	return api.Pred{Kind: api.PredCmp, Op: op, A: a, B: b}
}

func eq(a, b api.Term) api.Pred {
	return cmp(api.Eq, a, b)
}

func isNull(a api.Term) api.Pred {
	return api.Pred{Kind: api.PredNull, A: a}
}

func and(l ...api.Pred) api.Pred {
	return api.Pred{Kind: api.PredAnd, Parts: l}
}

func or(l ...api.Pred) api.Pred {
	return api.Pred{Kind: api.PredOr, Parts: l}
}

func not(l ...api.Pred) api.Pred {
	return api.Pred{Kind: api.PredNot, Parts: l}
}

// wrap puts p into n predicates of this kind, one within the other.
func wrap(kind, n int, p api.Pred) api.Pred {
	for range n {
		p = api.Pred{Kind: kind, Parts: []api.Pred{p}}
	}
	return p
}

// leaves are predicates without Parts for each set of truths that such ones may have, where 0 is null and 1 is not; they name the column c alone.
func leaves(c int) []api.Pred {
	return []api.Pred{truthFalse, eq(col(0, c), col(1, c)), isNull(col(0, c)), isNull(col(1, c)), eq(col(1, c), val(num(1)))}
}

// dice tells numbers without a pattern, the same ones each time.
type dice struct{ word uint64 }

func (d *dice) below(n int) int {
	d.word = d.word*6364136223846793005 + 1442695040888963407
	return int(d.word >> 33 % uint64(n))
}

// term tells a term that may be.
func (d *dice) term() api.Term {
	if d.below(3) == 0 {
		return val([]api.Value{num(1), num(2), null}[d.below(3)])
	}
	return col(d.below(4), d.below(3))
}

// right tells a predicate that may be where there is room for so many below it.
func (d *dice) right(room int, term func() api.Term) api.Pred {
	kind := d.below(9)
	if room == 0 {
		kind %= 4
	}
	switch kind {
	case 0:
		return truth(d.below(3))
	case 1:
		return isNull(term())
	case 2, 3:
		return cmp(api.Eq+d.below(6), term(), term())
	case 4:
		return not(d.right(room-1, term))
	}
	p := api.Pred{Kind: api.PredAnd + kind%2}
	for range d.below(5) {
		p.Parts = append(p.Parts, d.right(room-1, term))
	}
	return p
}

// wild tells a predicate of any sort: each field may be anything.
func (d *dice) wild(room int) api.Pred {
	term := func() api.Term {
		if d.below(3) == 0 {
			return api.Term{}
		}
		return api.Term{Kind: d.below(4), Table: d.below(6) - 1, Col: d.below(6) - 1, Value: values[d.below(len(values))]}
	}
	p := api.Pred{Kind: d.below(9) - 1, Truth: d.below(5) - 1, Op: d.below(9) - 1, A: term(), B: term()}
	if room > 0 {
		for range d.below(4) {
			p.Parts = append(p.Parts, d.wild(room-1))
		}
	}
	return p
}

// some are predicates of all sorts, those that may be first.
func some() []api.Pred {
	d := &dice{7}
	var l []api.Pred
	for range 500 {
		l = append(l, d.right(3, d.term))
	}
	for range 500 {
		l = append(l, d.wild(3))
	}
	return l
}

// rows tells rows of all sorts: those of tables in null are not there, are short, or have null in all columns.
func (d *dice) rows(s uint64) []api.Row {
	rows := make([]api.Row, d.below(6))
	for i := range rows {
		for range d.below(5) {
			v := []api.Value{num(1), num(2), num(3), null, {Null: true, N: 1}}[d.below(5)]
			if s>>i&1 == 1 && !v.Null {
				v = null
			}
			rows[i] = append(rows[i], v)
		}
	}
	return rows
}

// slowNull tells whether t is null for sure, the set being gone through one by one.
func slowNull(t api.Term, s uint64) bool {
	if t.Kind != api.TermCol {
		return t.Value.Null
	}
	for i := range 64 {
		if i == t.Table && s&(1<<i) != 0 {
			return true
		}
	}
	return false
}

// slowChoices tells all choices of one truth of each one of l.
func slowChoices(l []api.Pred, s uint64) [][]int {
	told := [][]int{nil}
	for _, p := range l {
		var longer [][]int
		for _, choice := range told {
			for _, t := range slowMay(p, s) {
				longer = append(longer, append(slices.Clone(choice), t))
			}
		}
		told = longer
	}
	return told
}

// slowMay tells the truths that p may have, by the words of the chapter, all choices of the parts' truths being tried.
// The truths rise from False by Unknown to True: And is the least, Or the greatest, Not turns round.
func slowMay(p api.Pred, s uint64) []int {
	var told []int
	isCol := func(t api.Term) bool { return t.Kind == api.TermCol }
	switch p.Kind {
	case api.PredTruth:
		if p.Truth == 0 || p.Truth == 2 {
			return []int{p.Truth}
		}
	case api.PredCmp:
		if slowNull(p.A, s) || slowNull(p.B, s) || p.Op < 1 || p.Op > 6 {
			return []int{1}
		}
		if isCol(p.A) || isCol(p.B) {
			return []int{0, 1, 2}
		}
		a, b := p.A.Value.N, p.B.Value.N
		if []bool{a == b, a != b, a < b, a <= b, a > b, a >= b}[p.Op-1] {
			return []int{2}
		}
		return []int{0}
	case api.PredNull:
		if !slowNull(p.A, s) {
			told = append(told, 0)
		}
		if slowNull(p.A, s) || isCol(p.A) {
			told = append(told, 2)
		}
		return told
	case api.PredAnd:
		for _, choice := range slowChoices(p.Parts, s) {
			told = append(told, slices.Min(append(choice, 2)))
		}
		return slices.Compact(sorted(told))
	case api.PredOr:
		for _, choice := range slowChoices(p.Parts, s) {
			told = append(told, slices.Max(append(choice, 0)))
		}
		return slices.Compact(sorted(told))
	case api.PredNot:
		if len(p.Parts) > 0 {
			for _, t := range slowMay(p.Parts[0], s) {
				told = append(told, 2-t)
			}
			return told
		}
	}
	return []int{1}
}

func sorted(l []int) []int {
	slices.Sort(l)
	return l
}

// slow tells what slowMay does, as May does.
func slow(p api.Pred, s uint64) may {
	var told may
	for _, t := range slowMay(p, s) {
		told[t] = true
	}
	return told
}

// P7.1: what has no Parts

func TestMayOfTruths(t *testing.T) {
	for _, n := range wide {
		want := isUnknown
		switch n {
		case api.False:
			want = isFalse
		case api.True:
			want = isTrue
		}
		for _, s := range nulls {
			if got := reject.May(truth(n), s); got != want {
				t.Errorf("the truth %d may be %v", n, got)
			}
			p := api.Pred{Kind: api.PredTruth, Truth: n, Op: api.Eq, A: col(0, 0), B: val(num(1)), Parts: []api.Pred{truthTrue}}
			if got := reject.May(p, s); got != want {
				t.Errorf("the truth %d, with all fields, may be %v", n, got)
			}
		}
	}
}

func TestMayOfComparisons(t *testing.T) {
	for i, c := range []struct {
		p    api.Pred
		null uint64
		want may
	}{
		{eq(col(0, 0), col(1, 0)), 0, isAny},
		{eq(col(0, 0), col(1, 0)), 1, isUnknown},
		{eq(col(0, 0), col(1, 0)), 2, isUnknown},
		{eq(col(0, 0), col(1, 0)), 3, isUnknown},
		{eq(col(0, 0), col(1, 0)), 4, isAny},
		{eq(col(0, 0), col(0, 0)), 0, isAny},
		{eq(col(0, 0), col(0, 0)), 1, isUnknown},
		{cmp(api.Ne, col(0, 0), col(0, 0)), 0, isAny},
		{eq(col(0, 3), val(num(1))), 0, isAny},
		{eq(col(0, 3), val(num(1))), 1, isUnknown},
		{eq(val(num(1)), col(5, 2)), 32, isUnknown},
		{eq(val(num(1)), col(5, 2)), 31, isAny},
		{eq(col(63, 0), val(num(1))), 1 << 63, isUnknown},
		{eq(col(63, 0), val(num(1))), 1<<63 - 1, isAny},
		{eq(col(0, 0), val(null)), 0, isUnknown},
		{eq(val(null), col(0, 0)), 0, isUnknown},
		{eq(val(null), val(null)), 0, isUnknown},
		{eq(val(null), val(num(1))), 0, isUnknown},
		{eq(val(num(1)), val(null)), 0, isUnknown},
		{eq(val(num(1)), val(num(1))), 0, isTrue},
		{eq(val(num(1)), val(num(1))), 1, isTrue},
		{eq(val(num(1)), val(num(2))), math.MaxUint64, isFalse},
		{cmp(api.Lt, val(num(1)), val(num(2))), 0, isTrue},
		{cmp(api.Lt, val(num(2)), val(num(1))), 0, isFalse},
		{cmp(api.Lt, val(num(math.MinInt64)), val(num(math.MaxInt64))), 0, isTrue},
		{cmp(api.Lt, col(0, 0), val(num(math.MinInt64))), 0, isAny},
		{cmp(api.Le, col(0, 0), val(num(math.MaxInt64))), 0, isAny},
	} {
		if got := reject.May(c.p, c.null); got != c.want {
			t.Errorf("%d: May(%v, %b) is %v, not %v", i, c.p, c.null, got, c.want)
		}
	}
}

// All comparisons of all values, by what they are.
func TestMayOfValues(t *testing.T) {
	for _, op := range wide {
		for _, a := range values {
			for _, b := range values {
				for _, s := range nulls {
					p := cmp(op, val(a), val(b))
					var want may
					want[pred.Of(p, nil)] = true
					if got := reject.May(p, s); got != want {
						t.Errorf("May(%v, %b) is %v, not %v", p, s, got, want)
					}
				}
			}
		}
	}
}

// Of no comparison it is unknown alone, whatever is compared.
func TestMayOfNoComparison(t *testing.T) {
	for _, op := range wide {
		want := isAny
		if op < 1 || op > 6 {
			want = isUnknown
		}
		for _, p := range []api.Pred{cmp(op, col(0, 0), col(1, 0)), cmp(op, col(0, 0), val(num(1))), cmp(op, val(num(1)), col(0, 0))} {
			if got := reject.May(p, 4); got != want {
				t.Errorf("by the comparison %d it may be %v", op, got)
			}
			if got := reject.May(p, 3); got != isUnknown {
				t.Errorf("by the comparison %d, of nulls, it may be %v", op, got)
			}
		}
	}
}

func TestMayOfNulls(t *testing.T) {
	for i, c := range []struct {
		p    api.Pred
		null uint64
		want may
	}{
		{isNull(col(0, 0)), 0, isSure},
		{isNull(col(0, 0)), 1, isTrue},
		{isNull(col(0, 3)), 1, isTrue},
		{isNull(col(0, 0)), 2, isSure},
		{isNull(col(63, 0)), 1 << 63, isTrue},
		{isNull(col(63, 0)), 1<<63 - 1, isSure},
		{isNull(val(num(0))), 0, isFalse},
		{isNull(val(num(0))), math.MaxUint64, isFalse},
		{isNull(val(null)), 0, isTrue},
		{isNull(val(api.Value{Null: true, N: 1})), 0, isTrue},
		{api.Pred{Kind: api.PredNull}, 1, isFalse},
		{api.Pred{Kind: api.PredNull, B: col(0, 0)}, 1, isFalse},
		{api.Pred{Kind: api.PredNull, A: val(num(1)), B: val(null)}, 0, isFalse},
		{api.Pred{Kind: api.PredNull, A: col(1, 0), B: col(0, 0), Truth: 2, Op: 9, Parts: []api.Pred{truthFalse}}, 1, isSure},
	} {
		if got := reject.May(c.p, c.null); got != c.want {
			t.Errorf("%d: May(%v, %b) is %v, not %v", i, c.p, c.null, got, c.want)
		}
	}
}

// A column is one of its table, whatever its Col and Value; what is no column is what its Value is, whatever its Kind, Table and Col.
func TestMayOfTerms(t *testing.T) {
	one := val(num(1))
	for _, kind := range wide {
		for _, table := range wide {
			for _, v := range values {
				x := api.Term{Kind: kind, Table: table, Col: table, Value: v}
				for _, s := range nulls {
					asked, told := isSure, isAny
					switch {
					case slowNull(x, s):
						asked, told = isTrue, isUnknown
					case kind != api.TermCol:
						asked, told = isFalse, may{v.N != 1, false, v.N == 1}
					}
					if got := reject.May(isNull(x), s); got != asked {
						t.Errorf("May(is %v null, %b) is %v, not %v", x, s, got, asked)
					}
					if a, b := reject.May(eq(x, one), s), reject.May(eq(one, x), s); a != told || b != told {
						t.Errorf("May(%v = 1, %b) is %v, the other way round %v, not %v", x, s, a, b, told)
					}
				}
			}
		}
	}
}

// Each table is one of null by its own digit alone.
func TestMayOfEachTable(t *testing.T) {
	for i := range 64 {
		for j := range 64 {
			asked, told := isSure, isAny
			if i == j {
				asked, told = isTrue, isUnknown
			}
			if got := reject.May(isNull(col(i, 1)), 1<<j); got != asked {
				t.Errorf("%d.1 may be null, where %d is: %v", i, j, got)
			}
			if got := reject.May(cmp(api.Gt, col(i, 1), val(num(0))), 1<<j); got != told {
				t.Errorf("%d.1 > 0, where %d is null: %v", i, j, got)
			}
		}
	}
}

// P7.1: what has Parts

func TestMayOfParts(t *testing.T) {
	unknown, sure, all := eq(col(0, 0), val(num(1))), isNull(col(1, 0)), eq(col(1, 0), val(num(1)))
	for i, c := range []struct {
		p    api.Pred
		want may
	}{
		{and(), isTrue},
		{or(), isFalse},
		{not(), isUnknown},
		{and(unknown), isUnknown},
		{or(unknown), isUnknown},
		{not(unknown), isUnknown},
		{not(truthTrue), isFalse},
		{not(truthFalse), isTrue},
		{not(sure), isSure},
		{not(all), isAny},
		{and(sure, sure), isSure},
		{and(unknown, all), may{true, true, false}},
		{and(all, unknown), may{true, true, false}},
		{or(unknown, all), may{false, true, true}},
		{or(all, unknown), may{false, true, true}},
		{and(unknown, sure), may{true, true, false}},
		{or(unknown, sure), may{false, true, true}},
		{not(and(unknown, sure)), may{false, true, true}},
		{not(or(unknown, sure)), may{true, true, false}},
		{and(all, truthFalse), isFalse},
		{or(all, truthTrue), isTrue},
		{and(all, truthTrue), isAny},
		{or(all, truthFalse), isAny},
		{and(sure, not(sure)), isSure},
		{or(sure, not(sure)), isSure},
		{and(unknown, isNull(col(0, 0))), isUnknown},
		{or(unknown, isNull(col(0, 0))), isTrue},
		{and(all, not(isNull(col(0, 0)))), isFalse},
		{and(all, all, all, all, truthFalse), isFalse},
		{or(all, all, all, all, truthTrue), isTrue},
		{not(truthTrue, truthFalse), isFalse},
		{not(truthFalse, all, all), isTrue},
		{wrap(api.PredNot, 5, truthTrue), isFalse},
		{wrap(api.PredNot, 6, truthTrue), isTrue},
		{and(truth(7), truthTrue), isUnknown},
		{or(truth(-1), truthFalse), isUnknown},
		{and(api.Pred{}, truthFalse), isFalse},
		{or(api.Pred{Kind: 7}, sure), may{false, true, true}},
	} {
		if got := reject.May(c.p, 1); got != c.want {
			t.Errorf("%d: May(%v, 1) is %v, not %v", i, c.p, got, c.want)
		}
	}
}

// What has Parts has nothing else that is of matter.
func TestMayOfPartsAlone(t *testing.T) {
	for _, kind := range []int{api.PredAnd, api.PredOr, api.PredNot} {
		for _, parts := range [][]api.Pred{nil, {truthTrue}, {truthFalse}, {isNull(col(1, 0)), truthTrue}} {
			p := api.Pred{Kind: kind, Parts: parts}
			want := slow(p, 1)
			p.Truth, p.Op, p.A, p.B = api.True, api.Eq, col(0, 0), val(null)
			if got := reject.May(p, 1); got != want {
				t.Errorf("May(%v, 1) is %v, not %v", p, got, want)
			}
		}
	}
}

// Any other Kind is unknown alone, whatever else it has.
func TestMayOfKinds(t *testing.T) {
	for _, kind := range wide {
		if kind >= 1 && kind <= 6 {
			continue
		}
		for _, p := range []api.Pred{{}, truthTrue, truthFalse, eq(val(num(1)), val(num(1))), eq(col(1, 0), col(1, 0)), isNull(col(0, 0)), and(), and(truthTrue), or(truthFalse), not(truthTrue)} {
			p.Kind = kind
			for _, s := range nulls {
				if got := reject.May(p, s); got != isUnknown {
					t.Errorf("May(%v, %b) is %v", p, s, got)
				}
			}
		}
	}
}

// All lists of up to four parts, one of each sort.
func TestMayOfAllLists(t *testing.T) {
	lists := [][]api.Pred{nil}
	for at := 0; at < len(lists); at++ {
		l := lists[at]
		for _, p := range leaves(len(l)) {
			if len(l) < 4 {
				lists = append(lists, append(slices.Clone(l), p))
			}
		}
		for _, p := range []api.Pred{and(l...), or(l...), not(l...), not(and(l...)), not(or(l...))} {
			if got, want := reject.May(p, 1), slow(p, 1); got != want {
				t.Errorf("May(%v, 1) is %v, not %v", p, got, want)
			}
		}
	}
	if len(lists) != 1+5+25+125+625 {
		t.Errorf("%d lists", len(lists))
	}
}

func TestMayByTrying(t *testing.T) {
	count := map[may]int{}
	for _, p := range some() {
		for s := range uint64(16) {
			got, want := reject.May(p, s), slow(p, s)
			if got != want {
				t.Errorf("May(%v, %b) is %v, not %v", p, s, got, want)
			}
			count[got]++
		}
	}
	if len(count) != 7 {
		t.Errorf("not all sets of truths come: %v", count)
	}
}

// P7.2

func TestRejects(t *testing.T) {
	eq01 := eq(col(0, 0), col(1, 0))
	for i, c := range []struct {
		l    []api.Pred
		null uint64
		want bool
	}{
		{nil, 0, false},
		{nil, math.MaxUint64, false},
		{[]api.Pred{}, 1, false},
		{[]api.Pred{eq01}, 0, false},
		{[]api.Pred{eq01}, 1, true},
		{[]api.Pred{eq01}, 2, true},
		{[]api.Pred{eq01}, 4, false},
		{[]api.Pred{truthTrue}, 1, false},
		{[]api.Pred{truthFalse}, 0, true},
		{[]api.Pred{truthUnknown}, 0, true},
		{[]api.Pred{truth(3)}, 0, true},
		{[]api.Pred{{}}, 0, true},
		{[]api.Pred{{Kind: 7}}, 0, true},
		{[]api.Pred{not()}, 0, true},
		{[]api.Pred{or()}, 0, true},
		{[]api.Pred{and()}, 1, false},
		{[]api.Pred{isNull(col(0, 0))}, 1, false},
		{[]api.Pred{not(isNull(col(0, 0)))}, 1, true},
		{[]api.Pred{not(isNull(col(0, 0)))}, 2, false},
		{[]api.Pred{not(isNull(val(null)))}, 0, true},
		{[]api.Pred{isNull(val(num(1)))}, 0, true},
		{[]api.Pred{truthTrue, eq01}, 1, true},
		{[]api.Pred{eq01, truthTrue}, 1, true},
		{[]api.Pred{isNull(col(0, 0)), isNull(col(1, 0))}, 1, false},
		{[]api.Pred{isNull(col(0, 0)), eq(col(2, 0), col(1, 0))}, 1, false},
		{[]api.Pred{isNull(col(0, 0)), eq(col(2, 0), col(1, 0))}, 5, true},
		{[]api.Pred{or(eq01, isNull(col(0, 0)))}, 1, false},
		{[]api.Pred{or(eq01, isNull(col(0, 0)))}, 2, false},
		{[]api.Pred{or(eq01, isNull(col(2, 0)))}, 2, false},
		{[]api.Pred{or(eq01, cmp(api.Lt, col(0, 1), val(num(3))))}, 1, true},
		{[]api.Pred{or(eq01, cmp(api.Lt, col(0, 1), val(num(3))))}, 2, false},
		{[]api.Pred{eq(col(1, 0), val(null))}, 0, true},
		{[]api.Pred{cmp(9, col(1, 0), col(2, 0))}, 0, true},
		{slices.Repeat([]api.Pred{truthTrue}, 1000), 1, false},
		{append(slices.Repeat([]api.Pred{truthTrue}, 1000), eq01), 1, true},
		{append([]api.Pred{eq01}, slices.Repeat([]api.Pred{truthTrue}, 1000)...), 1, true},
	} {
		if got := reject.Rejects(c.l, c.null); got != c.want {
			t.Errorf("%d: Rejects(%v, %b) is %v", i, c.l, c.null, got)
		}
	}
}

// It is looked at alone: what can't be for another cause is thought to be.
func TestRejectsByLookingAlone(t *testing.T) {
	x := col(1, 0)
	for i, p := range []api.Pred{and(isNull(x), not(isNull(x))), cmp(api.Ne, x, x), and(eq(x, val(num(1))), eq(x, val(num(2)))), cmp(api.Lt, x, val(num(math.MinInt64)))} {
		if reject.Rejects([]api.Pred{p}, 1) {
			t.Errorf("%d: %v rejects nulls of 0", i, p)
		}
		if !reject.Rejects([]api.Pred{p}, 2) {
			t.Errorf("%d: %v does not reject nulls of 1", i, p)
		}
	}
}

func TestRejectsByTrying(t *testing.T) {
	d := &dice{72}
	l := some()
	count := map[bool]int{}
	for range 5000 {
		at, s := d.below(len(l)), uint64(d.below(16))
		part := l[at:min(len(l), at+d.below(4))]
		got, want := reject.Rejects(part, s), !slow(and(part...), s)[api.True]
		if got != want {
			t.Errorf("Rejects(%v, %b) is %v", part, s, got)
		}
		count[got]++
	}
	if len(count) != 2 {
		t.Errorf("not both come: %v", count)
	}
}

// P7.3

// What a predicate is of rows in which null has no row, or null alone, is one of those that it may be.
func TestItHolds(t *testing.T) {
	d := &dice{73}
	l := some()
	for at, p := range l {
		part := l[at:min(len(l), at+2)]
		for s := range uint64(16) {
			m, rejects := reject.May(p, s), reject.Rejects(part, s)
			for range 10 {
				rows := d.rows(s)
				if is := pred.Of(p, rows); !m[is] {
					t.Errorf("%v is %d of %v, but may be %v where %b is null", p, is, rows, m, s)
				}
				if rejects && pred.All(part, rows) == api.True {
					t.Errorf("%v are true of %v, but reject nulls of %b", part, rows, s)
				}
			}
		}
	}
}

// At the last tables, too, and where null has tables that are not there.
func TestItHoldsOfLastTables(t *testing.T) {
	for i := range 64 {
		rows := make([]api.Row, 64)
		for j := range rows {
			if j != i {
				rows[j] = api.Row{num(1), num(2)}
			}
		}
		for _, p := range []api.Pred{isNull(col(i, 1)), not(isNull(col(i, 1))), eq(col(i, 0), val(num(1))), or(eq(col(i, 0), col(i, 0)), isNull(col(63-i, 0)))} {
			for _, short := range [][]api.Row{rows, rows[:i], nil} {
				if m, is := reject.May(p, 1<<i), pred.Of(p, short); !m[is] {
					t.Errorf("%v is %d, but may be %v where %d is null", p, is, m, i)
				}
			}
			for _, short := range [][]api.Row{rows[:i], nil} {
				if m, is := reject.May(p, ^uint64(0)<<i), pred.Of(p, short); !m[is] {
					t.Errorf("%v is %d, but may be %v where all from %d on are null", p, is, m, i)
				}
			}
		}
	}
}

// once hands out terms of which no two name the same column, as long as there are any: then values.
func (d *dice) once(columns []api.Term) func() api.Term {
	return func() api.Term {
		if len(columns) == 0 || d.below(4) == 0 {
			return val([]api.Value{num(1), num(1), null}[d.below(3)])
		}
		x := columns[0]
		columns = columns[1:]
		return x
	}
}

// allRows tells all rows of three tables of two columns each, of null and numbers around 1, null alone in the tables of s.
func allRows(s uint64) [][]api.Row {
	told := [][]api.Row{{{}, {}, {}}}
	for i := range 3 {
		for range 2 {
			var longer [][]api.Row
			for _, rows := range told {
				for _, v := range []api.Value{null, num(0), num(1), num(2)} {
					if s>>i&1 == 1 && !v.Null {
						continue
					}
					next := slices.Clone(rows)
					next[i] = append(slices.Clone(rows[i]), v)
					longer = append(longer, next)
				}
			}
			told = longer
		}
	}
	return told
}

// Where no column comes twice, each truth that may be is that of some rows: no more is thought to be than may be.
func TestNoMoreThanMayBe(t *testing.T) {
	d := &dice{74}
	for range 300 {
		s := uint64(1 + d.below(7))
		columns := []api.Term{col(0, 0), col(1, 0), col(2, 0), col(0, 1), col(1, 1), col(2, 1)}
		p := d.right(3, d.once(columns))
		var want may
		for _, rows := range allRows(s) {
			want[pred.Of(p, rows)] = true
		}
		if got := reject.May(p, s); got != want {
			t.Errorf("May(%v, %b) is %v, but of all rows it is %v", p, s, got, want)
		}
	}
}

// What is handed in

// cloned tells l, and all rooms behind its lists, anew.
func cloned(l []api.Pred) []api.Pred {
	l = slices.Clone(l[:cap(l)])
	for i := range l {
		l[i].Parts = cloned(l[i].Parts)
	}
	return l
}

func TestLeavesWhatIsHandedIn(t *testing.T) {
	room := []api.Pred{truthTrue, not(truthFalse), or(truthUnknown, isNull(col(1, 0)))}
	whole := []api.Pred{and(room[:2]...), or(room[:0]...), eq(col(0, 0), col(1, 0)), truth(9)}
	want := cloned(whole)
	for _, s := range nulls {
		for _, p := range whole {
			reject.May(p, s)
		}
		reject.Rejects(whole[:2], s)
	}
	if !reflect.DeepEqual(cloned(whole), want) {
		t.Errorf("what was handed in is changed to %v", whole)
	}
}

// As many parts nested in one another, or beside one another, as there may be.
func TestGreatPredicates(t *testing.T) {
	const many = 1 << 16
	all := eq(col(1, 0), val(num(1)))
	wideOne := slices.Repeat([]api.Pred{all, isNull(col(1, 0))}, many/2)
	for name, c := range map[string]struct {
		p    api.Pred
		want may
	}{
		"deep not":          {wrap(api.PredNot, many-1, isNull(col(0, 0))), isFalse},
		"deep and":          {wrap(api.PredAnd, many-1, all), isAny},
		"deep or":           {wrap(api.PredOr, many-1, truthTrue), isTrue},
		"wide":              {and(wideOne...), isAny},
		"wide, and unknown": {and(slices.Concat(wideOne, []api.Pred{eq(col(0, 0), val(num(1)))})...), may{true, true, false}},
		"wide or":           {or(slices.Concat(wideOne, []api.Pred{truthTrue})...), isTrue},
		"wide deep":         {wrap(api.PredNot, many-2, or(wideOne...)), isAny},
	} {
		if got := reject.May(c.p, 1); got != c.want {
			t.Errorf("%s may be %v, not %v", name, got, c.want)
		}
		if got := reject.Rejects([]api.Pred{c.p}, 1); got == c.want[api.True] {
			t.Errorf("%s: Rejects is %v", name, got)
		}
	}
}

// The chapter's example

func TestExample(t *testing.T) {
	eq01, null0, eq10 := eq(col(0, 0), col(1, 0)), isNull(col(0, 0)), eq(col(1, 0), col(0, 0))
	if !reject.Rejects([]api.Pred{eq01}, 1) {
		t.Error("0.0 = 1.0 does not reject nulls of 0")
	}
	if reject.Rejects([]api.Pred{null0}, 1) {
		t.Error("0.0 is null rejects nulls of 0")
	}
	if !reject.Rejects([]api.Pred{null0, eq10}, 1) || !reject.Rejects([]api.Pred{and(null0, eq10)}, 1) {
		t.Error("0.0 is null, and 1.0 = 0.0, does not reject nulls of 0")
	}
}
