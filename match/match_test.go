package match_test

import (
	"math"
	"slices"
	"testing"

	"watersmeet/api"
	"watersmeet/match"
	"watersmeet/pred"
	"watersmeet/sample"
)

var null = api.Value{Null: true}

// wrong are nulls that may not be.
var wrong = []api.Value{{Null: true, N: 1}, {Null: true, N: math.MinInt64}}

// kinds are kinds of operators and numbers that are none, some of which would be one if they were cut to fewer digits.
var kinds = []int{api.Leaf, api.Inner, api.Left, api.Semi, api.Anti, 5, 6, 9, -1, -2, -3, -4, math.MinInt, math.MinInt + 1, math.MaxInt, 257, 258, 259, 260, 1<<16 + 1, 1<<32 + 1, 1<<32 + 2, 1<<32 + 3, 1<<32 + 4, 1<<62 + 2}

var (
	truthTrue    = api.Pred{Kind: api.PredTruth, Truth: api.True}
	truthUnknown = api.Pred{Kind: api.PredTruth, Truth: api.Unknown}
	truthFalse   = api.Pred{Kind: api.PredTruth, Truth: api.False}
)

// ints tells the row of these numbers.
func ints(l ...int64) api.Row {
	var r api.Row
	for _, n := range l {
		r = append(r, api.Value{N: n})
	}
	return r
}

// rows tells a tuple.
func rows(l ...api.Row) []api.Row {
	return l
}

// tuples tells a list of tuples.
func tuples(l ...[]api.Row) [][]api.Row {
	return l
}

func col(table, c int) api.Term {
	return api.Term{Kind: api.TermCol, Table: table, Col: c}
}

func cmp(op int, a, b api.Term) api.Pred {
	return api.Pred{Kind: api.PredCmp, Op: op, A: a, B: b}
}

func eq(a, b api.Term) api.Pred {
	return cmp(api.Eq, a, b)
}

func isNull(a api.Term) api.Pred {
	return api.Pred{Kind: api.PredNull, A: a}
}

func not(p api.Pred) api.Pred {
	return api.Pred{Kind: api.PredNot, Parts: []api.Pred{p}}
}

func or(l ...api.Pred) api.Pred {
	return api.Pred{Kind: api.PredOr, Parts: l}
}

// slowMerge tells what Merge tells: the rows of b are put down by their tables, and then those of a.
func slowMerge(a, b []api.Row) []api.Row {
	long, put := 0, map[int]api.Row{}
	for _, t := range [][]api.Row{b, a} {
		long = max(long, len(t))
		for i, row := range t {
			if len(row) != 0 {
				put[i] = row
			}
		}
	}
	var t []api.Row
	for i := range long {
		t = append(t, append(api.Row{}, put[i]...))
	}
	return t
}

func slowMatches(conj []api.Pred, l []api.Row, r [][]api.Row) [][]api.Row {
	var found [][]api.Row
	for _, t := range r {
		if m := slowMerge(l, t); pred.All(conj, m) == api.True {
			found = append(found, m)
		}
	}
	return found
}

// slowOf tells what an operator of this kind makes of l with these matches.
func slowOf(kind int, l []api.Row, found [][]api.Row) [][]api.Row {
	any := len(found) > 0
	switch {
	case kind == 1, kind == 2 && any:
		return found
	case kind == 2, kind == 3 && any, kind == 4 && !any:
		return tuples(l)
	}
	return nil
}

func slowFlat(t []api.Row, seen uint64, cols []int) api.Row {
	var flat api.Row
	for i, n := range cols {
		if i > 63 || seen&(1<<i) == 0 {
			continue
		}
		for c := range max(n, 0) {
			v := null
			if i < len(t) && c < len(t[i]) {
				v = t[i][c]
			}
			flat = append(flat, v)
		}
	}
	return flat
}

// dice tells numbers without a pattern, the same ones each time.
type dice struct{ word uint64 }

func (d *dice) below(n int) int {
	d.word = d.word*6364136223846793005 + 1442695040888963407
	return int(d.word >> 33 % uint64(n))
}

// tuple tells a tuple of up to so many rows; some are empty, and some have spare room, which holds values, too.
func (d *dice) tuple(most int) []api.Row {
	values := []api.Value{{}, {N: 1}, {N: 2}, null, wrong[0]}
	t := make([]api.Row, 0, most+2)
	for range d.below(most + 1) {
		row := api.Row{}
		for range 5 {
			row = append(row, values[d.below(len(values))])
		}
		t = append(t, row[:d.below(4)])
	}
	for i := range t {
		if len(t[i]) == 0 && d.below(2) == 0 {
			t[i] = nil
		}
	}
	spare := t[:cap(t)]
	for i := len(t); i < len(spare); i++ {
		spare[i] = ints(77, 78)
	}
	return t
}

// list tells up to so many tuples.
func (d *dice) list(most int) [][]api.Row {
	l := make([][]api.Row, 0, most+1)
	for range d.below(most + 1) {
		l = append(l, d.tuple(5))
	}
	return l
}

// pred tells a predicate of any sort, whether it may be or not.
func (d *dice) pred(room int) api.Pred {
	term := func() api.Term {
		if d.below(4) == 0 {
			return api.Term{Kind: api.TermValue, Value: api.Value{N: int64(d.below(3))}}
		}
		return col(d.below(7)-1, d.below(5)-1)
	}
	kinds := []int{api.PredCmp, api.PredCmp, api.PredNull, api.PredTruth, api.PredAnd, api.PredOr, api.PredNot, 0, 7}
	p := api.Pred{Kind: kinds[d.below(len(kinds))], Truth: d.below(4), Op: d.below(8), A: term(), B: term()}
	if room > 0 {
		for range d.below(3) {
			p.Parts = append(p.Parts, d.pred(room-1))
		}
	}
	return p
}

// conj tells up to two predicates.
func (d *dice) conj() []api.Pred {
	var l []api.Pred
	for range d.below(3) {
		l = append(l, d.pred(2))
	}
	return l
}

// P13.1: Merge

func TestMerge(t *testing.T) {
	for _, c := range []struct{ a, b, want []api.Row }{
		{nil, nil, nil},
		{rows(), nil, rows()},
		{nil, rows(nil), rows(nil)},
		{rows(nil), nil, rows(nil)},
		{rows(api.Row{}), rows(nil, api.Row{}), rows(nil, nil)},
		{rows(ints(1)), nil, rows(ints(1))},
		{nil, rows(ints(1)), rows(ints(1))},
		{rows(ints(1)), rows(ints(2)), rows(ints(1))},
		{rows(ints(1)), rows(ints(2, 3)), rows(ints(1))},
		{rows(ints(1, 4)), rows(ints(2)), rows(ints(1, 4))},
		{rows(nil), rows(ints(2)), rows(ints(2))},
		{rows(api.Row{}), rows(ints(2)), rows(ints(2))},
		{rows(ints(1)), rows(nil), rows(ints(1))},
		{rows(ints(1)), rows(api.Row{}), rows(ints(1))},
		{rows(ints(1)), rows(nil, ints(2)), rows(ints(1), ints(2))},
		{rows(nil, ints(2)), rows(ints(1)), rows(ints(1), ints(2))},
		{rows(ints(1), nil, nil), rows(nil, ints(2)), rows(ints(1), ints(2), nil)},
		{rows(ints(1)), rows(nil, nil, nil), rows(ints(1), nil, nil)},
		{rows(nil, nil, nil, nil), rows(nil, ints(1)), rows(nil, ints(1), nil, nil)},
		{rows(ints(1), nil, ints(3)), rows(ints(7), ints(8, 9), nil, ints(4)), rows(ints(1), ints(8, 9), ints(3), ints(4))},
		{rows(api.Row{null}), rows(ints(5)), rows(api.Row{null})},
		{rows(api.Row{wrong[1]}), rows(api.Row{null}), rows(api.Row{wrong[1]})},
		{rows(nil), rows(api.Row{null, wrong[0]}), rows(api.Row{null, wrong[0]})},
		{rows(ints(1, 2, 3, 4, 5, 6)), rows(ints(9)), rows(ints(1, 2, 3, 4, 5, 6))},
	} {
		if got := match.Merge(c.a, c.b); !sample.SameRows(got, c.want) {
			t.Errorf("Merge(%v, %v) is %v", c.a, c.b, got)
		}
	}
}

func TestMergeOfTuplesOfAllSorts(t *testing.T) {
	d := &dice{1}
	for range 4000 {
		a, b := d.tuple(6), d.tuple(6)
		if got := match.Merge(a, b); !sample.SameRows(got, slowMerge(a, b)) {
			t.Errorf("Merge(%v, %v) is %v", a, b, got)
		}
	}
}

// A tuple may have more rows than there may be tables.
func TestMergeBeyondTables(t *testing.T) {
	a, b := make([]api.Row, 70), make([]api.Row, 66)
	a[0], a[63], a[64], a[69] = ints(1), ints(2), ints(3), ints(4)
	b[0], b[62], b[64], b[65] = ints(5), ints(6), ints(7), ints(8)
	for _, c := range [][2][]api.Row{{a, b}, {b, a}} {
		if got := match.Merge(c[0], c[1]); !sample.SameRows(got, slowMerge(c[0], c[1])) || len(got) != 70 {
			t.Errorf("Merge(%v, %v) is %v", c[0], c[1], got)
		}
	}
}

// P13.1: Matches

func TestMatches(t *testing.T) {
	same := []api.Pred{eq(col(0, 0), col(1, 0))}
	five := rows(ints(5))
	for _, c := range []struct {
		name string
		conj []api.Pred
		l    []api.Row
		r    [][]api.Row
		want [][]api.Row
	}{
		{"no tuples", same, five, nil, nil},
		{"no conjuncts", nil, five, tuples(rows(nil, ints(6)), nil), tuples(rows(ints(5), ints(6)), five)},
		{"in order, as often as they come", same, five,
			tuples(rows(nil, ints(5, 2)), rows(nil, ints(6)), rows(nil, ints(5, 1)), rows(nil, ints(5, 2))),
			tuples(rows(ints(5), ints(5, 2)), rows(ints(5), ints(5, 1)), rows(ints(5), ints(5, 2)))},
		{"null is unknown", same, five, tuples(rows(nil, api.Row{null}), rows(nil, api.Row{wrong[0]})), nil},
		{"null on both sides", same, rows(api.Row{null}), tuples(rows(nil, api.Row{null})), nil},
		{"no row", same, five, tuples(rows(), nil, rows(ints(5)), rows(nil, nil), rows(nil, api.Row{})), nil},
		{"not unknown", []api.Pred{not(same[0])}, five, tuples(rows(nil, api.Row{null}), rows(nil, ints(5)), rows(nil, ints(4))), tuples(rows(ints(5), ints(4)))},
		{"all conjuncts", []api.Pred{same[0], eq(col(0, 1), col(1, 1))}, rows(ints(5, 6)),
			tuples(rows(nil, ints(5, 7)), rows(nil, ints(4, 6)), rows(nil, ints(5, 6)), rows(nil, ints(5))),
			tuples(rows(ints(5, 6), ints(5, 6)))},
		{"true", []api.Pred{truthTrue}, five, tuples(rows(nil, ints(1))), tuples(rows(ints(5), ints(1)))},
		{"unknown", []api.Pred{truthUnknown}, five, tuples(rows(nil, ints(1))), nil},
		{"false", []api.Pred{truthFalse}, five, tuples(rows(nil, ints(1))), nil},
		{"true and unknown", []api.Pred{truthTrue, truthUnknown}, five, tuples(rows(nil, ints(1))), nil},
		{"false last", []api.Pred{truthTrue, truthFalse}, five, tuples(rows(nil, ints(1))), nil},
		{"a predicate that may not be", []api.Pred{{Kind: 9}}, five, tuples(rows(nil, ints(1))), nil},
		{"what has no row is null", []api.Pred{isNull(col(2, 0))}, five,
			tuples(rows(nil, ints(1)), rows(nil, nil, ints(1)), rows(nil, nil, api.Row{null})),
			tuples(rows(ints(5), ints(1)), rows(ints(5), nil, api.Row{null}))},
		{"l goes first", []api.Pred{eq(col(0, 0), api.Term{Kind: api.TermValue, Value: api.Value{N: 5}})}, five,
			tuples(rows(ints(4), ints(1)), rows(ints(5, 6))), tuples(rows(ints(5), ints(1)), five)},
		{"l goes first, whatever r says", []api.Pred{eq(col(0, 0), api.Term{Kind: api.TermValue, Value: api.Value{N: 4}})}, five,
			tuples(rows(ints(4), ints(1))), nil},
		{"where l has an empty row r's stands", []api.Pred{eq(col(0, 0), col(1, 0))}, rows(api.Row{}, ints(4)),
			tuples(rows(ints(4)), rows(ints(5))), tuples(rows(ints(4), ints(4)))},
		{"no l", same, nil, tuples(rows(ints(5), ints(5)), rows(ints(5), ints(6))), tuples(rows(ints(5), ints(5)))},
		{"as long as the longer one of each", nil, five,
			tuples(rows(nil, nil, nil), rows(), rows(nil, ints(1))), tuples(rows(ints(5), nil, nil), five, rows(ints(5), ints(1)))},
		{"rows of one tuple are not the next one's", []api.Pred{or(isNull(col(2, 0)), eq(col(1, 0), col(2, 0)))}, five,
			tuples(rows(nil, ints(1), ints(1)), rows(nil, ints(2)), rows(nil, ints(1), ints(2)), rows(), rows(nil, ints(3), nil)),
			tuples(rows(ints(5), ints(1), ints(1)), rows(ints(5), ints(2)), five, rows(ints(5), ints(3), nil))},
		{"rows of one tuple match nothing of the next one", []api.Pred{eq(col(0, 0), col(2, 0))}, five,
			tuples(rows(nil, ints(1), ints(5)), rows(nil, ints(1)), rows(nil, ints(1), nil), rows(nil, ints(1), api.Row{})),
			tuples(rows(ints(5), ints(1), ints(5)))},
	} {
		if got := match.Matches(c.conj, c.l, c.r); !sample.SameLists(got, c.want) {
			t.Errorf("%s: %v", c.name, got)
		}
	}
}

func TestMatchesOfTuplesOfAllSorts(t *testing.T) {
	d := &dice{2}
	some, none := 0, 0
	for range 6000 {
		conj, l, r := d.conj(), d.tuple(5), d.list(6)
		got := match.Matches(conj, l, r)
		if !sample.SameLists(got, slowMatches(conj, l, r)) {
			t.Errorf("Matches(%v, %v, %v) is %v", conj, l, r, got)
		}
		some, none = some+len(got), none+len(r)-len(got)
	}
	if some < 1000 || none < 1000 {
		t.Errorf("%d match, %d do not", some, none)
	}
}

// A column names a table at any place where there is a row.
func TestMatchesBeyondTables(t *testing.T) {
	l, far := make([]api.Row, 65), make([]api.Row, 101)
	l[64], far[100] = ints(5), ints(5)
	conj := []api.Pred{eq(col(64, 0), col(100, 0)), isNull(col(math.MaxInt, 0)), isNull(col(math.MinInt, math.MaxInt))}
	if got := match.Matches(conj, l, tuples(far, l, nil)); !sample.SameLists(got, tuples(slowMerge(l, far))) {
		t.Error(got)
	}
}

// P13.2: Extend

func TestExtend(t *testing.T) {
	conj := []api.Pred{eq(col(0, 0), col(1, 0))}
	l := rows(ints(5), nil, ints(8))
	twice := tuples(rows(nil, ints(5, 1)), rows(nil, api.Row{null}), rows(nil, ints(5, 2), ints(9)), rows(nil, ints(6)))
	both := tuples(rows(ints(5), ints(5, 1), ints(8)), rows(ints(5), ints(5, 2), ints(8)))
	for _, c := range []struct {
		kind int
		r    [][]api.Row
		want [][]api.Row
	}{
		{api.Inner, twice, both},
		{api.Left, twice, both},
		{api.Semi, twice, tuples(l)},
		{api.Anti, twice, nil},
		{api.Leaf, twice, nil},
		{5, twice, nil},
		{api.Inner, twice[1:2], nil},
		{api.Left, twice[1:2], tuples(l)},
		{api.Semi, twice[1:2], nil},
		{api.Anti, twice[1:2], tuples(l)},
		{api.Leaf, twice[1:2], nil},
		{5, twice[1:2], nil},
		{api.Inner, twice[3:], nil},
		{api.Left, twice[3:], tuples(l)},
		{api.Semi, twice[3:], nil},
		{api.Anti, twice[3:], tuples(l)},
		{api.Inner, nil, nil},
		{api.Left, nil, tuples(l)},
		{api.Semi, nil, nil},
		{api.Anti, nil, tuples(l)},
		{api.Leaf, nil, nil},
		{-1, nil, nil},
	} {
		if got := match.Extend(c.kind, conj, l, c.r); !sample.SameLists(got, c.want) {
			t.Errorf("kind %d of %v: %v", c.kind, c.r, got)
		}
	}
}

// Example 1: of a Left without a match the tuple alone; Flat tells null of the tables that have no row.
func TestExample(t *testing.T) {
	got := match.Extend(api.Left, []api.Pred{eq(col(0, 0), col(1, 0))}, rows(ints(5)), tuples(rows(nil, ints(6))))
	if !sample.SameLists(got, tuples(rows(ints(5)))) {
		t.Fatal(got)
	}
	if flat := match.Flat(got[0], 3, []int{1, 2}); !slices.Equal(flat, api.Row{{N: 5}, null, null}) {
		t.Error(flat)
	}
}

// The tuple alone is as long as it came, whatever stands in r; no rows at all are a tuple, too.
func TestExtendAlone(t *testing.T) {
	long := tuples(rows(nil, nil, nil, ints(1)))
	for _, l := range tuples(nil, rows(), rows(nil), rows(api.Row{}, nil), rows(ints(1, 2, 3, 4, 5)), rows(nil, api.Row{wrong[0]}, nil)) {
		for _, c := range []struct {
			kind  int
			truth api.Pred
			want  [][]api.Row
		}{
			{api.Left, truthFalse, tuples(l)},
			{api.Left, truthUnknown, tuples(l)},
			{api.Semi, truthTrue, tuples(l)},
			{api.Semi, truthUnknown, nil},
			{api.Anti, truthFalse, tuples(l)},
			{api.Anti, truthUnknown, tuples(l)},
			{api.Anti, truthTrue, nil},
		} {
			if got := match.Extend(c.kind, []api.Pred{c.truth}, l, long); !sample.SameLists(got, c.want) {
				t.Errorf("kind %d of %v, %v: %v", c.kind, l, c.truth, got)
			}
		}
	}
}

// A match behind others that are none counts as one ahead of them.
func TestExtendByOneOfMany(t *testing.T) {
	conj := []api.Pred{eq(col(0, 0), col(1, 0))}
	l := rows(ints(0))
	for at := range 9 {
		var r [][]api.Row
		for i := range 9 {
			r = append(r, rows(nil, ints(int64(i-at))))
		}
		one := tuples(rows(ints(0), ints(0)))
		for kind, want := range map[int][][]api.Row{api.Inner: one, api.Left: one, api.Semi: tuples(l), api.Anti: nil} {
			if got := match.Extend(kind, conj, l, r); !sample.SameLists(got, want) {
				t.Errorf("kind %d, a match at %d: %v", kind, at, got)
			}
		}
	}
}

// P13.3: kinds

// What is made of a tuple is told by slowOf from its Matches alone.
func TestKinds(t *testing.T) {
	d := &dice{3}
	some, none := 0, 0
	for range 3000 {
		conj, l, r := d.conj(), d.tuple(5), d.list(4)
		found := match.Matches(conj, l, r)
		if len(found) > 0 {
			some++
		} else {
			none++
		}
		for _, kind := range kinds {
			if got := match.Extend(kind, conj, l, r); !sample.SameLists(got, slowOf(kind, l, found)) {
				t.Errorf("Extend(%d, %v, %v, %v) is %v", kind, conj, l, r, got)
			}
		}
	}
	if some < 500 || none < 500 {
		t.Errorf("%d have a match, %d have none", some, none)
	}
}

// Other predicates, and other tuples of which the same ones match, make the same.
func TestKindsOfOthersWithTheSameMatches(t *testing.T) {
	l := rows(ints(5))
	whole := tuples(rows(nil, ints(4)), rows(nil, ints(5)), rows(nil, ints(6)), rows(nil, ints(5)))
	for _, kind := range kinds {
		some := match.Extend(kind, []api.Pred{eq(col(0, 0), col(1, 0))}, l, whole)
		none := match.Extend(kind, []api.Pred{eq(col(0, 0), col(1, 1))}, l, whole)
		for _, c := range []struct {
			conj []api.Pred
			r    [][]api.Row
			want [][]api.Row
		}{
			{nil, tuples(whole[1], whole[3]), some},
			{[]api.Pred{truthTrue, not(cmp(api.Ne, col(1, 0), col(0, 0)))}, whole[1:], some},
			{[]api.Pred{not(isNull(col(1, 0))), truthTrue}, tuples(whole[1], nil, whole[3]), some},
			{nil, nil, none},
			{[]api.Pred{truthUnknown}, whole, none},
			{[]api.Pred{truthFalse}, nil, none},
		} {
			if got := match.Extend(kind, c.conj, l, c.r); !sample.SameLists(got, c.want) {
				t.Errorf("kind %d of %v, %v: %v", kind, c.conj, c.r, got)
			}
		}
	}
}

// P13.2: Flat

func TestFlat(t *testing.T) {
	three := rows(ints(1, 2), nil, ints(3))
	for _, c := range []struct {
		t    []api.Row
		seen uint64
		cols []int
		want api.Row
	}{
		{nil, 0, nil, nil},
		{three, 0, []int{2, 1, 1}, nil},
		{three, 7, nil, nil},
		{three, 7, []int{2, 1, 1}, api.Row{{N: 1}, {N: 2}, null, {N: 3}}},
		{three, 5, []int{2, 1, 1}, ints(1, 2, 3)},
		{three, 4, []int{2, 1, 1}, ints(3)},
		{three, 3, []int{2, 1, 1}, api.Row{{N: 1}, {N: 2}, null}},
		{three, 2, []int{2, 3, 1}, api.Row{null, null, null}},
		{three, 6, []int{2, 0, 1}, ints(3)},
		{three, math.MaxUint64, []int{2, 1, 1}, api.Row{{N: 1}, {N: 2}, null, {N: 3}}},
		{three, 7, []int{2, 1}, api.Row{{N: 1}, {N: 2}, null}},
		{three, 7, []int{2}, ints(1, 2)},
		{three, 6, []int{2}, nil},
		{three, 1 << 63, []int{2, 1, 1}, nil},
		{three, 15, []int{2, 1, 1, 2}, api.Row{{N: 1}, {N: 2}, null, {N: 3}, null, null}},
		{three, 7, []int{1, 1, 1}, api.Row{{N: 1}, null, {N: 3}}},
		{three, 7, []int{4, 0, 3}, api.Row{{N: 1}, {N: 2}, null, null, {N: 3}, null, null}},
		{three, 7, []int{0, 0, 0}, nil},
		{three, 7, []int{-1, -2, 1}, ints(3)},
		{three, 7, []int{-1, 1, 1}, api.Row{null, {N: 3}}},
		{three, 7, []int{2, math.MinInt, 1}, ints(1, 2, 3)},
		{three, 7, []int{math.MinInt, math.MinInt, math.MinInt}, nil},
		{nil, 3, []int{1, 2}, api.Row{null, null, null}},
		{rows(api.Row{}, api.Row{}), 3, []int{1, 2}, api.Row{null, null, null}},
		{rows(ints(1, 2, 3, 4, 5, 6, 7)), 1, []int{4}, ints(1, 2, 3, 4)},
		{rows(ints(1, 2, 3, 4, 5, 6, 7)), 1, []int{9}, append(ints(1, 2, 3, 4, 5, 6, 7), null, null)},
		{rows(api.Row{null, wrong[0], {N: 1}}, api.Row{wrong[1]}), 3, []int{4, 1}, api.Row{null, wrong[0], {N: 1}, null, wrong[1]}},
		{rows(nil, ints(9)), 1, []int{1, 1}, api.Row{null}},
	} {
		if got := match.Flat(c.t, c.seen, c.cols); !slices.Equal(got, c.want) {
			t.Errorf("Flat(%v, %d, %v) is %v", c.t, c.seen, c.cols, got)
		}
	}
}

// The table 63 is the last one that may be seen, however many rows and numbers there are.
func TestFlatAtTheLastTable(t *testing.T) {
	var all []api.Row
	var cols []int
	for i := range 70 {
		all, cols = append(all, ints(int64(i), int64(i)+100)), append(cols, 1)
	}
	for _, seen := range []uint64{math.MaxUint64, 1 << 63, 3 << 62, 1, 1<<63 | 1, 0} {
		for _, rows := range []int{0, 1, 62, 63, 64, 65, 70} {
			for _, n := range []int{0, 1, 62, 63, 64, 65, 70} {
				if got := match.Flat(all[:rows], seen, cols[:n]); !slices.Equal(got, slowFlat(all[:rows], seen, cols[:n])) {
					t.Errorf("Flat of %d rows, %d, %d numbers is %v", rows, seen, n, got)
				}
			}
		}
	}
	if got := match.Flat(all, math.MaxUint64, cols); len(got) != 64 || got[0].N != 0 || got[63].N != 63 {
		t.Error(got)
	}
}

func TestFlatOfTuplesOfAllSorts(t *testing.T) {
	d := &dice{4}
	for range 6000 {
		var cols []int
		for range d.below(7) {
			cols = append(cols, d.below(7)-2)
		}
		rows, seen := d.tuple(6), uint64(d.below(256))
		if got := match.Flat(rows, seen, cols); !slices.Equal(got, slowFlat(rows, seen, cols)) {
			t.Errorf("Flat(%v, %d, %v) is %v", rows, seen, cols, got)
		}
	}
}

// More values than there is room for are none; of tables that are not seen any number may stand.
func TestFlatOfGreatNumbers(t *testing.T) {
	for _, cols := range [][]int{
		{math.MaxInt},
		{math.MaxInt, math.MaxInt},
		{math.MaxInt, 1},
		{1, math.MaxInt},
		{math.MaxInt, math.MinInt},
		{1 << 62, 1 << 62},
		{1 << 62, 1 << 62, 1 << 62, 1 << 62},
		{1 << 61, 1 << 60},
		{-1, math.MaxInt - 1},
		{1 << 40},
	} {
		if got := match.Flat(rows(ints(1)), 15, cols); len(got) != 0 {
			t.Errorf("Flat of %v has %d values", cols, len(got))
		}
	}
	if got := match.Flat(rows(ints(1), ints(2), ints(3)), 2, []int{math.MaxInt, 1, math.MaxInt}); !slices.Equal(got, ints(2)) {
		t.Error(got)
	}
	if got := match.Flat(rows(ints(1), ints(2)), 3, []int{1 << 20, 1 << 20}); len(got) != 1<<21 || got[0].N != 1 || got[1] != null || got[1<<20].N != 2 || got[1<<21-1] != null {
		t.Errorf("%d values", len(got))
	}
}
