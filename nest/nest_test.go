package nest_test

import (
	"math"
	"slices"
	"testing"

	"watersmeet/api"
	"watersmeet/match"
	"watersmeet/nest"
	"watersmeet/pred"
	"watersmeet/sample"
)

var null = api.Value{Null: true}

// wrong is a null that may not be.
var wrong = api.Value{Null: true, N: 1}

// kinds are kinds of operators and numbers that are none, some of which would be one if they were cut to fewer digits.
var kinds = []int{api.Leaf, api.Inner, api.Left, api.Semi, api.Anti, 5, 6, 9, -1, -2, -3, -4, math.MinInt, math.MinInt + 1, math.MaxInt, 257, 258, 259, 260, 1<<16 + 1, 1<<32 + 1, 1<<32 + 2, 1<<32 + 3, 1<<32 + 4, 1<<62 + 2}

var (
	truthTrue    = api.Pred{Kind: api.PredTruth, Truth: api.True}
	truthUnknown = api.Pred{Kind: api.PredTruth, Truth: api.Unknown}
	truthFalse   = api.Pred{Kind: api.PredTruth, Truth: api.False}
)

// ints tells the row of these numbers.
func ints(l ...int64) api.Row {
	var r api.Row
	for _, n := range l {
		r = append(r, api.Value{N: n})
	}
	return r
}

// rows tells a tuple.
func rows(l ...api.Row) []api.Row {
	return l
}

// tuples tells a list of tuples.
func tuples(l ...[]api.Row) [][]api.Row {
	return l
}

func col(table, c int) api.Term {
	return api.Term{Kind: api.TermCol, Table: table, Col: c}
}

func cmp(op int, a, b api.Term) api.Pred {
	return api.Pred{Kind: api.PredCmp, Op: op, A: a, B: b}
}

func not(p api.Pred) api.Pred {
	return api.Pred{Kind: api.PredNot, Parts: []api.Pred{p}}
}

// same is that the first columns of the tables 0 and 1 are.
var same = []api.Pred{cmp(api.Eq, col(0, 0), col(1, 0))}

// all tells what a tour tells, list by list.
func all(kind int, conj []api.Pred, l, r [][]api.Row) [][][]api.Row {
	var told [][][]api.Row
	for made := range nest.Each(kind, conj, l, r) {
		told = append(told, made)
	}
	return told
}

// slow tells what an operator of this kind makes of one tuple, without 13's calls but Merge.
func slow(kind int, conj []api.Pred, l []api.Row, r [][]api.Row) [][]api.Row {
	var found [][]api.Row
	for _, t := range r {
		if m := match.Merge(l, t); pred.All(conj, m) == api.True {
			found = append(found, m)
		}
	}
	any := len(found) > 0
	switch {
	case kind == 1, kind == 2 && any:
		return found
	case kind == 2, kind == 3 && any, kind == 4 && !any:
		return tuples(l)
	}
	return nil
}

// dice tells numbers without a pattern, the same ones each time.
type dice struct{ word uint64 }

func (d *dice) below(n int) int {
	d.word = d.word*6364136223846793005 + 1442695040888963407
	return int(d.word >> 33 % uint64(n))
}

// tuple tells a tuple of up to so many rows; some are empty, and it has spare room, which holds values, too.
func (d *dice) tuple(most int) []api.Row {
	values := []api.Value{{}, {N: 1}, {N: 2}, null, wrong}
	t := make([]api.Row, 0, most+2)
	for range d.below(most + 1) {
		row := api.Row{}
		for range 5 {
			row = append(row, values[d.below(len(values))])
		}
		t = append(t, row[:d.below(4)])
	}
	for i := range t {
		if len(t[i]) == 0 && d.below(2) == 0 {
			t[i] = nil
		}
	}
	spare := t[:cap(t)]
	for i := len(t); i < len(spare); i++ {
		spare[i] = ints(77, 78)
	}
	return t
}

// list tells up to so many tuples, with spare room that holds tuples, too.
func (d *dice) list(most int) [][]api.Row {
	l := make([][]api.Row, 0, most+1)
	for range d.below(most + 1) {
		l = append(l, d.tuple(4))
	}
	spare := l[:cap(l)]
	for i := len(l); i < len(spare); i++ {
		spare[i] = rows(ints(79))
	}
	return l
}

// pred tells a predicate of any sort, whether it may be or not.
func (d *dice) pred(room int) api.Pred {
	term := func() api.Term {
		if d.below(4) == 0 {
			return api.Term{Kind: api.TermValue, Value: api.Value{N: int64(d.below(3))}}
		}
		return col(d.below(6)-1, d.below(5)-1)
	}
	kinds := []int{api.PredCmp, api.PredCmp, api.PredNull, api.PredTruth, api.PredAnd, api.PredOr, api.PredNot, 0, 7}
	p := api.Pred{Kind: kinds[d.below(len(kinds))], Truth: d.below(4), Op: d.below(8), A: term(), B: term()}
	if room > 0 {
		for range d.below(3) {
			p.Parts = append(p.Parts, d.pred(room-1))
		}
	}
	return p
}

// conj tells up to two predicates.
func (d *dice) conj() []api.Pred {
	var l []api.Pred
	for range d.below(3) {
		l = append(l, d.pred(2))
	}
	return l
}

// P14.1: Join, Each

// Written out: what each tuple of l makes, list by list.
func TestEach(t *testing.T) {
	l := tuples(rows(ints(5)), rows(ints(6), nil), rows(api.Row{null}), rows(ints(5)), nil)
	r := tuples(rows(nil, ints(5, 1)), rows(nil, ints(7)), rows(nil, api.Row{null}), rows(nil, ints(5, 2), ints(9)))
	fives := tuples(rows(ints(5), ints(5, 1)), rows(ints(5), ints(5, 2), ints(9)))
	for _, c := range []struct {
		name string
		kind int
		conj []api.Pred
		l, r [][]api.Row
		want [][][]api.Row
	}{
		{"inner", api.Inner, same, l, r, [][][]api.Row{fives, nil, nil, fives, nil}},
		{"left", api.Left, same, l, r, [][][]api.Row{fives, tuples(l[1]), tuples(l[2]), fives, tuples(l[4])}},
		{"semi", api.Semi, same, l, r, [][][]api.Row{tuples(l[0]), nil, nil, tuples(l[3]), nil}},
		{"anti", api.Anti, same, l, r, [][][]api.Row{nil, tuples(l[1]), tuples(l[2]), nil, tuples(l[4])}},
		{"leaf", api.Leaf, same, l, r, [][][]api.Row{nil, nil, nil, nil, nil}},
		{"a kind that there is not", 5, same, l, r, [][][]api.Row{nil, nil, nil, nil, nil}},
		{"inner, nothing on the right", api.Inner, same, l[:2], nil, [][][]api.Row{nil, nil}},
		{"left, nothing on the right", api.Left, same, l[:2], nil, [][][]api.Row{tuples(l[0]), tuples(l[1])}},
		{"semi, nothing on the right", api.Semi, same, l[:2], nil, [][][]api.Row{nil, nil}},
		{"anti, nothing on the right", api.Anti, same, l[:2], nil, [][][]api.Row{tuples(l[0]), tuples(l[1])}},
		{"no conjuncts", api.Inner, nil, l[:2], r[:2], [][][]api.Row{
			tuples(rows(ints(5), ints(5, 1)), rows(ints(5), ints(7))),
			tuples(rows(ints(6), ints(5, 1)), rows(ints(6), ints(7)))}},
		{"unknown", api.Left, []api.Pred{truthUnknown}, l[:2], r, [][][]api.Row{tuples(l[0]), tuples(l[1])}},
		{"unknown", api.Anti, []api.Pred{truthTrue, truthUnknown}, l[:1], r, [][][]api.Row{tuples(l[0])}},
		{"false", api.Semi, []api.Pred{truthFalse}, l[:2], r, [][][]api.Row{nil, nil}},
		{"a predicate that may not be", api.Inner, []api.Pred{{Kind: 9}}, l[:1], r, [][][]api.Row{nil}},
		{"the same tuple on both sides", api.Inner, nil, l[:1], l[:2], [][][]api.Row{tuples(rows(ints(5)), rows(ints(5), nil))}},
		{"no tuples on the left", api.Inner, same, nil, r, nil},
	} {
		told := all(c.kind, c.conj, c.l, c.r)
		if !slices.EqualFunc(told, c.want, sample.SameLists) {
			t.Errorf("%s: Each tells %v", c.name, told)
		}
		if got := nest.Join(c.kind, c.conj, c.l, c.r); !sample.SameLists(got, slices.Concat(c.want...)) {
			t.Errorf("%s: Join is %v", c.name, got)
		}
	}
}

// Example 1: of no tuples on the left: nothing.
func TestExample(t *testing.T) {
	r := tuples(rows(nil, ints(1)), nil)
	for _, kind := range kinds {
		for _, conj := range [][]api.Pred{nil, same, {truthTrue}, {truthFalse}} {
			for _, l := range [][][]api.Row{nil, {}} {
				if got := nest.Join(kind, conj, l, r); len(got) != 0 {
					t.Errorf("kind %d: %v", kind, got)
				}
				if got := all(kind, conj, l, r); len(got) != 0 {
					t.Errorf("kind %d: %v", kind, got)
				}
			}
		}
	}
}

// What Each tells of tuples, predicates and kinds of all sorts is what 13 makes of each one, and what loops make of it; Join puts it one behind the other.
func TestJoinsOfAllSorts(t *testing.T) {
	d := &dice{1}
	some, none := 0, 0
	for range 1500 {
		conj, l, r := d.conj(), d.list(5), d.list(5)
		for _, kind := range kinds {
			told := all(kind, conj, l, r)
			var want [][]api.Row
			if len(told) != len(l) {
				t.Fatalf("kind %d of %d tuples tells %d lists", kind, len(l), len(told))
			}
			for i, made := range told {
				if !sample.SameLists(made, match.Extend(kind, conj, l[i], r)) || !sample.SameLists(made, slow(kind, conj, l[i], r)) {
					t.Errorf("Each(%d, %v, %v, %v) tells %v of the tuple %d", kind, conj, l, r, made, i)
				}
				if len(made) > 0 {
					some++
				} else {
					none++
				}
				want = append(want, made...)
			}
			if got := nest.Join(kind, conj, l, r); !sample.SameLists(got, want) {
				t.Errorf("Join(%d, %v, %v, %v) is %v", kind, conj, l, r, got)
			}
		}
	}
	if some < 5000 || none < 5000 {
		t.Errorf("%d make some, %d make none", some, none)
	}
}

// A tour may be left at each place, and ends there; it may be begun anew, and within itself.
func TestToursThatAreLeft(t *testing.T) {
	d := &dice{2}
	for range 200 {
		conj, l, r := d.conj(), d.list(5), d.list(4)
		for _, kind := range kinds[:6] {
			want := all(kind, conj, l, r)
			tour := nest.Each(kind, conj, l, r)
			for end := range len(want) {
				var told [][][]api.Row
				for made := range tour {
					told = append(told, made)
					if len(told) > end {
						break
					}
				}
				if !slices.EqualFunc(told, want[:end+1], sample.SameLists) {
					t.Errorf("left at %d: %v", end, told)
				}
			}
			n := 0
			for outer := range tour {
				if !sample.SameLists(outer, want[n]) {
					t.Errorf("the outer tour's list %d: %v", n, outer)
				}
				i := 0
				for inner := range tour {
					if !sample.SameLists(inner, want[i]) {
						t.Errorf("the inner tour's list %d: %v", i, inner)
					}
					i++
				}
				n++
			}
			if n != len(want) {
				t.Errorf("%d lists, not %d", n, len(want))
			}
		}
	}
}

// One that is left asks for nothing more, whatever is behind.
func TestALeftTourAsksNoMore(t *testing.T) {
	l := tuples(rows(ints(1)), rows(ints(2)), rows(ints(3)))
	for end := 1; end <= len(l); end++ {
		n := 0
		nest.Each(api.Left, nil, l, nil)(func([][]api.Row) bool {
			n++
			return n < end
		})
		if n != end {
			t.Errorf("asked %d times, not %d", n, end)
		}
	}
}

// P14.2: parts

func TestParts(t *testing.T) {
	d := &dice{3}
	for range 400 {
		conj, l, m, r := d.conj(), d.list(4), d.list(4), d.list(4)
		whole := slices.Concat(l, m)
		for _, kind := range kinds {
			want := slices.Concat(nest.Join(kind, conj, l, r), nest.Join(kind, conj, m, r))
			if got := nest.Join(kind, conj, whole, r); !sample.SameLists(got, want) {
				t.Errorf("Join(%d, %v, %v and %v, %v) is %v", kind, conj, l, m, r, got)
			}
			lists := slices.Concat(all(kind, conj, l, r), all(kind, conj, m, r))
			if got := all(kind, conj, whole, r); !slices.EqualFunc(got, lists, sample.SameLists) {
				t.Errorf("Each(%d, %v, %v and %v, %v) tells %v", kind, conj, l, m, r, got)
			}
		}
	}
}

// Each part of one list: the tuples that come twice make what they make twice.
func TestPartsOfOneList(t *testing.T) {
	l := tuples(rows(ints(1)), rows(ints(2)), rows(ints(1)), nil, rows(ints(3)))
	r := tuples(rows(nil, ints(1)), rows(nil, ints(3)), rows(nil, ints(1)))
	for kind, n := range map[int]int{api.Inner: 5, api.Left: 7, api.Semi: 3, api.Anti: 2, api.Leaf: 0} {
		whole := nest.Join(kind, same, l, r)
		if len(whole) != n {
			t.Errorf("kind %d: %v", kind, whole)
		}
		for at := range len(l) + 1 {
			if got := append(nest.Join(kind, same, l[:at], r), nest.Join(kind, same, l[at:], r)...); !sample.SameLists(got, whole) {
				t.Errorf("kind %d, parted at %d: %v", kind, at, got)
			}
		}
	}
}
