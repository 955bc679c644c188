package match_test

import (
	"slices"
	"testing"

	"watersmeet/api"
	"watersmeet/match"
	"watersmeet/sample"
)

// What is handed in is not changed, and what is handed out is new memory.

// mark stands in no tuple of the tests.
var mark = api.Value{N: -999}

// tried are calls that hand tuples out.
func tried(conj []api.Pred, l []api.Row, r [][]api.Row) map[string][][]api.Row {
	calls := map[string][][]api.Row{
		"matches": match.Matches(conj, l, r),
		"matched": match.Matches(nil, l, r),
		"merged":  {match.Merge(l, nil), match.Merge(nil, l), match.Merge(l, l)},
		"inner":   match.Extend(api.Inner, nil, l, r),
		"left":    match.Extend(api.Left, nil, l, r),
		"alone":   match.Extend(api.Left, []api.Pred{truthFalse}, l, r),
		"semi":    match.Extend(api.Semi, nil, l, r),
		"anti":    match.Extend(api.Anti, []api.Pred{truthFalse}, l, r),
	}
	for i, t := range r {
		calls["merged"] = append(calls["merged"], match.Merge(l, t), match.Merge(t, l), match.Merge(t, r[0]), match.Merge(r[i], r[i]))
	}
	return calls
}

// written writes into row, and tells whether all others are as they were.
func written(row api.Row, others func() bool) bool {
	was := slices.Clone(row)
	for i := range row {
		row[i] = mark
	}
	same := others()
	copy(row, was)
	return same
}

func TestMemoryOfRows(t *testing.T) {
	d := &dice{5}
	for range 60 {
		conj, l, r := d.conj(), d.tuple(5), d.list(4)
		in := append(sample.Room(r), sample.Room(tuples(l))...)
		was := sample.Copy(in)
		for name, got := range tried(conj, l, r) {
			if !sample.SameRows(in, was) {
				t.Fatalf("%s: what was handed in is changed", name)
			}
			out := sample.Room(got)
			told := sample.Copy(out)
			for i, row := range out {
				alone := written(row, func() bool {
					return sample.SameRows(in, was) && sample.SameRows(out[:i], told[:i]) && sample.SameRows(out[i+1:], told[i+1:])
				})
				if !alone {
					t.Fatalf("%s: the row %d of %v is shared", name, i, got)
				}
			}
		}
	}
}

// To write rows into a tuple changes no other one.
func TestMemoryOfTuples(t *testing.T) {
	d := &dice{6}
	for range 200 {
		conj, l, r := d.conj(), d.tuple(5), d.list(4)
		in := append(sample.Room(r), sample.Room(tuples(l))...)
		was := sample.Copy(in)
		for name, got := range tried(conj, l, r) {
			var told [][]api.Row
			for _, tuple := range got {
				told = append(told, sample.Copy(tuple))
			}
			for i, tuple := range got {
				tuple = tuple[:cap(tuple)]
				for j := range tuple {
					tuple[j] = api.Row{mark}
				}
				if !sample.SameLists(got[i+1:], told[i+1:]) || !sample.SameRows(append(sample.Room(r), sample.Room(tuples(l))...), was) {
					t.Fatalf("%s: the tuple %d of %v is shared", name, i, got)
				}
			}
		}
	}
}

// To write tuples into what was told changes neither r nor what is told again.
func TestMemoryOfLists(t *testing.T) {
	l, r := rows(ints(1)), tuples(rows(nil, ints(1)), rows(nil, ints(2)))
	for _, kind := range []int{api.Inner, api.Left, api.Semi} {
		got := match.Extend(kind, nil, l, r)
		again := match.Extend(kind, nil, l, r)
		for i := range got {
			got[i] = nil
		}
		if !sample.SameLists(r, tuples(rows(nil, ints(1)), rows(nil, ints(2)))) || !sample.SameLists(match.Extend(kind, nil, l, r), again) || len(again) == 0 || len(again[0]) == 0 {
			t.Errorf("kind %d: %v, %v", kind, r, again)
		}
	}
}

func TestMemoryOfFlat(t *testing.T) {
	d := &dice{7}
	for range 300 {
		l := d.tuple(5)
		cols := make([]int, 5, 8)
		for i := range cols {
			cols[i] = d.below(5) - 1
		}
		in, numbers := sample.Room(tuples(l)), slices.Clone(cols[:cap(cols)])
		was := sample.Copy(in)
		got, again := match.Flat(l, 31, cols), match.Flat(l, 31, cols)
		told := slices.Clone(again)
		alone := written(got[:cap(got)], func() bool { return sample.SameRows(in, was) && slices.Equal(again, told) })
		if !alone || !slices.Equal(cols[:cap(cols)], numbers) {
			t.Errorf("Flat(%v, 31, %v) shares what it tells", l, cols)
		}
	}
}

// A tuple that was handed in may be written into when the call has answered: nothing of it was kept.
func TestMemoryIsNotKept(t *testing.T) {
	l, r := rows(ints(1)), tuples(rows(nil, ints(1)), rows(nil, ints(2)))
	conj := []api.Pred{eq(col(0, 0), col(1, 0))}
	before := match.Matches(conj, l, r)
	l[0][0], r[1][1][0] = api.Value{N: 2}, api.Value{N: 3}
	if !sample.SameLists(before, tuples(rows(ints(1), ints(1)))) {
		t.Error(before)
	}
	if after := match.Matches(conj, l, r); len(after) != 0 {
		t.Error(after)
	}
	r[0][1][0] = api.Value{N: 2}
	if after := match.Matches(conj, l, r); !sample.SameLists(after, tuples(rows(ints(2), ints(2)))) {
		t.Error(after)
	}
}

// Great lists: as many tuples as a table may have rows on both sides, tuples and lists of 2^16 rows, predicates 2^16 deep.

func TestGreatLists(t *testing.T) {
	const n = 1 << 16
	long := make([]api.Row, n)
	long[0], long[n-1] = ints(1), ints(2)
	r := tuples(long)
	for i := range n {
		r = append(r, rows(nil, ints(int64(i))))
	}
	conj := []api.Pred{eq(col(0, 0), col(1, 0))}
	for kind, want := range map[int]int{api.Inner: 1, api.Left: 1, api.Semi: 1, api.Anti: 0} {
		if got := match.Extend(kind, conj, rows(ints(n-1)), r); len(got) != want {
			t.Errorf("kind %d: %d tuples", kind, len(got))
		}
	}
	if got := match.Matches([]api.Pred{eq(col(0, 0), col(1, 0)), eq(col(n-1, 0), api.Term{Kind: api.TermValue, Value: api.Value{N: 2}})}, rows(nil, ints(1)), r); len(got) != 1 || len(got[0]) != n {
		t.Errorf("%d tuples", len(got))
	}
	if got := match.Flat(long, 1, make([]int, n)); len(got) != 0 {
		t.Errorf("%d values", len(got))
	}
}

func TestDeepPredicates(t *testing.T) {
	p := eq(col(0, 0), col(1, 0))
	for range 1 << 16 {
		p = not(p)
	}
	if got := match.Matches([]api.Pred{p}, rows(ints(1)), tuples(rows(nil, ints(2)), rows(nil, ints(1)))); !sample.SameLists(got, tuples(rows(ints(1), ints(1)))) {
		t.Error(got)
	}
}

func TestEachWithEach(t *testing.T) {
	var l, r [][]api.Row
	for i := range api.MaxRows {
		l, r = append(l, rows(ints(int64(i)))), append(r, rows(nil, ints(int64(i/2*2))))
	}
	conj := []api.Pred{eq(col(0, 0), col(1, 0))}
	for kind, want := range map[int]int{api.Inner: api.MaxRows, api.Left: api.MaxRows * 3 / 2, api.Semi: api.MaxRows / 2, api.Anti: api.MaxRows / 2} {
		n := 0
		for _, tuple := range l {
			n += len(match.Extend(kind, conj, tuple, r))
		}
		if n != want {
			t.Errorf("kind %d: %d tuples", kind, n)
		}
	}
}
