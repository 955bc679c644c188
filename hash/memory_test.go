package hash_test

import (
	"slices"
	"testing"

	"watersmeet/api"
	"watersmeet/hash"
	"watersmeet/sample"
)

// What is handed in is neither changed nor kept, and what is handed out is new memory.

// mark stands in no tuple of the tests.
var mark = api.Value{N: -999}

func TestMemoryOfRows(t *testing.T) {
	d := &dice{7}
	for range 40 {
		l, r := d.list(4, 62), d.list(4, 1)
		in := append(sample.Room(l), sample.Room(r)...)
		was := sample.Copy(in)
		for kind := range 6 {
			for _, conj := range [][]api.Pred{same, nil} {
				got := hash.Join(kind, conj, l, r, 1, 62)
				out := sample.Room(got)
				before := sample.Copy(out)
				for i, row := range out {
					for j := range row {
						row[j] = mark
					}
					if !sample.SameRows(in, was) || !sample.SameRows(out[:i], before[:i]) || !sample.SameRows(out[i+1:], before[i+1:]) {
						t.Fatalf("the row %d of %v is shared", i, got)
					}
					copy(row, before[i])
				}
			}
		}
	}
}

func TestMemoryOfTuples(t *testing.T) {
	d := &dice{8}
	for range 60 {
		l, r := d.list(4, 62), d.list(4, 1)
		was := sample.Copy(append(sample.Room(l), sample.Room(r)...))
		for kind := range 6 {
			for _, conj := range [][]api.Pred{same, nil} {
				got := hash.Join(kind, conj, l, r, 1, 62)
				before := sample.Copies(got)
				for i, tuple := range got {
					tuple = tuple[:cap(tuple)]
					for j := range tuple {
						tuple[j] = api.Row{mark}
					}
					if !sample.SameLists(got[i+1:], before[i+1:]) || !sample.SameRows(append(sample.Room(l), sample.Room(r)...), was) {
						t.Fatalf("the tuple %d of %v is shared", i, got)
					}
				}
			}
		}
	}
}

// To write tuples into what was told, the spare room of it too, changes neither what came in nor what is told again.
func TestMemoryOfLists(t *testing.T) {
	l, r := tuples(rows(ints(1)), rows(ints(3))), tuples(rows(nil, ints(1)), rows(nil, ints(2)))
	for kind := range 6 {
		got := hash.Join(kind, same, l, r, 1, 2)
		want := sample.Copies(got)
		got = got[:cap(got)]
		for i := range got {
			got[i] = rows(ints(9))
		}
		if got = hash.Join(kind, same, l, r, 1, 2); !sample.SameLists(got, want) {
			t.Errorf("kind %d: %v, not %v", kind, got, want)
		}
	}
	if !sample.SameLists(l, tuples(rows(ints(1)), rows(ints(3)))) || !sample.SameLists(r, tuples(rows(nil, ints(1)), rows(nil, ints(2)))) {
		t.Error(l, r)
	}
}

// Nothing is kept from call to call: other tuples with the same keys are told as they are.
func TestNothingIsKept(t *testing.T) {
	d := &dice{9}
	for range 300 {
		conj := d.conj()
		left, right := d.sides()
		l, r := d.list(4, right), d.list(4, left)
		for kind := range 6 {
			agree(t, kind, conj, l, r, left, right)
		}
		for _, row := range slices.Concat(sample.Room(l), sample.Room(r)) {
			for i := range row {
				row[i] = api.Value{N: int64(d.below(2))}
			}
		}
		for kind := range 6 {
			agree(t, kind, conj, l, r, left, right)
			agree(t, kind, conj, r, l, right, left)
		}
	}
}

// Predicates and terms that are handed in stay as they are, their spare room too, and what Keys tells is its own.
func TestMemoryOfKeys(t *testing.T) {
	room := []api.Pred{eq(col(1, 0), col(0, 0)), eq(col(0, 1), col(1, 1)), {Kind: api.PredNull}}
	was := slices.Clone(room)
	terms := []api.Term{col(0, 0), col(0, 1), col(0, 2)}
	stays := func() bool {
		return slices.EqualFunc(room, was, func(a, b api.Pred) bool {
			return a.Kind == b.Kind && a.Truth == b.Truth && a.Op == b.Op && a.A == b.A && a.B == b.B && len(a.Parts) == len(b.Parts)
		}) && slices.Equal(terms, []api.Term{col(0, 0), col(0, 1), col(0, 2)})
	}
	keys := hash.Keys(room[:2], 1, 2)
	want := slices.Clone(keys)
	for kind := range 6 {
		hash.Join(kind, room[:2], tuples(rows(ints(1, 2))), tuples(rows(nil, ints(1, 2))), 1, 2)
	}
	hash.Key(terms[:2], rows(ints(1, 2, 3)))
	if !stays() || !slices.Equal(keys, want) {
		t.Error(room, terms, keys)
	}
	keys = keys[:cap(keys)]
	for i := range keys {
		keys[i] = [2]api.Term{}
	}
	if !stays() || !slices.Equal(hash.Keys(room[:2], 1, 2), want) {
		t.Error(room, terms)
	}
}

// Great lists: tuples, terms and predicates of 2^16, each tuple held against those that have its key alone.

func TestGreatLists(t *testing.T) {
	const n = 1 << 16
	var l, r [][]api.Row
	for i := range n {
		l, r = append(l, rows(ints(int64(i)))), append(r, rows(nil, ints(int64((n-i)/2*2))))
	}
	for kind, want := range map[int]int{api.Inner: n - 1, api.Left: n + n/2 - 1, api.Semi: n / 2, api.Anti: n / 2, api.Leaf: 0} {
		got := hash.Join(kind, same, l, r, 1, 2)
		if len(got) != want {
			t.Errorf("kind %d: %d tuples", kind, len(got))
		}
		if !slices.IsSortedFunc(got, func(a, b []api.Row) int { return int(a[0][0].N - b[0][0].N) }) {
			t.Errorf("kind %d: not in order", kind)
		}
	}
}

// Of great lists with one key alone a join that asks whether there are any goes no further than the first.
func TestGreatListsOfOneKey(t *testing.T) {
	const n = 1 << 16
	l, r := slices.Repeat(tuples(rows(ints(1))), n), slices.Repeat(tuples(rows(nil, ints(1))), n)
	for kind, want := range map[int]int{api.Semi: n, api.Anti: 0} {
		if got := hash.Join(kind, same, l, r, 1, 2); len(got) != want {
			t.Errorf("kind %d: %d tuples", kind, len(got))
		}
	}
}

// Great lists of nulls are held against nothing, be there nulls or numbers on the other side.
func TestGreatListsOfNulls(t *testing.T) {
	const n = 1 << 16
	for _, a := range []api.Value{null, wrong, {}} {
		for _, b := range []api.Value{null, wrong, {}} {
			if !a.Null && !b.Null {
				continue
			}
			l, r := slices.Repeat(tuples(rows(api.Row{a})), n), slices.Repeat(tuples(rows(nil, api.Row{b})), n)
			for kind, want := range map[int]int{api.Inner: 0, api.Left: n, api.Semi: 0, api.Anti: n} {
				if got := hash.Join(kind, same, l, r, 1, 2); len(got) != want {
					t.Errorf("kind %d of %v and %v: %d tuples", kind, a, b, len(got))
				}
			}
		}
	}
}

func TestGreatKeys(t *testing.T) {
	const n = 1 << 16
	conj := slices.Repeat([]api.Pred{eq(col(1, 0), col(0, 0)), not(same[0])}, n)
	if got := hash.Keys(conj, 1, 2); len(got) != n || got[n-1] != [2]api.Term{col(0, 0), col(1, 0)} {
		t.Errorf("%d keys", len(got))
	}
	terms := slices.Repeat([]api.Term{number(-1)}, n)
	if got, ok := hash.Key(terms, nil); len(got) != 3*n || got[:6] != "-1,-1," || !ok {
		t.Errorf("%d bytes", len(got))
	}
	if got, ok := hash.Key(append(terms, col(0, 0)), nil); got != "" || ok {
		t.Errorf("%d bytes", len(got))
	}
	if got := hash.Join(api.Inner, slices.Repeat(same, n), tuples(rows(ints(1)), rows(ints(2))), tuples(rows(nil, ints(2))), 1, 2); len(got) != 1 {
		t.Errorf("%d tuples", len(got))
	}
}

func TestDeepPredicates(t *testing.T) {
	p := same[0]
	for range 1 << 16 {
		p = not(p)
	}
	conj := []api.Pred{p, same[0]}
	if got := hash.Keys(conj, 1, 2); len(got) != 1 {
		t.Error(got)
	}
	if got := hash.Join(api.Inner, conj, tuples(rows(ints(1)), rows(ints(2))), tuples(rows(nil, ints(1))), 1, 2); len(got) != 1 {
		t.Error(got)
	}
}
