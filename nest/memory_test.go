package nest_test

import (
	"slices"
	"testing"

	"watersmeet/api"
	"watersmeet/nest"
	"watersmeet/sample"
)

// What is handed in is neither changed nor kept, and what is handed out is new memory.

// mark stands in no tuple of the tests.
var mark = api.Value{N: -999}

// told are lists of tuples that calls hand out; those of one tour are put one behind the other, so that they are held against each other, too.
func told(conj []api.Pred, l, r [][]api.Row) [][][]api.Row {
	var found [][][]api.Row
	for kind := range 6 {
		for _, c := range [][]api.Pred{conj, nil, {truthFalse}} {
			found = append(found, nest.Join(kind, c, l, r), slices.Concat(all(kind, c, l, r)...))
		}
	}
	return found
}

func TestMemoryOfRows(t *testing.T) {
	d := &dice{4}
	for range 12 {
		conj, l, r := d.conj(), d.list(3), d.list(3)
		in := append(sample.Room(l), sample.Room(r)...)
		was := sample.Copy(in)
		for _, got := range told(conj, l, r) {
			out := sample.Room(got)
			before := sample.Copy(out)
			for i, row := range out {
				for j := range row {
					row[j] = mark
				}
				if !sample.SameRows(in, was) || !sample.SameRows(out[:i], before[:i]) || !sample.SameRows(out[i+1:], before[i+1:]) {
					t.Fatalf("the row %d of %v is shared", i, got)
				}
				copy(row, before[i])
			}
		}
	}
}

func TestMemoryOfTuples(t *testing.T) {
	d := &dice{5}
	for range 60 {
		conj, l, r := d.conj(), d.list(3), d.list(3)
		was := sample.Copy(append(sample.Room(l), sample.Room(r)...))
		for _, got := range told(conj, l, r) {
			before := sample.Copies(got)
			for i, tuple := range got {
				tuple = tuple[:cap(tuple)]
				for j := range tuple {
					tuple[j] = api.Row{mark}
				}
				if !sample.SameLists(got[i+1:], before[i+1:]) || !sample.SameRows(append(sample.Room(l), sample.Room(r)...), was) {
					t.Fatalf("the tuple %d of %v is shared", i, got)
				}
			}
		}
	}
}

// To write tuples into what was told changes neither what came in nor what is told again, by the same tour or by another one.
func TestMemoryOfLists(t *testing.T) {
	l, r := tuples(rows(ints(1)), rows(ints(3))), tuples(rows(nil, ints(1)), rows(nil, ints(2)))
	for kind := range 5 {
		want := sample.Copies(nest.Join(kind, same, l, r))
		tour := nest.Each(kind, same, l, r)
		for range 3 {
			var found [][]api.Row
			for made := range tour {
				found = append(found, sample.Copies(made)...)
				made = made[:cap(made)]
				for i, tuple := range made {
					for j := range tuple {
						for c := range tuple[j] {
							tuple[j][c] = mark
						}
						tuple[j] = nil
					}
					made[i] = rows(ints(9))
				}
			}
			if !sample.SameLists(found, want) {
				t.Errorf("kind %d: %v, not %v", kind, found, want)
			}
		}
		got := nest.Join(kind, same, l, r)
		for i := range got[:cap(got)] {
			got[:cap(got)][i] = nil
		}
		if !sample.SameLists(nest.Join(kind, same, l, r), want) {
			t.Errorf("kind %d: %v, %v", kind, l, r)
		}
	}
	if !sample.SameLists(l, tuples(rows(ints(1)), rows(ints(3)))) || !sample.SameLists(r, tuples(rows(nil, ints(1)), rows(nil, ints(2)))) {
		t.Error(l, r)
	}
}

// spoil writes into all that there is in what was handed in.
func spoil(conj []api.Pred, lists ...[][]api.Row) {
	for _, l := range lists {
		for i, tuple := range l {
			for j, row := range tuple {
				for c := range row {
					row[c] = mark
				}
				tuple[j] = ints(1)
			}
			l[i] = rows(ints(1), ints(1))
		}
	}
	for i := range conj {
		spoil(conj[i].Parts)
		conj[i] = truthTrue
	}
}

// A tour that begins, or goes on, when what was handed in is something else tells what was asked for.
func TestMemoryIsNotKept(t *testing.T) {
	d := &dice{6}
	for range 300 {
		seed, kind := d.word, d.below(5)
		conj, l, r := d.conj(), d.list(4), d.list(4)
		want := all(kind, conj, l, r)
		tour := nest.Each(kind, conj, l, r)
		spoil(conj, l, r)
		i := 0
		for made := range tour {
			if !sample.SameLists(made, want[i]) {
				t.Errorf("the list %d of a tour that began late, from %d: %v", i, seed, made)
			}
			i++
		}
		conj, l, r = d.conj(), d.list(4), d.list(4)
		want, i = all(kind, conj, l, r), 0
		for made := range nest.Each(kind, conj, l, r) {
			if !sample.SameLists(made, want[i]) {
				t.Errorf("the list %d of a tour that goes on, from %d: %v", i, seed, made)
			}
			i++
			spoil(conj, l, r)
		}
		if i != len(want) {
			t.Errorf("%d lists, not %d", i, len(want))
		}
	}
}

// A part of a part of a conjunct is not kept either.
func TestDeepPartsAreNotKept(t *testing.T) {
	p := not(not(same[0]))
	tour := nest.Each(api.Inner, []api.Pred{p}, tuples(rows(ints(1)), rows(ints(2))), tuples(rows(nil, ints(1))))
	p.Parts[0].Parts[0] = truthTrue
	n := 0
	for made := range tour {
		n += len(made)
	}
	if n != 1 {
		t.Errorf("%d tuples", n)
	}
}

// Predicates that are handed in stay as they are, their spare room too.
func TestMemoryOfPredicates(t *testing.T) {
	room := []api.Pred{same[0], truthTrue, truthUnknown}
	conj := []api.Pred{{Kind: api.PredAnd, Parts: room[:2]}, truthTrue, truthFalse}
	for kind := range 6 {
		nest.Join(kind, conj[:2], tuples(rows(ints(1))), tuples(rows(nil, ints(1))))
		all(kind, conj[:2], tuples(rows(ints(1))), tuples(rows(nil, ints(1))))
	}
	alike := func(a, b api.Pred) bool {
		return a.Kind == b.Kind && a.Truth == b.Truth && a.Op == b.Op && a.A == b.A && a.B == b.B && len(a.Parts) == len(b.Parts)
	}
	if !alike(room[0], same[0]) || !alike(room[1], truthTrue) || !alike(room[2], truthUnknown) ||
		conj[0].Kind != api.PredAnd || len(conj[0].Parts) != 2 || !alike(conj[1], truthTrue) || !alike(conj[2], truthFalse) {
		t.Error(room, conj)
	}
}

// Great lists: as many tuples as a table may have rows on both sides, lists and tuples of 2^16, predicates 2^16 deep.

func TestEachWithEach(t *testing.T) {
	var l, r [][]api.Row
	for i := range api.MaxRows {
		l, r = append(l, rows(ints(int64(i)))), append(r, rows(nil, ints(int64(i/2*2))))
	}
	for kind, want := range map[int]int{api.Inner: api.MaxRows, api.Left: api.MaxRows * 3 / 2, api.Semi: api.MaxRows / 2, api.Anti: api.MaxRows / 2} {
		if got := nest.Join(kind, same, l, r); len(got) != want {
			t.Errorf("kind %d: %d tuples", kind, len(got))
		}
	}
	if got := nest.Join(api.Inner, nil, l, r); len(got) != api.MaxRows*api.MaxRows || got[1001][0][0].N != 1 || got[1001][1][0].N != 0 || got[1003][1][0].N != 2 {
		t.Errorf("%d tuples", len(got))
	}
}

func TestGreatLists(t *testing.T) {
	const n = 1 << 16
	long := make([]api.Row, n)
	long[0], long[n-1] = ints(1), ints(2)
	many := tuples(long)
	for i := range n {
		many = append(many, rows(ints(int64(i))))
	}
	one := tuples(rows(nil, ints(1)))
	for kind, want := range map[int]int{api.Inner: 2, api.Left: n + 1, api.Semi: 2, api.Anti: n - 1, api.Leaf: 0} {
		if got := nest.Join(kind, same, many, one); len(got) != want {
			t.Errorf("kind %d: %d tuples", kind, len(got))
		}
	}
	if got := nest.Join(api.Left, same, one, many); len(got) != 2 || len(got[0]) != n || len(got[1]) != 2 {
		t.Errorf("%d tuples", len(got))
	}
	made := 0
	for range nest.Each(9, nil, many, many) {
		made++
	}
	if made != n+1 {
		t.Errorf("%d lists", made)
	}
}

func TestDeepPredicates(t *testing.T) {
	p := same[0]
	for range 1 << 16 {
		p = not(p)
	}
	want := tuples(rows(ints(1), ints(1)))
	if got := slices.Concat(all(api.Inner, []api.Pred{p}, tuples(rows(ints(1)), rows(ints(2))), tuples(rows(nil, ints(1))))...); !sample.SameLists(got, want) {
		t.Error(got)
	}
	if got := nest.Join(api.Inner, []api.Pred{p}, tuples(rows(ints(1)), rows(ints(2))), tuples(rows(nil, ints(1)))); !sample.SameLists(got, want) {
		t.Error(got)
	}
}
