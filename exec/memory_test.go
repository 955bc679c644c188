package exec_test

import (
	"slices"
	"testing"

	"watersmeet/api"
	"watersmeet/exec"
	"watersmeet/sample"
	"watersmeet/tree"
)

// What is handed in is neither changed nor kept, and what is handed out is new memory.

// mark stands in no data of the tests.
var mark = api.Value{N: -999}

// sharing hands to each what is told of trees of all sorts, with their data; a list of rows is told as one tuple.
func sharing(each func(d api.Data, got [][]api.Row)) {
	dice := sample.New(5)
	for range 150 {
		q := dice.Query(6)
		d := dice.Data(q.Cols, 4)
		for q.Root = range tree.Walk(q.Root) {
			if got := exec.Tuples(q.Root, d); len(got) < 60 {
				rows, _ := exec.Run(q, d)
				each(d, got)
				each(d, [][]api.Row{rows})
			}
		}
	}
}

func TestMemoryOfRows(t *testing.T) {
	sharing(func(d api.Data, got [][]api.Row) {
		in, out := sample.Room(d), sample.Room(got)
		was, before := sample.Copy(in), sample.Copy(out)
		for i, row := range out {
			for j := range row {
				row[j] = mark
			}
			if !sample.SameRows(in, was) || !sample.SameRows(out[:i], before[:i]) || !sample.SameRows(out[i+1:], before[i+1:]) {
				t.Fatalf("the row %d of %v is shared", i, got)
			}
			copy(row, before[i])
		}
	})
}

func TestMemoryOfTuples(t *testing.T) {
	sharing(func(d api.Data, got [][]api.Row) {
		was, before := sample.Copy(sample.Room(d)), sample.Copies(got)
		for i, tuple := range got {
			tuple = tuple[:cap(tuple)]
			for j := range tuple {
				tuple[j] = api.Row{mark}
			}
			if !sample.SameLists(got[i+1:], before[i+1:]) || !sample.SameRows(sample.Room(d), was) {
				t.Fatalf("the tuple %d of %v is shared", i, got)
			}
		}
	})
}

// To write into what was told changes nothing of what is told again.
func TestMemoryOfLists(t *testing.T) {
	const text = "1 2; 2 3"
	d := api.Data(sample.Lists(text))
	for kind := range 5 {
		q := api.Query{Cols: []int{1, 1}, Root: api.Tree{Table: 1}}
		if kind != api.Leaf {
			q.Root = on(kind, api.Tree{}, q.Root)
		}
		tuples := exec.Tuples(q.Root, d)
		flat, _ := exec.Run(q, d)
		want, again := sample.Copies(tuples), sample.Copy(flat)
		tuples, flat = tuples[:cap(tuples)], flat[:cap(flat)]
		clear(tuples)
		clear(flat)
		if got := exec.Tuples(q.Root, d); !sample.SameLists(got, want) {
			t.Errorf("kind %d: %v, not %v", kind, got, want)
		}
		if got, _ := exec.Run(q, d); !sample.SameRows(got, again) {
			t.Errorf("kind %d: %v, not %v", kind, got, again)
		}
	}
	if !sample.SameLists(d, sample.Lists(text)) {
		t.Error(d)
	}
}

// Queries and data stay as they are, the spare room of all lists too.
func TestNothingIsChanged(t *testing.T) {
	dice := sample.New(6)
	for range 500 {
		q := dice.Query(6)
		cols := append(slices.Clone(q.Cols), 3)
		q.Cols = cols[:len(q.Cols)]
		spare := api.Tree{Kind: api.Anti, Table: 9}
		kids, conj := append(q.Root.Kids, spare), append(q.Root.Conj, api.Pred{Kind: 9})
		q.Root.Kids, q.Root.Conj = kids[:len(q.Root.Kids)], conj[:len(q.Root.Conj)]
		d := dice.Data(q.Cols, 6)
		all := api.Tree{Kids: kids, Conj: conj}
		root, cols2, rows := tree.Copy(all), slices.Clone(cols), sample.Copy(sample.Room(d))
		exec.Tuples(q.Root, d)
		exec.Run(q, d)
		if !slices.Equal(cols, cols2) || !tree.Same(all, root) || !sample.SameRows(sample.Room(d), rows) {
			t.Fatalf("%v of %v was %v %v of %v", q, d, cols2, root, rows)
		}
	}
}

// Nothing is kept from call to call: other rows and other conjuncts in the same lists are taken as they are.
func TestNothingIsKept(t *testing.T) {
	dice := sample.New(7)
	for range 500 {
		q := dice.Query(6)
		d := dice.Data(q.Cols, 6)
		exec.Tuples(q.Root, d)
		exec.Run(q, d)
		for _, row := range sample.Room(d) {
			for i := range row {
				row[i] = api.Value{N: int64(dice.Below(2))}
			}
		}
		if q.Root.Kind != api.Leaf {
			q.Root.Conj[0] = dice.Conjunct(q.Root.Kids[0], q.Root.Kids[1], q.Cols)
		}
		if got, want := exec.Tuples(q.Root, d), laid(q.Root, d); !sample.SameLists(got, want) {
			t.Fatalf("%v of %v: %v, not %v", q, d, got, want)
		}
		if got, errno := exec.Run(q, d); !sample.SameRows(got, slowRun(q, d)) || errno != api.OK {
			t.Fatalf("%v of %v: %v %v", q, d, got, errno)
		}
	}
}
