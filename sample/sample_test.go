package sample_test

import (
	"slices"
	"testing"

	"watersmeet/api"
	"watersmeet/check"
	"watersmeet/sample"
	"watersmeet/tree"
)

// Queries are right, data conforms to them, and all that may come does.
func TestQueriesAndData(t *testing.T) {
	dice := sample.New(1)
	kinds, sizes, hashes, bare, most := map[int]int{}, map[int]int{}, map[bool]int{}, 0, 0
	for range 2000 {
		q := dice.Query(5)
		d := dice.Data(q.Cols, 4)
		if errno := check.Data(q, d); errno != api.OK {
			t.Fatalf("%v of %v: %v", q, d, errno)
		}
		for part := range tree.Walk(q.Root) {
			kinds[part.Kind]++
			hashes[part.Hash]++
		}
		sizes[tree.Size(q.Root)]++
		bare += len(q.Cols) - (tree.Size(q.Root)+1)/2
		for _, rows := range d {
			most = max(most, len(rows))
		}
	}
	if len(kinds) != 5 || len(sizes) != 5 || len(hashes) != 2 || bare == 0 || most != 4 {
		t.Error(kinds, sizes, hashes, bare, most)
	}
}

// The same seed tells the same, another one something else.
func TestNew(t *testing.T) {
	a, b, c := sample.New(1).Shuffled(60), sample.New(1).Shuffled(60), sample.New(2).Shuffled(60)
	if !slices.Equal(a, b) || slices.Equal(a, c) {
		t.Error(a, b, c)
	}
	slices.Sort(a)
	if slices.Sort(c); !slices.Equal(a, c) || a[0] != 0 || a[59] != 59 {
		t.Error(a, c)
	}
}

func TestTexts(t *testing.T) {
	one, two := api.Row{{N: 1}, {Null: true}}, api.Row{{N: -3}}
	if got := sample.Rows("1,∅ - -3"); !sample.SameRows(got, []api.Row{one, nil, two}) {
		t.Error(got)
	}
	if got := sample.Lists("1,∅; ; - -3"); !sample.SameLists(got, [][]api.Row{{one}, nil, {nil, two}}) {
		t.Error(got)
	}
	if got := sample.Lists(""); len(got) != 0 {
		t.Error(got)
	}
}

// A tree is opened with what stands in its spare room, and spoilt there, too; what was opened stays.
func TestTrees(t *testing.T) {
	parts := []api.Pred{{Truth: 1}, {Truth: 2}}
	conj := []api.Pred{{Kind: api.PredAnd, Parts: parts[:1]}, {Truth: 3}}
	kids := []api.Tree{{Table: 5}, {Table: 6, Conj: conj[:1]}, {Table: 7}}
	x := api.Tree{Kind: api.Left, Kids: kids[:2], Conj: conj[:1]}
	var tables []int
	for _, part := range sample.Within(&x) {
		tables = append(tables, part.Table)
		part.Table++
	}
	if !slices.Equal(tables, []int{5, 6, 0}) || x.Table != 1 || kids[0].Table != 6 || kids[1].Table != 7 {
		t.Error(tables, x)
	}
	opened := sample.Opened(x)
	if len(opened.Kids) != 3 || opened.Kids[2].Table != 7 || len(opened.Conj) != 2 || len(opened.Kids[1].Conj[0].Parts) != 2 {
		t.Error(opened)
	}
	was := tree.Copy(opened)
	sample.Spoil(x)
	for _, kid := range kids {
		if kid.Table != 77 {
			t.Error(kids)
		}
	}
	if conj[0].Kind != 77 || conj[1].Kind != 77 || parts[0].Kind != 77 || parts[1].Kind != 77 || !tree.Same(opened, was) {
		t.Error(conj, parts, opened)
	}
}
