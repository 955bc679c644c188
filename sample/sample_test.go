package sample_test

import (
	"slices"
	"testing"

	"watersmeet/api"
	"watersmeet/check"
	"watersmeet/sample"
	"watersmeet/tree"
)

// Queries are right, data conforms to them, and all that may come does.
func TestQueriesAndData(t *testing.T) {
	dice := sample.New(1)
	kinds, sizes, hashes, bare, most := map[int]int{}, map[int]int{}, map[bool]int{}, 0, 0
	for range 2000 {
		q := dice.Query(5)
		d := dice.Data(q.Cols, 4)
		if errno := check.Data(q, d); errno != api.OK {
			t.Fatalf("%v of %v: %v", q, d, errno)
		}
		for part := range tree.Walk(q.Root) {
			kinds[part.Kind]++
			hashes[part.Hash]++
		}
		sizes[tree.Size(q.Root)]++
		bare += len(q.Cols) - (tree.Size(q.Root)+1)/2
		for _, rows := range d {
			most = max(most, len(rows))
		}
	}
	if len(kinds) != 5 || len(sizes) != 5 || len(hashes) != 2 || bare == 0 || most != 4 {
		t.Error(kinds, sizes, hashes, bare, most)
	}
}

// The same seed tells the same, another one something else.
func TestNew(t *testing.T) {
	a, b, c := sample.New(1).Shuffled(60), sample.New(1).Shuffled(60), sample.New(2).Shuffled(60)
	if !slices.Equal(a, b) || slices.Equal(a, c) {
		t.Error(a, b, c)
	}
	slices.Sort(a)
	if slices.Sort(c); !slices.Equal(a, c) || a[0] != 0 || a[59] != 59 {
		t.Error(a, c)
	}
}

func TestTexts(t *testing.T) {
	one, two := api.Row{{N: 1}, {Null: true}}, api.Row{{N: -3}}
	if got := sample.Rows("1,∅ - -3"); !sample.SameRows(got, []api.Row{one, nil, two}) {
		t.Error(got)
	}
	if got := sample.Lists("1,∅; ; - -3"); !sample.SameLists(got, [][]api.Row{{one}, nil, {nil, two}}) {
		t.Error(got)
	}
	if got := sample.Lists(""); len(got) != 0 {
		t.Error(got)
	}
}

// Trees of any sort: right ones and others.
func TestWild(t *testing.T) {
	dice := sample.New(4)
	kinds, kids, sizes := map[int]bool{}, map[int]bool{}, map[int]bool{}
	for range 2000 {
		x := dice.Wild(3)
		sizes[tree.Size(x)] = true
		for part := range tree.Walk(x) {
			kinds[part.Kind] = true
			kids[len(part.Kids)] = true
		}
	}
	if len(kinds) < 20 || len(kids) != 4 || len(sizes) < 15 {
		t.Error(kinds, kids, sizes)
	}
	if x := sample.Deep(api.Semi, 2, 1, api.Pred{Truth: 5}); tree.Size(x) != 5 || x.Kids[0].Table != 0 || x.Kids[1].Kids[1].Table != 1 || x.Kids[1].Conj[0].Truth != 5 {
		t.Error(x)
	}
	if wide := sample.Wide(); !slices.IsSorted(wide) || len(slices.Compact(wide)) != len(sample.Wide()) {
		t.Error(wide)
	}
}

// What makes other bags, or is not right, is told.
func TestBags(t *testing.T) {
	dice := sample.New(5)
	q := api.Query{Cols: []int{1, 1}, Root: sample.Parse("(0⋈[=0.0,1.0]1)")}
	data, bags := dice.Bags(q, 20, 4)
	for text, right := range map[string]bool{
		"(0⋈[=0.0,1.0]1)":  true,
		"(1⋈#[=1.0,0.0]0)": true,
		"(0⟕[=0.0,1.0]1)":  false,
		"(0⋈[=0.0,1.1]1)":  false,
		"(0⋈[=0.0,1.0]2)":  false,
	} {
		if fault := sample.Fault(api.Query{Cols: q.Cols, Root: sample.Parse(text)}, data, bags); (fault == "") != right {
			t.Errorf("%s: %q", text, fault)
		}
	}
	if len(data) != 20 || len(bags) != 20 || len(slices.Concat(bags...)) == 0 {
		t.Error(data, bags)
	}
}

// A text that is none is not passed over.
func TestParse(t *testing.T) {
	defer func() {
		if recover() == nil {
			t.Error("a text that is none is a tree")
		}
	}()
	if x := sample.Parse("(0⟕[=0.0,1.0]1)"); x.Kind != api.Left || x.Kids[1].Table != 1 {
		t.Error(x)
	}
	sample.Parse("(0⟕1)")
}

// A tree with spare room is the same, and what stands in that room is seen when it is opened.
func TestRoomy(t *testing.T) {
	x := sample.Parse("((0⟕[∧(=0.0,1.0;⊤)]1)⋈[=0.0,2.0]2)")
	y := sample.Roomy(x)
	opened := sample.Opened(y)
	if !tree.Same(x, y) || len(opened.Kids) < 3 || len(opened.Conj) < 2 || len(opened.Kids[0].Conj[0].Parts) < 3 || len(opened.Kids[1].Kids) == 0 {
		t.Error(opened)
	}
}

// A tree is opened with what stands in its spare room, and spoilt there, too; what was opened stays.
func TestTrees(t *testing.T) {
	parts := []api.Pred{{Truth: 1}, {Truth: 2}}
	conj := []api.Pred{{Kind: api.PredAnd, Parts: parts[:1]}, {Truth: 3}}
	kids := []api.Tree{{Table: 5}, {Table: 6, Conj: conj[:1]}, {Table: 7}}
	x := api.Tree{Kind: api.Left, Kids: kids[:2], Conj: conj[:1]}
	var tables []int
	for _, part := range sample.Within(&x) {
		tables = append(tables, part.Table)
		part.Table++
	}
	if !slices.Equal(tables, []int{5, 6, 0}) || x.Table != 1 || kids[0].Table != 6 || kids[1].Table != 7 {
		t.Error(tables, x)
	}
	opened := sample.Opened(x)
	if len(opened.Kids) != 3 || opened.Kids[2].Table != 7 || len(opened.Conj) != 2 || len(opened.Kids[1].Conj[0].Parts) != 2 {
		t.Error(opened)
	}
	was := tree.Copy(opened)
	sample.Spoil(x)
	for _, kid := range kids {
		if kid.Table != 77 {
			t.Error(kids)
		}
	}
	if conj[0].Kind != 77 || conj[1].Kind != 77 || parts[0].Kind != 77 || parts[1].Kind != 77 || !tree.Same(opened, was) {
		t.Error(conj, parts, opened)
	}
}
