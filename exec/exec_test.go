package exec_test

import (
	"math"
	"slices"
	"strconv"
	"testing"

	"watersmeet/api"
	"watersmeet/check"
	"watersmeet/exec"
	"watersmeet/hash"
	"watersmeet/match"
	"watersmeet/nest"
	"watersmeet/pred"
	"watersmeet/sample"
	"watersmeet/sets"
	"watersmeet/tree"
)

// wrong is a null that may not be.
var wrong = api.Value{Null: true, N: 1}

// strange are numbers that are no table of short data, some of which would be one if they were cut to fewer digits.
var strange = []int{-1, -2, -64, 7, 63, 64, 256, 1 << 16, 1 << 32, 1<<32 + 1, 1<<62 + 1, math.MinInt, math.MinInt + 1, math.MaxInt}

// on tells an operator on two leaves, or on other trees.
func on(kind int, a, b api.Tree) api.Tree {
	same := api.Pred{Kind: api.PredCmp, Op: api.Eq, A: api.Term{Kind: api.TermCol}, B: api.Term{Kind: api.TermCol, Table: 1}}
	return api.Tree{Kind: kind, Kids: []api.Tree{a, b}, Conj: []api.Pred{same}}
}

// hashing tells t with Hash in those operators, in the order of the tour, whose binary digits stand in word.
func hashing(t api.Tree, word uint64) api.Tree {
	t = tree.Copy(t)
	var mark func(*api.Tree)
	mark = func(part *api.Tree) {
		for i := range part.Kids {
			mark(&part.Kids[i])
		}
		if part.Kind != api.Leaf {
			part.Hash = word&1 == 1
			word >>= 1
		}
	}
	mark(&t)
	return t
}

// slow is a tuple as the rows of its tables, and how long it is.
type slow struct {
	rows map[int]api.Row
	long int
}

// tuple tells s as it is handed out.
func (s slow) tuple() []api.Row {
	t := make([]api.Row, s.long)
	for i, row := range s.rows {
		t[i] = row
	}
	return t
}

// with tells s with the rows of o, too.
func (s slow) with(o slow) slow {
	both := slow{map[int]api.Row{}, max(s.long, o.long)}
	for _, part := range []slow{o, s} {
		for i, row := range part.rows {
			both.rows[i] = row
		}
	}
	return both
}

// slowTuples is a twin of Tuples, which holds each two tuples against each other, whoever hashes.
func slowTuples(t api.Tree, d api.Data) []slow {
	var made []slow
	if t.Kind == api.Leaf {
		for _, row := range d[t.Table] {
			made = append(made, slow{map[int]api.Row{t.Table: row}, t.Table + 1})
		}
		return made
	}
	right := slowTuples(t.Kids[1], d)
	for _, l := range slowTuples(t.Kids[0], d) {
		var found []slow
		for _, r := range right {
			if both := l.with(r); pred.All(t.Conj, both.tuple()) == api.True {
				found = append(found, both)
			}
		}
		switch {
		case t.Kind == api.Inner, t.Kind == api.Left && len(found) > 0:
			made = append(made, found...)
		case t.Kind == api.Left, (t.Kind == api.Semi) == (len(found) > 0):
			made = append(made, l)
		}
	}
	return made
}

// laid tells the tuples of the twin.
func laid(t api.Tree, d api.Data) [][]api.Row {
	var all [][]api.Row
	for _, s := range slowTuples(t, d) {
		all = append(all, s.tuple())
	}
	return all
}

// slowRun is a twin of Run, of right queries and data that conforms.
func slowRun(q api.Query, d api.Data) []api.Row {
	var all []api.Row
	for _, s := range slowTuples(q.Root, d) {
		var flat api.Row
		for _, i := range sets.List(tree.Seen(q.Root)) {
			row, ok := s.rows[i]
			for c := range q.Cols[i] {
				v := api.Value{Null: true}
				if ok {
					v = row[c]
				}
				flat = append(flat, v)
			}
		}
		all = append(all, flat)
	}
	return all
}

// P16.1: Tuples

// Example 1: a leaf: its rows.
func TestExample(t *testing.T) {
	d := api.Data(sample.Lists("1,5 ∅,6 1,5"))
	if got := exec.Tuples(api.Tree{}, d); !sample.SameLists(got, sample.Lists("1,5; ∅,6; 1,5")) {
		t.Error(got)
	}
	if got, errno := exec.Run(api.Query{Cols: []int{2}}, d); !sample.SameRows(got, d[0]) || errno != api.OK {
		t.Error(got, errno)
	}
}

// Of each table a leaf has one tuple for each row, as long as the table and one more.
func TestTuplesOfLeaves(t *testing.T) {
	var d api.Data
	for i := range 64 {
		var table []api.Row
		for j := range i % 5 {
			table = append(table, sample.Rows(strconv.Itoa(i)+","+strconv.Itoa(9-j))...)
		}
		d = append(d, table)
	}
	for i := range 64 {
		got := exec.Tuples(api.Tree{Table: i}, d)
		var want [][]api.Row
		for _, row := range d[i] {
			tuple := make([]api.Row, i+1)
			tuple[i] = row
			want = append(want, tuple)
		}
		if !sample.SameLists(got, want) {
			t.Errorf("table %d: %v, not %v", i, got, want)
		}
	}
}

// Each kind, by hand, whoever hashes: which tuples come, in which order, and how long they are.
func TestTuplesOfOperators(t *testing.T) {
	d := api.Data(sample.Lists("1,5 2,6 ∅,7 1,8; ; 3 1 ∅ 2 1"))
	for text, want := range map[string]string{
		"(0⋈[=0.0,2.0]2)": "1,5 - 1; 1,5 - 1; 2,6 - 2; 1,8 - 1; 1,8 - 1",
		"(2⋈[=0.0,2.0]0)": "1,5 - 1; 1,8 - 1; 2,6 - 2; 1,5 - 1; 1,8 - 1",
		"(0⟕[=2.0,0.0]2)": "1,5 - 1; 1,5 - 1; 2,6 - 2; ∅,7; 1,8 - 1; 1,8 - 1",
		"(2⟕[=2.0,0.0]0)": "- - 3; 1,5 - 1; 1,8 - 1; - - ∅; 2,6 - 2; 1,5 - 1; 1,8 - 1",
		"(0⋉[=0.0,2.0]2)": "1,5; 2,6; 1,8",
		"(2⋉[=0.0,2.0]0)": "- - 1; - - 2; - - 1",
		"(0▷[=0.0,2.0]2)": "∅,7",
		"(2▷[=0.0,2.0]0)": "- - 3; - - ∅",
		// Nothing stands on the right.
		"(0⋈[=0.0,1.0]1)": "",
		"(0⟕[=0.0,1.0]1)": "1,5; 2,6; ∅,7; 1,8",
		"(0⋉[=0.0,1.0]1)": "",
		"(0▷[=0.0,1.0]1)": "1,5; 2,6; ∅,7; 1,8",
		// Nothing stands on the left.
		"(1⋈[=0.0,1.0]0)": "",
		"(1⟕[=0.0,1.0]0)": "",
		"(1⋉[=0.0,1.0]0)": "",
		"(1▷[=0.0,1.0]0)": "",
		// All conjuncts have to be true, and one that is no key finds nulls.
		"(0⋈[=0.0,2.0;>0.1,2.0;∧(=0.0,2.0;=0.1,'6)]2)": "2,6 - 2",
		"(0⋈[∧(∅0.0;∅2.0)]2)":                          "∅,7 - ∅",
	} {
		for word := range uint64(2) {
			if got := exec.Tuples(hashing(sample.Parse(text), word), d); !sample.SameLists(got, sample.Lists(want)) {
				t.Errorf("%s, %d: %v, not %s", text, word, got, want)
			}
		}
	}
}

// What stands within: an outer join's tuples without a row on the right meet what asks of that row.
func TestTuplesOfTrees(t *testing.T) {
	d := api.Data(sample.Lists("1 2; 2 2; 7 ∅"))
	for text, want := range map[string]string{
		"(0⟕[=0.0,1.0]1)":                              "1; 2 2; 2 2",
		"((0⟕[=0.0,1.0]1)⋈[∧(∅1.0;¬∅2.0)]2)":           "1 - 7",
		"(2⟕[∧(∅1.0;¬∅2.0)](0⟕[=0.0,1.0]1))":           "1 - 7; - - ∅",
		"((0⟕[=0.0,1.0]1)▷[∧(∅1.0;¬∅2.0)]2)":           "2 2; 2 2",
		"(2⟕[∨(∅2.0;=1.0,2.0)](1⋉[=0.0,1.0]0))":        "- - 7; - 2 ∅; - 2 ∅",
		"((0▷[=0.0,1.0]1)⋈[∨(=0.0,2.0;∅2.0)]2)":        "1 - ∅",
		"(1⋉[∨(=1.0,2.0;=0.0,'2)](0⋈[∨(∅2.0;∅0.0)]2))": "- 2; - 2",
	} {
		for word := range uint64(4) {
			if got := exec.Tuples(hashing(sample.Parse(text), word), d); !sample.SameLists(got, sample.Lists(want)) {
				t.Errorf("%s, %d: %v, not %s", text, word, got, want)
			}
		}
	}
}

// Trees of all sorts are held against the twin, and each operator in them against what nest and hash make of its Kids.
func TestTuplesOfMany(t *testing.T) {
	dice := sample.New(1)
	several := 0
	for range 4000 {
		q := dice.Query(6)
		d := dice.Data(q.Cols, 6)
		for part := range tree.Walk(q.Root) {
			got := exec.Tuples(part, d)
			if want := laid(part, d); !sample.SameLists(got, want) {
				t.Fatalf("%v of %v: %v, not %v", part, d, got, want)
			}
			if part.Kind == api.Leaf {
				continue
			}
			l, r := exec.Tuples(part.Kids[0], d), exec.Tuples(part.Kids[1], d)
			nested := nest.Join(part.Kind, part.Conj, l, r)
			hashed := hash.Join(part.Kind, part.Conj, l, r, tree.Seen(part.Kids[0]), tree.Seen(part.Kids[1]))
			if !sample.SameLists(got, nested) || !sample.SameLists(got, hashed) {
				t.Fatalf("%v of %v: %v, not %v, %v", part, d, got, nested, hashed)
			}
			if len(got) > 1 && tree.Size(part) > 3 {
				several++
			}
		}
	}
	if several < 500 {
		t.Errorf("%d operators alone make much of much", several)
	}
}

// Who hashes goes through those alone that have a tuple's key: of so many rows all others would take too long.
func TestHashIsUsed(t *testing.T) {
	const n = 1 << 17
	var d api.Data
	for i := range 3 {
		var table []api.Row
		for j := range n {
			table = append(table, api.Row{{N: int64(j * (i + 1))}, {N: int64(j)}})
		}
		d = append(d, table)
	}
	const third = n/3 + 1
	const sixth = n/6 + 1
	for text, want := range map[string]int{
		"(0⋈[=1.0,0.0]1)": n / 2,
		"(0⟕[=1.0,0.0]1)": n,
		"(0⋉[=1.0,0.0]1)": n / 2,
		"(0▷[=1.0,0.0]1)": n / 2,
		// A key of what is seen within, and of what is left of a semi join.
		"((1⟕[=0.0,1.0]0)⋈[=2.0,0.0]2)": sixth,
		"(1⋈[=0.0,1.0](2⟕[=0.0,2.0]0))": sixth,
		"((0⋉[=0.0,2.0]2)⋈[=0.1,1.0]1)": sixth,
		"(1▷[=0.1,1.0](0⋉[=0.0,2.0]2))": n - sixth,
		"((0⋉[=0.0,2.0]2)⟕[=0.0,1.0]1)": third,
	} {
		if got := exec.Tuples(hashing(sample.Parse(text), 3), d); len(got) != want {
			t.Errorf("%s: %d tuples, not %d", text, len(got), want)
		}
	}
}

// Of trees and data that may not be nothing is promised but an end.

func TestTuplesOfWrongLeaves(t *testing.T) {
	one := sample.Rows("1")
	for _, i := range strange {
		odd := api.Tree{Table: i}
		for _, d := range []api.Data{nil, {}, {one}, {one, one}} {
			if got := exec.Tuples(odd, d); len(got) != 0 {
				t.Errorf("%d of %v: %v", i, d, got)
			}
			for kind := api.Inner; kind <= api.Anti; kind++ {
				for word := range uint64(2) {
					exec.Tuples(hashing(on(kind, odd, api.Tree{}), word), d)
					exec.Tuples(hashing(on(kind, api.Tree{}, odd), word), d)
				}
			}
		}
	}
}

func TestTuplesOfWrongOperators(t *testing.T) {
	d := api.Data(sample.Lists("1 - 2; 1 1,2 -; 1"))
	d[0][2][0] = wrong
	kids := []api.Tree{{}, {Table: 1}, {Table: 2}}
	for _, kind := range []int{api.Inner, api.Left, api.Semi, api.Anti, 5, -1, 257, 1 << 32, 1<<32 + 1, math.MinInt, math.MaxInt} {
		for _, p := range []api.Pred{{}, {Kind: api.PredNot}, {Kind: api.PredTruth, Truth: 7}, {Kind: api.PredNull, A: api.Term{Kind: api.TermCol, Table: -1}}} {
			for n := range 4 {
				x := api.Tree{Kind: kind, Table: 9, Conj: []api.Pred{p}, Kids: kids[:n]}
				for word := range uint64(8) {
					exec.Tuples(hashing(x, word), d)
					exec.Tuples(hashing(on(api.Left, x, x), word), d)
				}
			}
		}
		exec.Tuples(api.Tree{Kind: kind, Kids: kids[:2]}, d)
		if got := exec.Tuples(on(kind, kids[0], kids[1]), d); (kind < api.Inner || kind > api.Anti) && len(got) != 0 {
			t.Errorf("kind %d: %v", kind, got)
		}
	}
	odd := api.Tree{Table: 1, Hash: true, Kids: kids[:1], Conj: []api.Pred{{}}}
	if got := exec.Tuples(odd, d); len(got) != 3 {
		t.Error(got)
	}
}

func TestTuplesOfDeepTrees(t *testing.T) {
	one := sample.Rows("1")
	for kind := api.Inner; kind <= api.Anti; kind++ {
		left, right := api.Tree{}, api.Tree{Table: 1}
		for range 1 << 16 {
			left, right = on(kind, left, api.Tree{Table: 1}), on(kind, api.Tree{}, right)
		}
		for _, d := range []api.Data{nil, {one, one}, {one, nil}, {nil, one}} {
			exec.Tuples(left, d)
			exec.Tuples(right, d)
		}
	}
}

// P16.2: Run

// The rows have the columns of what is seen alone, table by table, wherever the tables stand in the tree.
func TestRunOfColumns(t *testing.T) {
	d := api.Data(sample.Lists("1,5 2,6; 8; 1,3,4 3,3,4; 2 9"))
	cols := []int{2, 1, 3, 1}
	for text, want := range map[string]string{
		"2":               "1,3,4 3,3,4",
		"(2⋈[=0.0,2.0]0)": "1,5,1,3,4",
		"(2⟕[=0.0,2.0]0)": "1,5,1,3,4 ∅,∅,3,3,4",
		"(0⟕[=0.0,2.0]2)": "1,5,1,3,4 2,6,∅,∅,∅",
		"(2⋉[=0.0,2.0]0)": "1,3,4",
		"(2▷[=0.0,2.0]0)": "3,3,4",
		// What a semi or an anti join hides is not seen above it.
		"(3⟕[=0.0,3.0](0⋉[=0.0,2.0]2))": "∅,∅,2 ∅,∅,9",
		"(3⟕[=0.0,3.0](0▷[=0.0,2.0]2))": "2,6,2 ∅,∅,9",
		"(3⋉[=0.0,3.0](0⟕[=0.0,2.0]2))": "2",
		"(1⋈[=1.0,3.0]3)":               "",
	} {
		for word := range uint64(4) {
			got, errno := exec.Run(api.Query{Cols: cols, Root: hashing(sample.Parse(text), word)}, d)
			if !sample.SameRows(got, sample.Rows(want)) || errno != api.OK {
				t.Errorf("%s, %d: %v %v, not %s", text, word, got, errno, want)
			}
		}
	}
}

// Run is Flat of each of the Tuples, in order.
func TestRunOfMany(t *testing.T) {
	dice := sample.New(2)
	for range 4000 {
		q := dice.Query(6)
		d := dice.Data(q.Cols, 6)
		got, errno := exec.Run(q, d)
		if want := slowRun(q, d); !sample.SameRows(got, want) || errno != api.OK {
			t.Fatalf("%v of %v: %v %v, not %v", q, d, got, errno, want)
		}
		var flat []api.Row
		for _, tuple := range exec.Tuples(q.Root, d) {
			flat = append(flat, match.Flat(tuple, tree.Seen(q.Root), q.Cols))
		}
		if !sample.SameRows(got, flat) {
			t.Fatalf("%v of %v: %v, not %v", q, d, got, flat)
		}
	}
}

// The first error of the query comes ahead of that of the data, and no rows come with it.
func TestRunOfErrors(t *testing.T) {
	right := api.Query{Cols: []int{1, 1}, Root: sample.Parse("(0⋈[=0.0,1.0]1)")}
	one := sample.Rows("1")
	if got, errno := exec.Run(right, api.Data{one, one}); !sample.SameRows(got, sample.Rows("1,1")) || errno != api.OK {
		t.Error(got, errno)
	}
	for _, c := range []struct {
		name  string
		spoil func(q *api.Query, d *api.Data)
		want  api.Errno
	}{
		{"no rows", func(q *api.Query, d *api.Data) { *d = api.Data{nil, nil} }, api.OK},
		{"too many cols", func(q *api.Query, d *api.Data) { q.Cols = make([]int, 65) }, api.ErrLong},
		{"no column", func(q *api.Query, d *api.Data) { q.Cols[0] = 0 }, api.ErrCols},
		{"five columns", func(q *api.Query, d *api.Data) { q.Cols[1] = 5 }, api.ErrCols},
		{"no kind", func(q *api.Query, d *api.Data) { q.Root.Kind = 5 }, api.ErrKind},
		{"a leaf that hashes", func(q *api.Query, d *api.Data) { q.Root.Kids[1].Hash = true }, api.ErrKind},
		{"one kid", func(q *api.Query, d *api.Data) { q.Root.Kids = q.Root.Kids[:1] }, api.ErrKids},
		{"a leaf with kids", func(q *api.Query, d *api.Data) { q.Root.Kind = api.Leaf }, api.ErrKids},
		{"no conjunct", func(q *api.Query, d *api.Data) { q.Root.Conj = nil }, api.ErrConj},
		{"too many conjuncts", func(q *api.Query, d *api.Data) { q.Root.Conj = slices.Repeat(q.Root.Conj, 65) }, api.ErrConj},
		{"no cols", func(q *api.Query, d *api.Data) { *q = api.Query{} }, api.ErrTable},
		{"no such table", func(q *api.Query, d *api.Data) { q.Root.Kids[0].Table = 2 }, api.ErrTable},
		{"twice", func(q *api.Query, d *api.Data) { q.Root.Kids[0].Table = 1 }, api.ErrTwice},
		{"no predicate", func(q *api.Query, d *api.Data) { q.Root.Conj[0].Op = 7 }, api.ErrPred},
		{"a column that there is not", func(q *api.Query, d *api.Data) { q.Root.Conj[0].A.Col = 1 }, api.ErrScope},
		{"one side", func(q *api.Query, d *api.Data) { q.Root.Conj[0].A.Table = 1 }, api.ErrSides},
		{"no lists", func(q *api.Query, d *api.Data) { *d = nil }, api.ErrData},
		{"one list", func(q *api.Query, d *api.Data) { *d = (*d)[:1] }, api.ErrData},
		{"three lists", func(q *api.Query, d *api.Data) { *d = append(*d, nil) }, api.ErrData},
		{"an empty row", func(q *api.Query, d *api.Data) { (*d)[1] = sample.Rows("1 -") }, api.ErrData},
		{"a long row", func(q *api.Query, d *api.Data) { (*d)[0] = sample.Rows("1 1,2") }, api.ErrData},
		{"a value that may not be", func(q *api.Query, d *api.Data) { (*d)[1] = []api.Row{{wrong}} }, api.ErrData},
		{"too many rows", func(q *api.Query, d *api.Data) { (*d)[1] = slices.Repeat(one, 1001) }, api.ErrData},
		{"too many rows of a table in no leaf", func(q *api.Query, d *api.Data) {
			q.Root = api.Tree{}
			(*d)[1] = slices.Repeat(one, 1001)
		}, api.ErrData},
		{"both wrong", func(q *api.Query, d *api.Data) {
			q.Root.Conj = nil
			*d = nil
		}, api.ErrConj},
	} {
		q, d := api.Query{Cols: slices.Clone(right.Cols), Root: tree.Copy(right.Root)}, api.Data{one, one}
		c.spoil(&q, &d)
		got, errno := exec.Run(q, d)
		if errno != c.want || errno != check.Data(q, d) || len(got) != 0 {
			t.Errorf("%s: %v %v, not %v", c.name, got, errno, c.want)
		}
	}
}

// Queries and data of which anything may be wrong have the error that check tells.
func TestRunOfWrong(t *testing.T) {
	dice := sample.New(3)
	wrongs := 0
	for range 4000 {
		q := dice.Query(6)
		d := dice.Data(q.Cols, 4)
		parts := sample.Within(&q.Root)
		part := parts[dice.Below(len(parts))]
		i := dice.Below(len(q.Cols))
		switch dice.Below(8) {
		case 0:
			part.Kind = dice.Below(8) - 1
		case 1:
			part.Table = strange[dice.Below(len(strange))]
		case 2:
			part.Kids = part.Kids[:min(dice.Below(3), len(part.Kids))]
		case 3:
			part.Conj = append(part.Conj, dice.Conjunct(q.Root, api.Tree{Table: i}, q.Cols))
		case 4:
			q.Cols[i] = dice.Below(7) - 1
		case 5:
			d = d[:i]
		case 6:
			d[i] = append(d[i], dice.Data([]int{1 + dice.Below(4)}, 3)[0]...)
		case 7:
			d[i] = append(d[i], api.Row{wrong}, nil)
		}
		got, errno := exec.Run(q, d)
		if want := check.Data(q, d); errno != want || errno != api.OK && len(got) != 0 {
			t.Fatalf("%v of %v: %v %v, not %v", q, d, got, errno, want)
		}
		if errno != api.OK {
			wrongs++
		} else if want := slowRun(q, d); !sample.SameRows(got, want) {
			t.Fatalf("%v of %v: %v, not %v", q, d, got, want)
		}
	}
	if wrongs < 1000 {
		t.Errorf("%d alone are wrong", wrongs)
	}
}

// The greatest query that may be: 64 tables of 1000 rows and four columns, with 64 conjuncts.
func TestRunOfTheGreatest(t *testing.T) {
	q := api.Query{Root: api.Tree{Table: 63}}
	var d api.Data
	for i := range 64 {
		q.Cols = append(q.Cols, 4)
		var table []api.Row
		for j := range 1000 {
			table = append(table, api.Row{{N: int64(j)}, {N: int64(i)}, {}, {}})
		}
		d = append(d, table)
	}
	for i := range 63 {
		q.Root = on(api.Inner+i%2, q.Root, api.Tree{Table: i})
		q.Root.Conj[0].A.Table, q.Root.Conj[0].B.Table = 63, i
	}
	q.Root.Conj = append(q.Root.Conj, q.Root.Conj...)
	q.Root = hashing(q.Root, math.MaxUint64)
	got, errno := exec.Run(q, d)
	if len(got) != 1000 || errno != api.OK {
		t.Fatalf("%d rows, %v", len(got), errno)
	}
	for j, row := range got {
		for i := range 64 {
			if !slices.Equal(row[4*i:4*i+4], d[i][j]) {
				t.Fatalf("the row %d: %v", j, row)
			}
		}
	}
}

// P16.3: Hash is of no matter.

func TestHashIsOfNoMatter(t *testing.T) {
	dice := sample.New(4)
	for range 400 {
		q := dice.Query(6)
		d := dice.Data(q.Cols, 6)
		tuples, rest := exec.Tuples(q.Root, d), q
		rows, _ := exec.Run(q, d)
		for word := range uint64(1) << (len(q.Cols) - 1) {
			rest.Root = hashing(q.Root, word)
			if got := exec.Tuples(rest.Root, d); !sample.SameLists(got, tuples) {
				t.Fatalf("%v of %v: %v, not %v", rest, d, got, tuples)
			}
			if got, errno := exec.Run(rest, d); !sample.SameRows(got, rows) || errno != api.OK {
				t.Fatalf("%v of %v: %v %v, not %v", rest, d, got, errno, rows)
			}
		}
	}
}
