package check_test

import (
	"math"
	"reflect"
	"slices"
	"testing"

	"watersmeet/api"
	"watersmeet/check"
	"watersmeet/sample"
	"watersmeet/tree"
)

// wide are numbers of all sorts: those at which what is told turns, and some that would be right if they were cut to fewer digits.
var wide = []int{math.MinInt, -1 << 32, -256, -64, -2, -1, 0, 1, 2, 3, 4, 5, 6, 7, 62, 63, 64, 65, 127, 128, 255, 256, 257, 1 << 32, 1<<32 + 1, 1<<32 + 4, math.MaxInt}

var kinds = []int{api.Inner, api.Left, api.Semi, api.Anti}

func leaf(i int) api.Tree {
	return api.Tree{Table: i}
}

func on(kind int, a, b api.Tree, l ...api.Pred) api.Tree {
	return api.Tree{Kind: kind, Kids: []api.Tree{a, b}, Conj: l}
}

func col(table, c int) api.Term {
	return api.Term{Kind: api.TermCol, Table: table, Col: c}
}

func num(n int64) api.Term {
	return api.Term{Kind: api.TermValue, Value: api.Value{N: n}}
}

func eq(a, b api.Term) api.Pred {
	return api.Pred{Kind: api.PredCmp, Op: api.Eq, A: a, B: b}
}

// same tells that the first columns of two tables are the same.
func same(a, b int) api.Pred {
	return eq(col(a, 0), col(b, 0))
}

func isNull(a api.Term) api.Pred {
	return api.Pred{Kind: api.PredNull, A: a}
}

func and(l ...api.Pred) api.Pred {
	return api.Pred{Kind: api.PredAnd, Parts: l}
}

func or(l ...api.Pred) api.Pred {
	return api.Pred{Kind: api.PredOr, Parts: l}
}

func not(p api.Pred) api.Pred {
	return api.Pred{Kind: api.PredNot, Parts: []api.Pred{p}}
}

func times(n int, p api.Pred) []api.Pred {
	return slices.Repeat([]api.Pred{p}, n)
}

// cols tells n tables of so many columns each.
func cols(n, each int) []int {
	return slices.Repeat([]int{each}, n)
}

// chain tells n tables joined one by one, each with the one ahead of it, with so many conjuncts each.
func chain(n, conj int) api.Tree {
	t := leaf(0)
	for i := 1; i < n; i++ {
		t = on(kinds[i%2], t, leaf(i), times(conj, same(i-1, i))...)
	}
	return t
}

// dice tells trees that may not be, too.
type dice struct{ *sample.Dice }

// seen tells in order which tables are seen of any tree.
func seen(t api.Tree) []int {
	if t.Kind == api.Leaf {
		return []int{t.Table}
	}
	var l []int
	for i, kid := range t.Kids {
		if i == 0 || t.Kind != api.Semi && t.Kind != api.Anti {
			l = append(l, seen(kid)...)
		}
	}
	return l
}

// some are right queries of all sorts.
func some() []api.Query {
	d := dice{sample.New(11)}
	var l []api.Query
	for range 300 {
		l = append(l, d.Query(7))
	}
	return append(l, api.Query{Cols: cols(64, 4), Root: d.Tree(d.Shuffled(33), cols(64, 4))})
}

// copied tells q in new memory.
func copied(q api.Query) api.Query {
	return api.Query{Cols: slices.Clone(q.Cols), Root: tree.Copy(q.Root)}
}

// Slow twins: they find all that is wrong, and then look for what comes first.

// slowPred tells whether p may be at this depth, and hands all its columns to each.
func slowPred(p api.Pred, depth int, each func(table, c int)) bool {
	term := func(t api.Term) bool {
		if t.Kind == api.TermCol {
			each(t.Table, t.Col)
			return t == col(t.Table, t.Col) && 0 <= t.Table && t.Table < 64 && 0 <= t.Col && t.Col < 4
		}
		return t.Kind == api.TermValue && t.Table == 0 && t.Col == 0 && (!t.Value.Null || t.Value.N == 0)
	}
	bare := api.Pred{Kind: p.Kind}
	parts := 0
	switch p.Kind {
	case api.PredTruth:
		bare.Truth = min(max(p.Truth, api.False), api.True)
	case api.PredCmp:
		bare.Op, bare.A, bare.B = min(max(p.Op, api.Eq), api.Ge), p.A, p.B
		if a, b := term(p.A), term(p.B); !a || !b {
			return false
		}
	case api.PredNull:
		bare.A = p.A
		if !term(p.A) {
			return false
		}
	case api.PredAnd, api.PredOr:
		parts = min(len(p.Parts), 4)
	case api.PredNot:
		parts = 1
	default:
		return false
	}
	ok := depth <= 4 && len(p.Parts) == parts && p.Truth == bare.Truth && p.Op == bare.Op && p.A == bare.A && p.B == bare.B
	for _, part := range p.Parts {
		ok = slowPred(part, depth+1, each) && ok
	}
	return ok
}

// slowConjunct tells the first error of p, of an operator on these Kids.
func slowConjunct(p api.Pred, cols []int, a, b api.Tree) api.Errno {
	scope, first, second := true, false, false
	may := slowPred(p, 1, func(table, c int) {
		left, right := slices.Contains(seen(a), table), slices.Contains(seen(b), table)
		scope = scope && (left || right) && c < cols[table]
		first = first || left
		second = second || right
	})
	switch {
	case !may:
		return api.ErrPred
	case !scope:
		return api.ErrScope
	case !first || !second:
		return api.ErrSides
	}
	return api.OK
}

// slowTree tells the first error of one tree, behind which leaves of these tables, and operators of so many conjuncts, were told.
func slowTree(t api.Tree, cols []int, tables map[int]bool, conj int) api.Errno {
	leaf := t.Kind == api.Leaf
	for _, rule := range []struct {
		wrong func() bool
		errno api.Errno
	}{
		{func() bool { return !leaf && !slices.Contains(kinds, t.Kind) || leaf && t.Hash }, api.ErrKind},
		{func() bool { return leaf && len(t.Kids) > 0 || !leaf && len(t.Kids) != 2 }, api.ErrKids},
		{func() bool {
			return leaf && len(t.Conj) > 0 || !leaf && len(t.Conj) == 0 || !leaf && conj+len(t.Conj) > 64
		}, api.ErrConj},
		{func() bool { return leaf && (t.Table < 0 || t.Table >= len(cols)) || !leaf && t.Table != 0 }, api.ErrTable},
		{func() bool { return leaf && tables[t.Table] }, api.ErrTwice},
	} {
		if rule.wrong() {
			return rule.errno
		}
	}
	for _, p := range t.Conj {
		if errno := slowConjunct(p, cols, t.Kids[0], t.Kids[1]); errno != api.OK {
			return errno
		}
	}
	return api.OK
}

func slowQuery(q api.Query) api.Errno {
	if len(q.Cols) > 64 {
		return api.ErrLong
	}
	for _, n := range q.Cols {
		if !slices.Contains([]int{1, 2, 3, 4}, n) {
			return api.ErrCols
		}
	}
	tables, conj := map[int]bool{}, 0
	for _, t := range sample.Within(&q.Root) {
		if errno := slowTree(*t, q.Cols, tables, conj); errno != api.OK {
			return errno
		}
		if t.Kind == api.Leaf {
			tables[t.Table] = true
		}
		conj += len(t.Conj)
	}
	return api.OK
}

func slowData(q api.Query, d api.Data) api.Errno {
	if errno := slowQuery(q); errno != api.OK {
		return errno
	}
	ok := len(d) == len(q.Cols)
	for i := 0; ok && i < len(d); i++ {
		ok = len(d[i]) <= 1000
		for _, row := range d[i] {
			ok = ok && len(row) == q.Cols[i]
			for _, v := range row {
				ok = ok && (!v.Null || v.N == 0)
			}
		}
	}
	if !ok {
		return api.ErrData
	}
	return api.OK
}

// hold tells whether Query and Right tell of q what is wanted.
func hold(t *testing.T, name string, q api.Query, want api.Errno) {
	t.Helper()
	if got := check.Query(q); got != want {
		t.Errorf("%s: Query tells %d, not %d", name, got, want)
	}
	if check.Right(q) != (want == api.OK) {
		t.Errorf("%s: Right is %t", name, want != api.OK)
	}
}

// P11.1: Cols

func TestQueryOfCols(t *testing.T) {
	x := on(api.Left, leaf(0), leaf(1), same(0, 1))
	for _, c := range []struct {
		name string
		cols []int
		root api.Tree
		want api.Errno
	}{
		{"one table", []int{1}, leaf(0), api.OK},
		{"tables that no leaf has", []int{1, 2, 3, 4}, x, api.OK},
		{"as many as may be", cols(64, 4), x, api.OK},
		{"one more", cols(65, 4), x, api.ErrLong},
		{"many more", cols(1000, 1), x, api.ErrLong},
		{"no column", []int{1, 0}, x, api.ErrCols},
		{"too many columns", []int{5, 1}, x, api.ErrCols},
		{"too many columns of a table that no leaf has", []int{1, 1, 5}, x, api.ErrCols},
		{"the last one wrong", append(cols(63, 1), 0), x, api.ErrCols},
		{"too many, and no columns", cols(65, 0), x, api.ErrLong},
		{"too many, and the Root wrong", cols(65, 1), api.Tree{Kind: 9}, api.ErrLong},
		{"no column, and the Root wrong", []int{0}, api.Tree{Kind: 9}, api.ErrCols},
		{"none, and a leaf", nil, leaf(0), api.ErrTable},
		{"none, and a leaf with Hash", []int{}, api.Tree{Hash: true}, api.ErrKind},
		{"none, and an operator", nil, x, api.ErrTable},
		{"none, and an operator without Kids", nil, api.Tree{Kind: api.Inner}, api.ErrKids},
	} {
		hold(t, c.name, api.Query{Cols: c.cols, Root: c.root}, c.want)
	}
	for _, n := range wide {
		want := api.ErrCols
		if slices.Contains([]int{1, 2, 3, 4}, n) {
			want = api.OK
		}
		for i := range 3 {
			l := []int{2, 2, 2}
			l[i] = n
			hold(t, "wide columns", api.Query{Cols: l, Root: x}, want)
		}
	}
	for n := range 70 {
		want := api.OK
		if n > 64 {
			want = api.ErrLong
		} else if n < 2 {
			want = api.ErrTable
		}
		hold(t, "so many tables", api.Query{Cols: cols(n, 1), Root: x}, want)
	}
}

// P11.1: each tree alone

// formed are trees of tables of two columns each, all that is wrong with which is in one of them.
var formed = []struct {
	name string
	root api.Tree
	want api.Errno
}{
	{"a leaf", leaf(3), api.OK},
	{"a join", on(api.Inner, leaf(0), leaf(1), same(0, 1)), api.OK},
	{"a join with Hash", api.Tree{Kind: api.Semi, Kids: []api.Tree{leaf(0), leaf(1)}, Conj: []api.Pred{same(0, 1)}, Hash: true}, api.OK},
	{"both ways round", on(api.Left, leaf(1), leaf(0), same(0, 1)), api.OK},
	{"a leaf with empty lists", api.Tree{Kids: []api.Tree{}, Conj: []api.Pred{}}, api.OK},

	{"a leaf with Hash", api.Tree{Hash: true}, api.ErrKind},
	{"a leaf with Hash and all else wrong", api.Tree{Table: 77, Kids: []api.Tree{leaf(0)}, Conj: []api.Pred{{}}, Hash: true}, api.ErrKind},
	{"a kind above all", on(5, leaf(0), leaf(1), same(0, 1)), api.ErrKind},
	{"a kind below all", on(-1, leaf(0), leaf(1), same(0, 1)), api.ErrKind},
	{"a kind that is none, and all else wrong", api.Tree{Kind: 5, Table: 7}, api.ErrKind},
	{"a kind that is none, with Hash", api.Tree{Kind: 5, Kids: []api.Tree{leaf(0), leaf(1)}, Conj: []api.Pred{same(0, 1)}, Hash: true}, api.ErrKind},

	{"a leaf with one Kid", api.Tree{Kids: []api.Tree{leaf(1)}}, api.ErrKids},
	{"a leaf with two Kids", on(api.Leaf, leaf(1), leaf(2), same(1, 2)), api.ErrKids},
	{"an operator without Kids", api.Tree{Kind: api.Inner, Conj: []api.Pred{same(0, 1)}}, api.ErrKids},
	{"an operator with one", api.Tree{Kind: api.Left, Kids: []api.Tree{leaf(0)}, Conj: []api.Pred{same(0, 0)}}, api.ErrKids},
	{"an operator with three", api.Tree{Kind: api.Semi, Kids: []api.Tree{leaf(0), leaf(1), leaf(2)}, Conj: []api.Pred{same(0, 1)}}, api.ErrKids},
	{"Kids ahead of Conj", api.Tree{Kind: api.Anti, Table: 7}, api.ErrKids},
	{"Kids ahead of Conj, of a leaf", api.Tree{Table: 77, Kids: []api.Tree{leaf(0)}, Conj: []api.Pred{same(0, 1)}}, api.ErrKids},

	{"a leaf with Conj", api.Tree{Conj: []api.Pred{same(0, 1)}}, api.ErrConj},
	{"a leaf with Conj, and no such table", api.Tree{Table: -1, Conj: []api.Pred{same(0, 1)}}, api.ErrConj},
	{"an operator without Conj", on(api.Left, leaf(0), leaf(1)), api.ErrConj},
	{"an operator without Conj, with a Table", api.Tree{Kind: api.Left, Table: 1, Kids: []api.Tree{leaf(0), leaf(1)}}, api.ErrConj},
	{"too many Conj, and wrong ones", on(api.Left, leaf(0), leaf(1), times(65, api.Pred{})...), api.ErrConj},

	{"a table above all", leaf(4), api.ErrTable},
	{"a table below all", leaf(-1), api.ErrTable},
	{"a table above all within", on(api.Inner, leaf(0), leaf(4), same(0, 4)), api.ErrTable},
	{"an operator with a Table", api.Tree{Kind: api.Inner, Table: 1, Kids: []api.Tree{leaf(0), leaf(1)}, Conj: []api.Pred{same(0, 1)}}, api.ErrTable},
	{"an operator with a Table below 0", api.Tree{Kind: api.Inner, Table: -1, Kids: []api.Tree{leaf(0), leaf(1)}, Conj: []api.Pred{same(0, 1)}}, api.ErrTable},
	{"an operator with a Table, and a wrong conjunct", api.Tree{Kind: api.Inner, Table: 2, Kids: []api.Tree{leaf(0), leaf(1)}, Conj: []api.Pred{{}}}, api.ErrTable},

	{"a table with itself", on(api.Inner, leaf(0), leaf(0), same(0, 0)), api.ErrTwice},
	{"a table that comes again further up", on(api.Inner, on(api.Inner, leaf(0), leaf(1), same(0, 1)), leaf(0), same(1, 0)), api.ErrTwice},
	{"a table that comes again on the right", on(api.Inner, leaf(2), on(api.Left, leaf(1), leaf(2), same(1, 2)), same(1, 2)), api.ErrTwice},
	{"a table that comes again, though it is not seen", on(api.Inner, on(api.Semi, leaf(0), leaf(1), same(0, 1)), leaf(1), same(0, 1)), api.ErrTwice},
	{"two tables that come again", on(api.Inner, on(api.Left, leaf(0), leaf(1), same(0, 1)), on(api.Left, leaf(1), leaf(0), same(0, 1)), same(0, 1)), api.ErrTwice},
	{"a table three times", on(api.Inner, on(api.Left, leaf(3), leaf(3), same(3, 3)), leaf(3), same(3, 3)), api.ErrTwice},
}

func TestQueryOfTrees(t *testing.T) {
	for _, c := range formed {
		hold(t, c.name, api.Query{Cols: cols(4, 2), Root: c.root}, c.want)
	}
}

func TestQueryOfWideNumbers(t *testing.T) {
	for _, n := range wide {
		want := api.ErrKind
		switch {
		case n == api.Leaf:
			want = api.ErrKids
		case slices.Contains(kinds, n):
			want = api.OK
		}
		hold(t, "kind", api.Query{Cols: cols(2, 1), Root: on(n, leaf(0), leaf(1), same(0, 1))}, want)
		for _, tables := range []int{0, 1, 2, 63, 64} {
			want = api.ErrTable
			if 0 <= n && n < tables {
				want = api.OK
			}
			hold(t, "table of a leaf", api.Query{Cols: cols(tables, 1), Root: leaf(n)}, want)
			if n != 0 && tables > 1 {
				x := on(api.Anti, leaf(0), leaf(1), same(0, 1))
				x.Table = n
				hold(t, "table of an operator", api.Query{Cols: cols(tables, 1), Root: x}, api.ErrTable)
			}
		}
	}
}

func TestQueryOfKids(t *testing.T) {
	for kind := range api.Anti + 1 {
		for n := range 5 {
			x := api.Tree{Kind: kind}
			for i := range n {
				x.Kids = append(x.Kids, leaf(i))
			}
			want := api.OK
			if kind != api.Leaf {
				x.Conj = []api.Pred{same(0, 1)}
			}
			if kind == api.Leaf && n > 0 || kind != api.Leaf && n != 2 {
				want = api.ErrKids
			}
			hold(t, "so many Kids", api.Query{Cols: cols(5, 1), Root: x}, want)
		}
	}
}

func TestQueryOfConj(t *testing.T) {
	p := same(0, 1)
	two := func(a, b int) api.Tree {
		return on(api.Inner, on(api.Semi, leaf(0), leaf(1), times(a, p)...), leaf(2), times(b, same(0, 2))...)
	}
	both := func(a, b, c int) api.Tree {
		x, y := on(api.Left, leaf(0), leaf(1), times(a, p)...), on(api.Anti, leaf(2), leaf(3), times(b, same(2, 3))...)
		return on(api.Inner, x, y, times(c, same(1, 2))...)
	}
	for _, c := range []struct {
		name string
		root api.Tree
		want api.Errno
	}{
		{"64 of one", on(api.Left, leaf(0), leaf(1), times(64, p)...), api.OK},
		{"65 of one", on(api.Left, leaf(0), leaf(1), times(65, p)...), api.ErrConj},
		{"63 and 1", two(63, 1), api.OK},
		{"1 and 63", two(1, 63), api.OK},
		{"64 and 1", two(64, 1), api.ErrConj},
		{"1 and 64", two(1, 64), api.ErrConj},
		{"64 and none", two(64, 0), api.ErrConj},
		{"20, 20 and 24", both(20, 20, 24), api.OK},
		{"20, 20 and 25", both(20, 20, 25), api.ErrConj},
		{"64, 1 and a wrong Root", api.Tree{Kind: 9, Kids: both(64, 1, 1).Kids}, api.ErrConj},
		{"1 of each of 63", chain(64, 1), api.OK},
		{"2 of each of 32", chain(33, 2), api.OK},
		{"2 of each of 33", chain(34, 2), api.ErrConj},
	} {
		hold(t, c.name, api.Query{Cols: cols(64, 1), Root: c.root}, c.want)
	}
	// 63 operators have one each, so there is room for one more, wherever it is.
	for i := range 63 {
		x := chain(64, 1)
		at := sample.Within(&x)[2*i+2]
		at.Conj = append(at.Conj, at.Conj[0])
		hold(t, "64 of 63 operators", api.Query{Cols: cols(64, 1), Root: x}, api.OK)
		at.Conj = append(at.Conj, at.Conj[0])
		hold(t, "65 of 63 operators", api.Query{Cols: cols(64, 1), Root: x}, api.ErrConj)
	}
	// What is told at the operator with which they are too many comes behind what is wrong further down.
	x := two(64, 64)
	x.Kids[0].Conj[63] = same(0, 0)
	hold(t, "a wrong one of 64, and then too many", api.Query{Cols: cols(3, 1), Root: x}, api.ErrSides)
}

// P11.1: conjuncts

// conjuncts are what may be, or may not, between 0 and 1 of two columns, and 2 of one (hidden by a Semi) and 3.
var conjuncts = []struct {
	name string
	l    []api.Pred
	want api.Errno
}{
	{"one", []api.Pred{same(0, 1)}, api.OK},
	{"the other way round", []api.Pred{same(1, 0)}, api.OK},
	{"the last columns", []api.Pred{eq(col(0, 1), col(1, 1))}, api.OK},
	{"parts that name a side each", []api.Pred{and(isNull(col(0, 0)), not(isNull(col(1, 0))))}, api.OK},
	{"parts that name both sides deep down", []api.Pred{not(or(eq(num(1), num(2)), and(isNull(col(1, 1)), isNull(col(0, 1)))))}, api.OK},
	{"the nearer table of the left", []api.Pred{eq(col(3, 0), col(1, 0))}, api.OK},

	{"none of any kind", []api.Pred{{}}, api.ErrPred},
	{"a kind that is none", []api.Pred{{Kind: 7, A: col(0, 0), B: col(1, 0)}}, api.ErrPred},
	{"a comparison that is none", []api.Pred{{Kind: api.PredCmp, Op: 7, A: col(0, 0), B: col(1, 0)}}, api.ErrPred},
	{"a truth too much", []api.Pred{{Kind: api.PredCmp, Truth: 1, Op: api.Eq, A: col(0, 0), B: col(1, 0)}}, api.ErrPred},
	{"a column that may not be", []api.Pred{eq(col(0, 4), col(1, 0))}, api.ErrPred},
	{"a column below 0", []api.Pred{eq(col(0, -1), col(1, 0))}, api.ErrPred},
	{"a table that may not be", []api.Pred{eq(col(0, 0), col(64, 0))}, api.ErrPred},
	{"a table below 0", []api.Pred{eq(col(-1, 0), col(1, 0))}, api.ErrPred},
	{"five parts", []api.Pred{and(times(5, same(0, 1))...)}, api.ErrPred},
	{"too deep", []api.Pred{not(not(not(not(same(0, 1)))))}, api.ErrPred},
	{"as deep as may be", []api.Pred{not(not(not(same(0, 1))))}, api.OK},
	{"a wrong part", []api.Pred{and(same(0, 1), api.Pred{})}, api.ErrPred},

	{"a column above the Cols", []api.Pred{eq(col(0, 2), col(1, 0))}, api.ErrScope},
	{"a column above the Cols on the right", []api.Pred{eq(col(0, 0), col(1, 2))}, api.ErrScope},
	{"a column of a hidden table", []api.Pred{same(0, 1), eq(col(0, 0), col(2, 0))}, api.ErrScope},
	{"a column of a hidden table deep down", []api.Pred{and(same(0, 1), not(isNull(col(2, 0))))}, api.ErrScope},
	{"a column of a table that no leaf has", []api.Pred{and(same(0, 1), isNull(col(4, 0)))}, api.ErrScope},
	{"a column of a table that there is not", []api.Pred{and(same(0, 1), isNull(col(63, 0)))}, api.ErrScope},
	{"a column further up", []api.Pred{same(0, 5)}, api.ErrScope},

	{"no column", []api.Pred{eq(num(1), num(1))}, api.ErrSides},
	{"a truth", []api.Pred{{Kind: api.PredTruth, Truth: api.True}}, api.ErrSides},
	{"no parts", []api.Pred{and()}, api.ErrSides},
	{"the left alone", []api.Pred{isNull(col(0, 0))}, api.ErrSides},
	{"the right alone", []api.Pred{isNull(col(1, 0))}, api.ErrSides},
	{"two of the left", []api.Pred{same(0, 3)}, api.ErrSides},
	{"the right twice", []api.Pred{eq(col(1, 0), col(1, 1))}, api.ErrSides},
	{"the left and a number", []api.Pred{eq(col(0, 0), num(5))}, api.ErrSides},
	{"the second one on one side", []api.Pred{same(0, 1), same(1, 1)}, api.ErrSides},
	{"the last one of many on one side", append(times(60, same(0, 1)), same(0, 0)), api.ErrSides},

	{"pred ahead of scope and sides", []api.Pred{and(isNull(col(2, 0)), api.Pred{})}, api.ErrPred},
	{"scope ahead of sides", []api.Pred{isNull(col(2, 0))}, api.ErrScope},
	{"scope ahead of sides, behind a column that may be", []api.Pred{eq(col(0, 0), col(0, 3))}, api.ErrScope},
	{"the first conjunct's sides ahead of the second one's pred", []api.Pred{same(0, 0), {}}, api.ErrSides},
	{"the first conjunct's scope ahead of the second one's pred", []api.Pred{isNull(col(2, 0)), {}}, api.ErrScope},
	{"the second conjunct's sides ahead of the third one's scope", []api.Pred{same(0, 1), same(1, 1), same(2, 1)}, api.ErrSides},
	{"the second conjunct's pred", []api.Pred{same(0, 1), {}, same(1, 1)}, api.ErrPred},
}

func TestQueryOfConjuncts(t *testing.T) {
	widths := []int{2, 2, 1, 1, 1, 1}
	lefts := []api.Tree{
		on(api.Inner, on(api.Semi, leaf(0), leaf(2), same(0, 2)), leaf(3), same(0, 3)),
		on(api.Left, leaf(3), on(api.Anti, leaf(0), leaf(2), same(0, 2)), same(0, 3)),
	}
	for _, c := range conjuncts {
		for _, kind := range kinds {
			for _, left := range lefts {
				x := on(kind, left, leaf(1), c.l...)
				hold(t, c.name, api.Query{Cols: widths, Root: x}, c.want)
				// The same where the sides are the other way round, and further down.
				x = on(kind, leaf(1), left, c.l...)
				hold(t, c.name+", turned", api.Query{Cols: widths, Root: x}, c.want)
				x = on(api.Left, x, leaf(5), same(5, seen(x)[0]))
				hold(t, c.name+", within another one", api.Query{Cols: widths, Root: x}, c.want)
				// An operator without Conj is told only where nothing is wrong within it.
				want := c.want
				if want == api.OK {
					want = api.ErrConj
				}
				hold(t, c.name+", within a wrong one", api.Query{Cols: widths, Root: on(api.Left, leaf(4), x)}, want)
			}
		}
	}
}

// Which columns are seen above an operator hangs on its Kind.
func TestQueryOfHiddenTables(t *testing.T) {
	for _, kind := range kinds {
		for _, turned := range []bool{false, true} {
			low := on(kind, leaf(0), leaf(1), same(0, 1))
			for table := range 2 {
				x := on(api.Inner, low, leaf(2), same(table, 2))
				if turned {
					x = on(api.Inner, leaf(2), low, same(table, 2))
				}
				want := api.OK
				if table == 1 && kind >= api.Semi {
					want = api.ErrScope
				}
				hold(t, "hidden or not", api.Query{Cols: cols(3, 1), Root: x}, want)
			}
		}
	}
}

func TestQueryOfColumns(t *testing.T) {
	for a := 1; a <= 4; a++ {
		for b := 1; b <= 4; b++ {
			for i := range 4 {
				for j := range 4 {
					want := api.OK
					if i >= a || j >= b {
						want = api.ErrScope
					}
					x := on(api.Anti, leaf(1), leaf(63), eq(col(63, j), col(1, i)))
					l := cols(64, 4)
					l[1], l[63] = a, b
					hold(t, "columns", api.Query{Cols: l, Root: x}, want)
				}
			}
		}
	}
}

// P11.1: which error is the first one

// faults are each what makes one tree wrong; a leaf or an operator may be what a fault is not of.
var faults = []func(t *api.Tree) bool{
	func(t *api.Tree) bool { t.Kind = 9; return true },
	func(t *api.Tree) bool { t.Kind = -1; return true },
	func(t *api.Tree) bool { t.Hash = true; return t.Kind == api.Leaf },
	func(t *api.Tree) bool { t.Kids = append(t.Kids, leaf(0)); return true },
	func(t *api.Tree) bool { t.Kids = t.Kids[:len(t.Kids)/2]; return t.Kind != api.Leaf },
	func(t *api.Tree) bool { t.Kids = nil; return t.Kind != api.Leaf },
	func(t *api.Tree) bool { t.Conj = []api.Pred{same(0, 1)}; return t.Kind == api.Leaf },
	func(t *api.Tree) bool { t.Conj = nil; return t.Kind != api.Leaf },
	func(t *api.Tree) bool { t.Conj = times(65, same(0, 1)); return true },
	func(t *api.Tree) bool { t.Table = 64; return true },
	func(t *api.Tree) bool { t.Table = -1; return true },
	func(t *api.Tree) bool { t.Table = 0; return t.Kind == api.Leaf },
	func(t *api.Tree) bool { t.Table = 1; return t.Kind == api.Leaf },
	func(t *api.Tree) bool { t.Conj = append(t.Conj, api.Pred{}); return t.Kind != api.Leaf },
	func(t *api.Tree) bool { t.Conj = slices.Insert(t.Conj, 0, api.Pred{}); return t.Kind != api.Leaf },
	func(t *api.Tree) bool { t.Conj = append(t.Conj, same(63, 0)); return t.Kind != api.Leaf },
	func(t *api.Tree) bool {
		t.Conj = slices.Insert(t.Conj, 0, isNull(col(63, 3)))
		return t.Kind != api.Leaf
	},
	func(t *api.Tree) bool { t.Conj = append(t.Conj, isNull(col(0, 0))); return t.Kind != api.Leaf },
	func(t *api.Tree) bool { t.Conj = append(t.Conj, eq(num(1), num(1))); return t.Kind != api.Leaf },
}

// Each two faults, at each two trees: that of the tree ahead, or the one that is looked for ahead, is the one that is told.
func TestQueryOfTwoFaults(t *testing.T) {
	told := map[api.Errno]int{}
	for n, q := range some()[:60] {
		size := tree.Size(q.Root)
		for i, one := range faults {
			for j, other := range faults {
				x := copied(q)
				l := sample.Within(&x.Root)
				if !one(l[(i+j)%size]) || !other(l[(n+3*j)%size]) {
					continue
				}
				want := slowQuery(x)
				told[want]++
				if got := check.Query(x); got != want || check.Right(x) != (want == api.OK) {
					t.Errorf("the query %d with the faults %d and %d: %d, not %d", n, i, j, got, want)
				}
			}
		}
	}
	for errno := api.ErrKind; errno <= api.ErrSides; errno++ {
		if told[errno] < 50 {
			t.Errorf("the error %d was told %d times alone", errno, told[errno])
		}
	}
}

// A table that comes twice is told ahead of what is wrong behind it, and behind what is wrong ahead of it.
func TestQueryOfTwice(t *testing.T) {
	wrong := api.Tree{Kind: 9}
	dead := leaf(7)
	twice := on(api.Inner, leaf(0), leaf(0), same(0, 0))
	for _, c := range []struct {
		name string
		root api.Tree
		want api.Errno
	}{
		{"ahead of its own operator's Conj", on(api.Inner, leaf(0), leaf(0)), api.ErrTwice},
		{"ahead of its own operator's Kind", on(9, leaf(0), leaf(0)), api.ErrTwice},
		{"ahead of its own operator's Kids", api.Tree{Kind: api.Inner, Kids: []api.Tree{leaf(0), leaf(0), leaf(1)}}, api.ErrTwice},
		{"ahead of a third Kid", api.Tree{Kind: api.Inner, Kids: []api.Tree{leaf(0), leaf(0), wrong}}, api.ErrTwice},
		{"behind a second Kid", api.Tree{Kind: api.Inner, Kids: []api.Tree{leaf(0), wrong, leaf(0)}}, api.ErrKind},
		{"ahead of an operator's Kind", on(api.Inner, twice, wrong), api.ErrTwice},
		{"behind an operator's Kind", on(api.Inner, wrong, twice), api.ErrKind},
		{"ahead of a table that there is not", on(api.Inner, twice, dead), api.ErrTwice},
		{"behind a table that there is not", on(api.Inner, dead, twice), api.ErrTable},
		{"ahead of too many Conj", on(api.Inner, leaf(0), leaf(0), times(65, same(0, 1))...), api.ErrTwice},
		{"behind too many Conj", on(api.Inner, on(api.Left, leaf(0), leaf(1), times(65, same(0, 1))...), leaf(0)), api.ErrConj},
		{"ahead of a wrong conjunct", on(api.Inner, leaf(0), leaf(0), api.Pred{}), api.ErrTwice},
		{"behind a wrong conjunct", on(api.Inner, on(api.Inner, leaf(0), leaf(1), api.Pred{}), leaf(0)), api.ErrPred},
		{"behind a conjunct of one side", on(api.Inner, on(api.Inner, leaf(0), leaf(1), same(1, 1)), leaf(0)), api.ErrSides},
		{"the Kids of a leaf, and then it", api.Tree{Kids: []api.Tree{leaf(1), leaf(1)}}, api.ErrTwice},
		{"a Kid of a leaf, and then it", api.Tree{Table: 1, Kids: []api.Tree{leaf(1)}}, api.ErrKids},
		{"a leaf with Hash that comes again", on(api.Inner, leaf(0), api.Tree{Hash: true}), api.ErrKind},
		{"a leaf with Conj that comes again", on(api.Inner, leaf(0), api.Tree{Conj: []api.Pred{same(0, 0)}}), api.ErrConj},
		{"a table that there is not, again", on(api.Inner, dead, dead), api.ErrTable},
	} {
		hold(t, c.name, api.Query{Cols: cols(2, 1), Root: c.root}, c.want)
	}
	// Each two of many leaves.
	for i := range 64 {
		for j := range i {
			x := chain(64, 1)
			sample.Within(&x)[max(2*i-1, 0)].Table = j
			hold(t, "one of 64 leaves", api.Query{Cols: cols(64, 1), Root: x}, api.ErrTwice)
		}
	}
}

// wild tells any tree.
func (d dice) wild(room int) api.Tree {
	t := api.Tree{Kind: d.Below(5), Table: d.Below(5) - d.Below(2)*d.Below(2), Hash: d.Below(20) == 0}
	if d.Below(30) == 0 {
		t.Kind, t.Table = wide[d.Below(len(wide))], wide[d.Below(len(wide))]
	}
	if room == 0 {
		t.Kind = api.Leaf
	}
	if t.Kind == api.Leaf && d.Below(20) > 0 {
		return t
	}
	if d.Below(20) > 0 {
		t.Table = 0
	}
	for range 2 + d.Below(2)*d.Below(2)*d.Below(2) - d.Below(2)*d.Below(2)*d.Below(2) {
		t.Kids = append(t.Kids, d.wild(max(room-1, 0)))
	}
	for range 1 + d.Below(2)*d.Below(2) - d.Below(2)*d.Below(2)*d.Below(2) {
		t.Conj = append(t.Conj, []api.Pred{same(d.Below(5), d.Below(5)), eq(col(d.Below(5), d.Below(3)), col(d.Below(5), d.Below(3))), and(same(0, 1), isNull(col(d.Below(5), 0))), {Kind: d.Below(8)}}[d.Below(4)])
	}
	return t
}

func TestQueryBySlowTwin(t *testing.T) {
	told := map[api.Errno]int{}
	d := dice{sample.New(12)}
	for n := range 100000 {
		q := api.Query{Cols: cols(d.Below(6), 1+d.Below(2)), Root: d.wild(d.Below(4))}
		want := slowQuery(q)
		told[want]++
		if got := check.Query(q); got != want {
			t.Fatalf("the query %d: %d, not %d: %+v", n, got, want, q)
		}
	}
	for _, q := range some() {
		told[slowQuery(q)]++
	}
	for errno := api.ErrKind; errno <= api.ErrSides; errno++ {
		if told[errno] < 100 {
			t.Errorf("the error %d was told %d times alone", errno, told[errno])
		}
	}
	if told[api.OK] < 300 {
		t.Errorf("%d right ones alone", told[api.OK])
	}
}

func TestQueryOfRightOnes(t *testing.T) {
	for i, q := range some() {
		if errno := check.Query(q); errno != api.OK || !check.Right(q) {
			t.Errorf("the query %d: %d", i, errno)
		}
	}
	all := api.Query{Cols: cols(64, 1), Root: chain(64, 1)}
	hold(t, "64 tables", all, api.OK)
	all.Root = on(api.Inner, all.Root, leaf(64), same(63, 0))
	hold(t, "65 leaves", all, api.ErrTable)
}

// P11.2

func row(l ...int64) api.Row {
	r := api.Row{}
	for _, n := range l {
		r = append(r, api.Value{N: n})
	}
	return r
}

func TestData(t *testing.T) {
	null := api.Value{Null: true}
	q := api.Query{Cols: []int{1, 2, 4}, Root: on(api.Left, leaf(0), leaf(1), eq(col(0, 0), col(1, 1)))}
	rows := func(n int, r api.Row) []api.Row { return slices.Repeat([]api.Row{r}, n) }
	for _, c := range []struct {
		name string
		d    api.Data
		want api.Errno
	}{
		{"no rows", api.Data{nil, {}, nil}, api.OK},
		{"a row each", api.Data{{row(1)}, {row(1, 2)}, {row(1, 2, 3, 4)}}, api.OK},
		{"nulls", api.Data{{{null}}, {{null, null}, {null, {N: 7}}}, nil}, api.OK},
		{"the least and the greatest number", api.Data{{row(math.MinInt64), row(math.MaxInt64)}, nil, nil}, api.OK},
		{"a row twice", api.Data{{row(1), row(1)}, nil, nil}, api.OK},
		{"as many rows as may be", api.Data{rows(1000, row(1)), rows(1000, row(1, 2)), rows(1000, row(1, 2, 3, 4))}, api.OK},

		{"no list", nil, api.ErrData},
		{"an empty list", api.Data{}, api.ErrData},
		{"a list too few", api.Data{nil, nil}, api.ErrData},
		{"a list too many", api.Data{nil, nil, nil, nil}, api.ErrData},
		{"a row too many", api.Data{rows(1001, row(1)), nil, nil}, api.ErrData},
		{"a row too many of the last one", api.Data{nil, nil, rows(1001, row(1, 2, 3, 4))}, api.ErrData},
		{"an empty row", api.Data{{{}}, nil, nil}, api.ErrData},
		{"a row that is nil", api.Data{{nil}, nil, nil}, api.ErrData},
		{"a value too many", api.Data{{row(1, 2)}, nil, nil}, api.ErrData},
		{"a value too few", api.Data{nil, {row(1)}, nil}, api.ErrData},
		{"a value too few of a table that no leaf has", api.Data{nil, nil, {row(1, 2, 3)}}, api.ErrData},
		{"five values", api.Data{nil, nil, {row(1, 2, 3, 4, 5)}}, api.ErrData},
		{"the last row wrong", api.Data{append(rows(999, row(1)), row(1, 2)), nil, nil}, api.ErrData},
		{"a null with a number", api.Data{{{{Null: true, N: 1}}}, nil, nil}, api.ErrData},
		{"a null with a number at the end", api.Data{nil, nil, {row(1, 2, 3, 4), {null, null, null, {Null: true, N: -1}}}}, api.ErrData},
		{"rows of another table", api.Data{{row(1, 2)}, {row(1)}, nil}, api.ErrData},
	} {
		if got := check.Data(q, c.d); got != c.want {
			t.Errorf("%s: %d, not %d", c.name, got, c.want)
		}
	}
}

// The error of a query is told, whatever the data are.
func TestDataOfWrongQueries(t *testing.T) {
	for _, c := range formed {
		q := api.Query{Cols: cols(4, 2), Root: c.root}
		if got := check.Data(q, make(api.Data, 4)); got != c.want {
			t.Errorf("%s: %d, not %d", c.name, got, c.want)
		}
		want := c.want
		if want == api.OK {
			want = api.ErrData
		}
		for _, d := range []api.Data{nil, make(api.Data, 5), {{{}}, nil, nil, nil}} {
			if got := check.Data(q, d); got != want {
				t.Errorf("%s, of wrong data: %d, not %d", c.name, got, want)
			}
		}
	}
	for _, c := range []struct {
		cols []int
		want api.Errno
	}{{cols(65, 1), api.ErrLong}, {[]int{0}, api.ErrCols}, {nil, api.ErrTable}, {[]int{5}, api.ErrCols}} {
		if got := check.Data(api.Query{Cols: c.cols}, make(api.Data, len(c.cols))); got != c.want {
			t.Errorf("of the Cols %v: %d, not %d", c.cols, got, c.want)
		}
	}
}

func TestDataBySlowTwin(t *testing.T) {
	told := map[api.Errno]int{}
	d := dice{sample.New(13)}
	for n := range 20000 {
		q := d.Query(3)
		var data api.Data
		for i := range len(q.Cols) + d.Below(40)/39 {
			var rows []api.Row
			for range d.Below(4) {
				r := make(api.Row, q.Cols[min(i, len(q.Cols)-1)]+d.Below(40)/39)
				for at := range r {
					r[at] = []api.Value{{}, {N: 5}, {Null: true}}[d.Below(3)]
				}
				if d.Below(30) == 0 {
					r[0] = api.Value{Null: true, N: int64(d.Below(2))}
				}
				rows = append(rows, r)
			}
			data = append(data, rows)
		}
		want := slowData(q, data)
		told[want]++
		if got := check.Data(q, data); got != want {
			t.Fatalf("the data %d: %d, not %d: %v %v", n, got, want, q, data)
		}
	}
	if told[api.OK] < 5000 || told[api.ErrData] < 2000 {
		t.Errorf("told: %v", told)
	}
}

// P11.3

func TestWithinRightQueries(t *testing.T) {
	for i, q := range some() {
		for part := range tree.Walk(q.Root) {
			if x := (api.Query{Cols: q.Cols, Root: part}); check.Query(x) != api.OK || !check.Right(x) {
				t.Errorf("within the query %d: %v", i, part)
			}
		}
	}
	full := chain(64, 1)
	full.Conj = append(full.Conj, full.Conj[0])
	for part := range tree.Walk(full) {
		if !check.Right(api.Query{Cols: cols(64, 1), Root: part}) {
			t.Errorf("within the full one: %v", part)
		}
	}
}

// All of the package

func TestLeavesWhatIsHandedIn(t *testing.T) {
	d := dice{sample.New(14)}
	for i, q := range append(some(), api.Query{Cols: cols(5, 1), Root: d.wild(3)}, api.Query{Cols: cols(5, 1), Root: d.wild(4)}) {
		data := make(api.Data, len(q.Cols))
		for at, n := range q.Cols {
			data[at] = []api.Row{make(api.Row, n, n+1)}
		}
		q.Cols = append(q.Cols, 77)[:len(q.Cols)]
		q.Root.Conj = append(q.Root.Conj, api.Pred{Kind: 77})[:len(q.Root.Conj)]
		open := func() []any {
			var rows []api.Row
			for _, l := range data {
				rows = append(rows, slices.Clone(l[0][:cap(l[0])]))
			}
			return []any{slices.Clone(q.Cols[:cap(q.Cols)]), tree.Copy(q.Root), slices.Clone(q.Root.Conj[:cap(q.Root.Conj)]), rows}
		}
		before := open()
		check.Query(q)
		check.Right(q)
		check.Data(q, data)
		if !reflect.DeepEqual(open(), before) {
			t.Errorf("the query %d is changed", i)
		}
	}
}

// many is how many parts may be nested in one another.
const many = 1 << 16

// nested tells n operators in one another, at this place of their Kids.
func nested(kind, n, at int, conj ...api.Pred) api.Tree {
	t := leaf(0)
	for range n {
		kids := []api.Tree{leaf(0), leaf(0)}
		kids[at] = t
		t = api.Tree{Kind: kind, Kids: kids, Conj: conj}
	}
	return t
}

func TestGreatQueries(t *testing.T) {
	single := leaf(0)
	for range many {
		single = api.Tree{Kind: api.Inner, Kids: []api.Tree{single}, Conj: []api.Pred{same(0, 0)}}
	}
	leaves := leaf(0)
	for range many {
		leaves = api.Tree{Kids: []api.Tree{leaves}}
	}
	deep := same(0, 1)
	for range many {
		deep = not(deep)
	}
	for _, c := range []struct {
		name string
		root api.Tree
		want api.Errno
	}{
		{"left deep", nested(api.Left, many, 0, same(0, 0)), api.ErrTwice},
		{"right deep", nested(api.Inner, many, 1, same(0, 0)), api.ErrTwice},
		{"left deep, of no kind", nested(9, many, 0, same(0, 0)), api.ErrTwice},
		{"right deep, without Conj", nested(api.Inner, many, 1), api.ErrTwice},
		{"one Kid each", single, api.ErrKids},
		{"leaves in leaves", leaves, api.ErrKids},
		{"wide", api.Tree{Kind: api.Inner, Kids: slices.Repeat([]api.Tree{leaf(0)}, many)}, api.ErrTwice},
		{"wide, of no table", api.Tree{Kind: api.Inner, Kids: slices.Repeat([]api.Tree{leaf(9)}, many)}, api.ErrTable},
		{"many Conj", on(api.Inner, leaf(0), leaf(1), times(many, same(0, 1))...), api.ErrConj},
		{"a deep conjunct", on(api.Inner, leaf(0), leaf(1), deep), api.ErrPred},
		{"a wide conjunct", on(api.Inner, leaf(0), leaf(1), or(times(many, same(0, 1))...)), api.ErrPred},
	} {
		hold(t, c.name, api.Query{Cols: cols(2, 1), Root: c.root}, c.want)
	}
	q := api.Query{Cols: cols(1, 1)}
	if got := check.Data(q, api.Data{slices.Repeat([]api.Row{row(1)}, 1<<20)}); got != api.ErrData {
		t.Errorf("a great list of rows: %d", got)
	}
	if got := check.Data(q, make(api.Data, 1<<20)); got != api.ErrData {
		t.Errorf("a great many lists: %d", got)
	}
	if got := check.Data(q, api.Data{{make(api.Row, 1<<20)}}); got != api.ErrData {
		t.Errorf("a great row: %d", got)
	}
}

func TestExamples(t *testing.T) {
	hold(t, "no Cols, and a leaf", api.Query{Root: leaf(0)}, api.ErrTable)
	hold(t, "a join of 0 with 0", api.Query{Cols: []int{1}, Root: on(api.Inner, leaf(0), leaf(0), same(0, 0))}, api.ErrTwice)
}
