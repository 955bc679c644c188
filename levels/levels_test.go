package levels_test

import (
	"fmt"
	"math"
	"slices"
	"strings"
	"testing"

	"watersmeet/api"
	"watersmeet/check"
	"watersmeet/levels"
	"watersmeet/pred"
	"watersmeet/sample"
	"watersmeet/sets"
	"watersmeet/text"
	"watersmeet/tree"
)

// full tells columns of 64 tables, as many as there may be.
func full() []int {
	return slices.Repeat([]int{api.MaxCols}, api.MaxTables)
}

// preds tells the texts of predicates.
func preds(l ...api.Pred) string {
	var all []string
	for _, p := range l {
		s, _ := text.Pred(p)
		all = append(all, s)
	}
	return strings.Join(all, ";")
}

// told tells all that l has: the joins, and then the ops, each with the tables on either side of a stroke.
func told(l levels.Levels) []string {
	var all []string
	for _, j := range l.Joins {
		all = append(all, fmt.Sprintf("%s %v|%v at %d", preds(j.Pred), sets.List(j.Left), sets.List(j.Right), j.Home))
	}
	for _, o := range l.Ops {
		all = append(all, fmt.Sprintf("%d %s %v|%v of %v at %d", o.Kind, preds(o.Conj...), sets.List(o.Left), sets.List(o.Right), sets.List(o.Own), o.Home))
	}
	return all
}

// stands is a tree within another one, and the way down to it: the places among the Kids.
type stands struct {
	api.Tree
	way []int
}

// tour tells the trees within t in the order of Walk.
func tour(t api.Tree, way []int) []stands {
	var l []stands
	for i, kid := range t.Kids {
		l = append(l, tour(kid, append(slices.Clone(way), i))...)
	}
	return append(l, stands{t, way})
}

// named tells the tables of t that some of these predicates name.
func named(l []api.Pred, t api.Tree) uint64 {
	s := uint64(0)
	for _, p := range l {
		for _, c := range pred.Columns(p) {
			if sets.Has(tree.Tables(t), c[0]) {
				s |= sets.Of(c[0])
			}
		}
	}
	return s
}

// slowOf is a twin of Of, by the words of the chapter.
func slowOf(t api.Tree) levels.Levels {
	var ops []stands
	all := tour(t, nil)
	for _, part := range all {
		if part.Kind != api.Leaf && part.Kind != api.Inner {
			ops = append(ops, part)
		}
	}
	home := func(part stands) int {
		found, fewest := -1, 65
		for i, o := range ops {
			second := append(slices.Clone(o.way), 1)
			if n := sets.Count(tree.Tables(o.Kids[1])); len(part.way) >= len(second) && slices.Equal(part.way[:len(second)], second) && n < fewest {
				found, fewest = i, n
			}
		}
		return found
	}
	var l levels.Levels
	for _, part := range all {
		switch part.Kind {
		case api.Leaf:
		case api.Inner:
			for _, p := range part.Conj {
				l.Joins = append(l.Joins, levels.Join{Pred: p, Left: named([]api.Pred{p}, part.Kids[0]), Right: named([]api.Pred{p}, part.Kids[1]), Home: home(part)})
			}
		default:
			l.Ops = append(l.Ops, levels.Op{Kind: part.Kind, Conj: part.Conj, Left: named(part.Conj, part.Kids[0]), Right: named(part.Conj, part.Kids[1]), Own: tree.Tables(part.Kids[1]), Home: home(part)})
		}
	}
	return l
}

// queries tells so many right queries of so many tables at most.
func queries(seed uint64, n, tables int) []api.Query {
	dice := sample.New(seed)
	var l []api.Query
	for len(l) < n {
		// Of many tables some have more conjuncts than there may be.
		if q := dice.Query(tables); check.Right(q) {
			l = append(l, q)
		}
	}
	return l
}

// P18.1: Of

func TestOf(t *testing.T) {
	for text, want := range map[string][]string{
		"0":               nil,
		"63":              nil,
		"(0⋈[=0.0,1.0]1)": {"=0.0,1.0 [0]|[1] at -1"},
		"(0⟕[=0.0,1.0]1)": {"2 =0.0,1.0 [0]|[1] of [1] at -1"},
		"(0⋉[=0.0,1.0]1)": {"3 =0.0,1.0 [0]|[1] of [1] at -1"},
		"(0▷[=0.0,1.0]1)": {"4 =0.0,1.0 [0]|[1] of [1] at -1"},
		// Hash and the order of the Kids' tables are of no matter.
		"(1⋈#[=0.0,1.0]0)":    {"=0.0,1.0 [1]|[0] at -1"},
		"(1▷#[=0.0,1.0]0)":    {"4 =0.0,1.0 [1]|[0] of [0] at -1"},
		"(63⟕[=0.3,63.3]0)":   {"2 =0.3,63.3 [63]|[0] of [0] at -1"},
		"(0⋉[=0.0,63.3]63)":   {"3 =0.0,63.3 [0]|[63] of [63] at -1"},
		"(63⋈[=63.3,62.0]62)": {"=63.3,62.0 [63]|[62] at -1"},
		// Each conjunct of an Inner is a join, one that comes again, too; those of an op stay together.
		"(0⋈[=0.0,1.0;<1.1,0.2;=0.0,1.0]1)": {"=0.0,1.0 [0]|[1] at -1", "<1.1,0.2 [0]|[1] at -1", "=0.0,1.0 [0]|[1] at -1"},
		"(0⟕[=0.0,1.0;<1.1,0.2;=0.0,1.0]1)": {"2 =0.0,1.0;<1.1,0.2;=0.0,1.0 [0]|[1] of [1] at -1"},
		// Inners in the order of the tour.
		"((0⋈[=0.0,1.0]1)⋈[=1.0,2.0](2⋈[=2.0,3.0]3))": {"=0.0,1.0 [0]|[1] at -1", "=2.0,3.0 [2]|[3] at -1", "=1.0,2.0 [1]|[2] at -1"},
		// What is named is told of each join, and of an op's conjuncts together, part by part.
		"((0⋈[=0.0,1.0]1)⋈[∧(=0.0,2.0;∅1.0);∨(=1.0,2.0;¬∧(=3.0,3.1;<2.0,3.0));=3.0,0.0](2⋈[=2.0,3.0]3))": {
			"=0.0,1.0 [0]|[1] at -1", "=2.0,3.0 [2]|[3] at -1",
			"∧(=0.0,2.0;∅1.0) [0 1]|[2] at -1", "∨(=1.0,2.0;¬∧(=3.0,3.1;<2.0,3.0)) [1]|[2 3] at -1", "=3.0,0.0 [0]|[3] at -1",
		},
		"((0⋈[=0.0,1.0]1)▷[∧(=0.0,2.0;∅1.0);∨(=1.0,2.0;¬∧(=3.0,3.1;<2.0,3.0));=3.0,0.0](2⋈[=2.0,3.0]3))": {
			"=0.0,1.0 [0]|[1] at -1", "=2.0,3.0 [2]|[3] at 0",
			"4 ∧(=0.0,2.0;∅1.0);∨(=1.0,2.0;¬∧(=3.0,3.1;<2.0,3.0));=3.0,0.0 [0 1]|[2 3] of [2 3] at -1",
		},
		"((0⋈[=0.0,1.0]1)⟕[=2.0,1.0](2⋈[=2.0,3.0]3))": {"=0.0,1.0 [0]|[1] at -1", "=2.0,3.0 [2]|[3] at 0", "2 =2.0,1.0 [1]|[2] of [2 3] at -1"},
		// Own has the hidden tables, too.
		"(0⟕[=0.0,1.0](1▷[=1.0,2.0]2))": {"4 =1.0,2.0 [1]|[2] of [2] at 1", "2 =0.0,1.0 [0]|[1] of [1 2] at -1"},
		"(0⋉[=0.0,1.0](1⋉[=1.0,2.0]2))": {"3 =1.0,2.0 [1]|[2] of [2] at 1", "3 =0.0,1.0 [0]|[1] of [1 2] at -1"},
		// The home is the innermost op: an Inner is none, and who stands on the left of one is not in it.
		"((0⟕[=0.0,1.0]1)⟕[=1.0,2.0]2)": {"2 =0.0,1.0 [0]|[1] of [1] at -1", "2 =1.0,2.0 [1]|[2] of [2] at -1"},
		"((0⟕[=0.0,1.0]1)⋈[=1.0,2.0]2)": {"=1.0,2.0 [1]|[2] at -1", "2 =0.0,1.0 [0]|[1] of [1] at -1"},
		"(0⋈[=0.0,1.0](1⟕[=1.0,2.0]2))": {"=0.0,1.0 [0]|[1] at -1", "2 =1.0,2.0 [1]|[2] of [2] at -1"},
		"(0⟕[=0.0,1.0](1⟕[=1.0,2.0](2⟕[=2.0,3.0](3⋈[=3.0,4.0]4))))": {
			"=3.0,4.0 [3]|[4] at 0", "2 =2.0,3.0 [2]|[3] of [3 4] at 1", "2 =1.0,2.0 [1]|[2] of [2 3 4] at 2", "2 =0.0,1.0 [0]|[1] of [1 2 3 4] at -1",
		},
		"(0⟕[=0.0,1.0](1⋈[=1.0,2.0](2⋉[=2.0,3.0](3⋈[=3.0,4.0]4))))": {
			"=3.0,4.0 [3]|[4] at 0", "=1.0,2.0 [1]|[2] at 1", "3 =2.0,3.0 [2]|[3] of [3 4] at 1", "2 =0.0,1.0 [0]|[1] of [1 2 3 4] at -1",
		},
		"(0▷[=0.0,1.0]((1⟕[=1.0,2.0]2)⋉[=1.0,3.0](3⋈[=3.0,4.0]4)))": {
			"=3.0,4.0 [3]|[4] at 1", "2 =1.0,2.0 [1]|[2] of [2] at 2", "3 =1.0,3.0 [1]|[3] of [3 4] at 2", "4 =0.0,1.0 [0]|[1] of [1 2 3 4] at -1",
		},
		"((0⟕[=0.0,1.0](1⋈[=1.0,2.0]2))⟕[=1.0,3.0]((3⋈[=3.0,4.0]4)⟕[=3.0,5.0](5⋈[=5.0,6.0]6)))": {
			"=1.0,2.0 [1]|[2] at 0", "=3.0,4.0 [3]|[4] at 2", "=5.0,6.0 [5]|[6] at 1",
			"2 =0.0,1.0 [0]|[1] of [1 2] at -1", "2 =3.0,5.0 [3]|[5] of [5 6] at 2", "2 =1.0,3.0 [1]|[3] of [3 4 5 6] at -1",
		},
		"((0⋉[=0.0,1.0](1⟕[=1.0,2.0]2))⋈[=0.0,3.0](3▷[=3.0,4.0]((4⟕[=4.0,5.0]5)⋈[=5.0,6.0]6)))": {
			"=5.0,6.0 [5]|[6] at 3", "=0.0,3.0 [0]|[3] at -1",
			"2 =1.0,2.0 [1]|[2] of [2] at 1", "3 =0.0,1.0 [0]|[1] of [1 2] at -1", "2 =4.0,5.0 [4]|[5] of [5] at 3", "4 =3.0,4.0 [3]|[4] of [4 5 6] at -1",
		},
	} {
		x := sample.Parse(text)
		if errno := check.Query(api.Query{Cols: full(), Root: x}); errno != api.OK {
			t.Errorf("%s: %v", text, errno)
		}
		if got := told(levels.Of(x)); !slices.Equal(got, want) {
			t.Errorf("%s: %q, not %q", text, got, want)
		}
	}
}

func TestOfBySlowTwin(t *testing.T) {
	kinds, joins, ops, deep := map[int]int{}, 0, 0, 0
	for _, q := range append(queries(1, 3000, 7), queries(2, 1000, 50)...) {
		got, want := levels.Of(q.Root), slowOf(q.Root)
		if !slices.Equal(told(got), told(want)) {
			t.Fatalf("%v: %q, not %q", q.Root, told(got), told(want))
		}
		joins, ops = max(joins, len(got.Joins)), max(ops, len(got.Ops))
		for i, o := range got.Ops {
			kinds[o.Kind]++
			n := 0
			for range got.Ops {
				if i != -1 {
					i = got.Ops[i].Home
					n++
				}
			}
			deep = max(deep, n)
		}
	}
	if len(kinds) != 3 || joins < 15 || ops < 30 || deep < 8 {
		t.Error(kinds, joins, ops, deep)
	}
}

// along tells an operator on 64 tables, each the second one, or the first one, of the Kids.
func along(kinds []int, second bool) api.Tree {
	at := map[bool]int{false: 0, true: api.MaxTables - 1}[second]
	x := api.Tree{Table: at}
	for i := range api.MaxTables - 1 {
		next := i + 1
		if second {
			next = api.MaxTables - 2 - i
		}
		// Semi and Anti hide their right: what stays to be seen is the least table of the tree on the left, and what joins is that.
		p := api.Pred{Kind: api.PredCmp, Op: api.Eq, A: api.Term{Kind: api.TermCol, Table: sets.Min(tree.Seen(x))}, B: api.Term{Kind: api.TermCol, Table: next}}
		kids := []api.Tree{x, {Table: next}}
		if second {
			slices.Reverse(kids)
		}
		x = api.Tree{Kind: kinds[i%len(kinds)], Kids: kids, Conj: []api.Pred{p}}
	}
	return x
}

// As many tables as there may be, nested on the left and on the right.
func TestOfTheGreatest(t *testing.T) {
	for _, kinds := range [][]int{{api.Inner}, {api.Left}, {api.Semi}, {api.Anti}, {api.Inner, api.Left}, {api.Left, api.Inner, api.Anti, api.Semi, api.Left}} {
		for _, second := range []bool{false, true} {
			x := along(kinds, second)
			if errno := check.Query(api.Query{Cols: full(), Root: x}); errno != api.OK {
				t.Fatalf("%v, %t: %v", kinds, second, errno)
			}
			l := levels.Of(x)
			if !slices.Equal(told(l), told(slowOf(x))) {
				t.Errorf("%v, %t: %q", kinds, second, told(l))
			}
			if len(l.Joins)+len(l.Ops) != api.MaxTables-1 {
				t.Errorf("%v, %t: %d joins, %d ops", kinds, second, len(l.Joins), len(l.Ops))
			}
		}
	}
	// On the left each op has no home; on the right that of the next one, and Own grows to all tables but the first.
	for i, o := range levels.Of(along([]int{api.Left}, false)).Ops {
		if o.Home != -1 || o.Own != sets.Of(i+1) {
			t.Error(i, o)
		}
	}
	for i, o := range levels.Of(along([]int{api.Left}, true)).Ops {
		home := i + 1
		if i == api.MaxTables-2 {
			home = -1
		}
		if o.Home != home || o.Own != ^sets.Below(api.MaxTables-2-i) {
			t.Error(i, o)
		}
	}
}

// Of trees that are not right nothing is promised but that it ends.
func TestOfWrongTrees(t *testing.T) {
	dice := sample.New(3)
	for range 20000 {
		l := levels.Of(dice.Wild(5))
		levels.Same(l, l)
		for i := range len(l.Ops) + 2 {
			levels.Within(l, i-1, dice.Below(len(l.Ops)+2)-1)
		}
	}
	x := sample.Parse("((0⟕[=0.0,1.0](1⋈[=1.0,2.0]2))⟕[=1.0,3.0](3▷[=3.0,4.0]4))")
	for at := range sample.Within(&x) {
		for _, n := range sample.Wide() {
			y := tree.Copy(x)
			sample.Within(&y)[at].Kind = n
			levels.Of(y)
			y = tree.Copy(x)
			sample.Within(&y)[at].Table = n
			levels.Of(y)
		}
		for kids := range 4 {
			y := tree.Copy(x)
			sample.Within(&y)[at].Kids = slices.Repeat([]api.Tree{x}, kids)
			levels.Of(y)
		}
	}
}

// P18.2: Within

// chain tells Levels of ops with these homes.
func chain(homes ...int) levels.Levels {
	var l levels.Levels
	for i, home := range homes {
		l.Ops = append(l.Ops, levels.Op{Kind: api.Left, Own: sets.Of(i), Home: home})
	}
	return l
}

// around tells the homes of the op i, from the innermost one on, -1 last; none, if there is no such op.
func around(l levels.Levels, i int) []int {
	var found []int
	for 0 <= i && i < len(l.Ops) {
		i = l.Ops[i].Home
		found = append(found, i)
	}
	return found
}

// holdWithin fails unless Within tells of each two numbers what the ways from home to home are.
func holdWithin(t *testing.T, l levels.Levels) {
	t.Helper()
	numbers := sample.Wide()
	for i := range len(l.Ops) {
		numbers = append(numbers, i)
	}
	for _, i := range numbers {
		for _, home := range numbers {
			if got, want := levels.Within(l, i, home), slices.Contains(around(l, i), home); got != want {
				t.Fatalf("%d within %d of %q: %t", i, home, told(l), got)
			}
		}
	}
}

func TestWithin(t *testing.T) {
	// 0 in 2, 2 in 4, 4 in none; 1 in 4; 3 in none.
	l := chain(2, 4, 4, -1, -1)
	for i, want := range [][]int{{-1, 2, 4}, {-1, 4}, {-1, 4}, {-1}, {-1}} {
		for home := -4; home < 9; home++ {
			if got := levels.Within(l, i, home); got != slices.Contains(want, home) {
				t.Errorf("%d within %d: %t", i, home, got)
			}
		}
	}
	for _, i := range []int{math.MinInt, -2, -1, 5, 6, 1 << 32, math.MaxInt} {
		for home := -2; home < 9; home++ {
			if levels.Within(l, i, home) || levels.Within(l, i, i) || levels.Within(levels.Levels{}, i, home) {
				t.Errorf("%d is within %d", i, home)
			}
		}
	}
	// Ops are in their homes, whatever the order of their numbers is.
	for _, homes := range [][]int{{-1}, {1, -1}, {-1, 0}, {1, 2, -1}, {2, 0, -1}, {-1, 0, 1}, {-1, 2, 0}, {1, -1, 1}, {-1, -1, -1}, {3, 3, 3, -1}, {4, 0, 1, -1, 3}} {
		holdWithin(t, chain(homes...))
	}
}

func TestWithinBySlowTwin(t *testing.T) {
	for _, q := range append(queries(4, 400, 8), queries(5, 60, 50)...) {
		holdWithin(t, levels.Of(q.Root))
	}
	holdWithin(t, levels.Of(along([]int{api.Left}, true)))
}

// Homes that lead round, or to no op, have an end, too.
func TestWithinOfWrongLevels(t *testing.T) {
	for _, homes := range [][]int{{0}, {1, 0}, {1, 2, 0}, {1, 1}, {1, 2, 1}, {7}, {-2}, {-7, 0}, {math.MaxInt, math.MinInt}, {1, 1 << 32}} {
		l := chain(homes...)
		for i := range len(homes) + 2 {
			for _, home := range append(sample.Wide(), homes...) {
				levels.Within(l, i-1, home)
			}
		}
	}
	if levels.Within(chain(0), 0, -1) || levels.Within(chain(1, 2, 0), 0, -1) {
		t.Error("what leads round leads to no op")
	}
}

// P18.2: Same

// copied tells l in new memory.
func copied(l levels.Levels) levels.Levels {
	var c levels.Levels
	for _, j := range l.Joins {
		j.Pred = pred.Copy(j.Pred)
		c.Joins = append(c.Joins, j)
	}
	for _, o := range l.Ops {
		conj := o.Conj
		o.Conj = nil
		for _, p := range conj {
			o.Conj = append(o.Conj, pred.Copy(p))
		}
		c.Ops = append(c.Ops, o)
	}
	return c
}

// renumbered tells l with its joins and ops in other places.
func renumbered(dice *sample.Dice, l levels.Levels) levels.Levels {
	var c levels.Levels
	to := map[int]int{-1: -1}
	order := dice.Shuffled(len(l.Ops))
	for at, i := range order {
		to[i] = at
	}
	for _, i := range order {
		o := l.Ops[i]
		o.Home = to[o.Home]
		c.Ops = append(c.Ops, o)
	}
	for _, i := range dice.Shuffled(len(l.Joins)) {
		j := l.Joins[i]
		j.Home = to[j.Home]
		c.Joins = append(c.Joins, j)
	}
	return c
}

// sunk tells l with one of the ops, if there is one, in another one of the same home, whose Own has its Own, too.
func sunk(dice *sample.Dice, l levels.Levels) levels.Levels {
	l = copied(l)
	for range 20 {
		if n := len(l.Ops); n > 0 {
			i, into := dice.Below(n), dice.Below(n)
			if i != into && l.Ops[i].Home == l.Ops[into].Home {
				l.Ops[i].Home = into
				l.Ops[into].Own |= l.Ops[i].Own
				return l
			}
		}
	}
	return l
}

// keys tells what counts of each op, and of each join, as texts, rising.
func keys(l levels.Levels) (ops, joins []string) {
	own := func(home int) uint64 {
		if home == -1 {
			return 0
		}
		return l.Ops[home].Own
	}
	for _, o := range l.Ops {
		ops = append(ops, fmt.Sprintf("%d %+v %d %d", o.Kind, o.Conj, o.Own, own(o.Home)))
	}
	for _, j := range l.Joins {
		joins = append(joins, fmt.Sprintf("%+v %d", j.Pred, own(j.Home)))
	}
	slices.Sort(ops)
	slices.Sort(joins)
	return ops, joins
}

// slowSame is a twin of Same: of Levels as they come no two ops have the same Own, so each has one of its own in the other one.
func slowSame(a, b levels.Levels) bool {
	ops, joins := keys(a)
	others, rest := keys(b)
	return slices.Equal(ops, others) && slices.Equal(joins, rest)
}

// holdSame fails unless Same tells so of both, either way round.
func holdSame(t *testing.T, name string, a, b levels.Levels, want bool) {
	t.Helper()
	if levels.Same(a, b) != want || levels.Same(b, a) != want {
		t.Fatalf("%s: %q and %q: %t, %t", name, told(a), told(b), levels.Same(a, b), levels.Same(b, a))
	}
}

func cmp(op, a, b int) api.Pred {
	return api.Pred{Kind: api.PredCmp, Op: op, A: api.Term{Kind: api.TermCol, Table: a}, B: api.Term{Kind: api.TermCol, Table: b}}
}

// some are Levels with three joins, of which two are the same, and four ops.
func some() levels.Levels {
	p, q, r := cmp(api.Eq, 0, 6), cmp(api.Eq, 1, 2), cmp(api.Lt, 3, 4)
	return levels.Levels{
		Joins: []levels.Join{{p, 1, 64, -1}, {q, 2, 4, 3}, {p, 1, 64, -1}, {r, 8, 16, 1}},
		Ops: []levels.Op{
			{api.Left, []api.Pred{q, r}, 1, 2, 32, 3},
			{api.Left, []api.Pred{p}, 1, 8, 24, 3},
			{api.Semi, []api.Pred{q, r, p}, 1, 128, 128, -1},
			{api.Anti, []api.Pred{r, q}, 1, 2, 62, -1},
		},
	}
}

// Each thing that counts, changed alone.
func TestSameButForOne(t *testing.T) {
	p, q := cmp(api.Eq, 0, 6), cmp(api.Eq, 1, 2)
	deep := cmp(api.Eq, 0, 6)
	deep.Parts = []api.Pred{{}}
	for name, change := range map[string]func(l *levels.Levels){
		"a join more":            func(l *levels.Levels) { l.Joins = append(l.Joins, l.Joins[0]) },
		"a join less":            func(l *levels.Levels) { l.Joins = l.Joins[1:] },
		"no join":                func(l *levels.Levels) { l.Joins = nil },
		"another Pred":           func(l *levels.Levels) { l.Joins[0].Pred = cmp(api.Eq, 0, 7) },
		"another Op":             func(l *levels.Levels) { l.Joins[0].Pred.Op = api.Ne },
		"turned":                 func(l *levels.Levels) { l.Joins[1].Pred = cmp(api.Eq, 2, 1) },
		"with Parts":             func(l *levels.Levels) { l.Joins[2].Pred = deep },
		"the other one twice":    func(l *levels.Levels) { l.Joins[0].Pred, l.Joins[0].Home = q, 3 },
		"another home of a join": func(l *levels.Levels) { l.Joins[0].Home = 2 },
		"homes changed about":    func(l *levels.Levels) { l.Joins[1].Home, l.Joins[3].Home = 1, 3 },
		"no home of a join":      func(l *levels.Levels) { l.Joins[1].Home = -1 },
		"an op more": func(l *levels.Levels) {
			l.Ops = append(l.Ops, levels.Op{Kind: 2, Conj: []api.Pred{p}, Own: 256, Home: -1})
		},
		"an op less": func(l *levels.Levels) { l.Ops = append(l.Ops[:2], levels.Op{}) },
		"one op less": func(l *levels.Levels) {
			l.Ops = slices.Delete(l.Ops, 2, 3)
			l.Joins[1].Home = 2
			l.Ops[0].Home, l.Ops[1].Home = 2, 2
		},
		"another Kind":              func(l *levels.Levels) { l.Ops[0].Kind = api.Anti },
		"Kinds changed about":       func(l *levels.Levels) { l.Ops[2].Kind, l.Ops[3].Kind = api.Anti, api.Semi },
		"a great Kind":              func(l *levels.Levels) { l.Ops[1].Kind = api.Left + 1<<32 },
		"one of the Conj less":      func(l *levels.Levels) { l.Ops[2].Conj = l.Ops[2].Conj[:2] },
		"one of the Conj more":      func(l *levels.Levels) { l.Ops[1].Conj = append(l.Ops[1].Conj, p) },
		"another one of the Conj":   func(l *levels.Levels) { l.Ops[2].Conj[2] = q },
		"Conj the other way round":  func(l *levels.Levels) { slices.Reverse(l.Ops[0].Conj) },
		"no Conj":                   func(l *levels.Levels) { l.Ops[1].Conj = nil },
		"another Own":               func(l *levels.Levels) { l.Ops[2].Own = 256 },
		"another Own of a home":     func(l *levels.Levels) { l.Ops[3].Own |= 256 },
		"a greater Own":             func(l *levels.Levels) { l.Ops[2].Own |= 1 << 63 },
		"another home of an op":     func(l *levels.Levels) { l.Ops[0].Home = 2 },
		"one home for another":      func(l *levels.Levels) { l.Ops[0].Home = 1 },
		"no home of an op":          func(l *levels.Levels) { l.Ops[1].Home = -1 },
		"a home of an op that none": func(l *levels.Levels) { l.Ops[2].Home = 3 },
	} {
		l := some()
		change(&l)
		holdSame(t, name, some(), l, false)
		holdSame(t, name, l, l, true)
	}
	// The same tables, conjuncts and homes, but put together in another way.
	a, b := some(), some()
	a.Ops[0].Conj, b.Ops[1].Conj = b.Ops[1].Conj, a.Ops[0].Conj
	holdSame(t, "Conj changed about", some(), a, false)
	holdSame(t, "Conj changed about, too", some(), b, false)
}

// What does not count: numbers, the order of joins and of ops, and the tables on either side.
func TestSameButForWhatDoesNotCount(t *testing.T) {
	dice := sample.New(6)
	for range 200 {
		l := renumbered(dice, copied(some()))
		holdSame(t, "renumbered", some(), l, true)
		for i := range l.Joins {
			l.Joins[i].Left, l.Joins[i].Right = uint64(dice.Below(9)), uint64(dice.Below(9))
		}
		for i := range l.Ops {
			l.Ops[i].Left, l.Ops[i].Right = uint64(dice.Below(9)), uint64(dice.Below(9))
		}
		holdSame(t, "with other tables on either side", some(), l, true)
	}
	holdSame(t, "nothing", levels.Levels{}, levels.Levels{Joins: []levels.Join{}, Ops: []levels.Op{}}, true)
	holdSame(t, "nothing and something", levels.Levels{}, some(), false)
	a, b := chain(-1), chain(-1)
	a.Ops[0].Conj, b.Ops[0].Conj = nil, []api.Pred{}
	holdSame(t, "no conjuncts", a, b, true)
	a.Joins, b.Joins = []levels.Join{{Pred: api.Pred{Kind: 4}, Home: -1}}, []levels.Join{{Pred: api.Pred{Kind: 4, Parts: []api.Pred{}}, Home: -1}}
	holdSame(t, "no Parts", a, b, true)
}

// Trees whose operators stand in another order have the same levels, unless one of them comes into the right of an op, or out of it.
func TestSameOfTrees(t *testing.T) {
	for from, c := range map[string]struct {
		to   string
		same bool
	}{
		"(0⋈[=0.0,1.0]1)":               {"(1⋈#[=0.0,1.0]0)", true},
		"((0⋈[=0.0,1.0]1)⟕[=1.0,2.0]2)": {"(0⋈[=0.0,1.0](1⟕[=1.0,2.0]2))", true},
		"((0⟕[=0.0,1.0]1)▷[=0.0,2.0]2)": {"((0▷[=0.0,2.0]2)⟕[=0.0,1.0]1)", true},
		"((0⟕[=0.0,1.0]1)⟕[=1.0,2.0]2)": {"(0⟕[=0.0,1.0](1⟕[=1.0,2.0]2))", false},
		"((0⟕[=0.0,1.0]1)⋈[=1.0,2.0]2)": {"(0⟕[=0.0,1.0](1⋈[=1.0,2.0]2))", false},
		"(0⟕[=0.0,1.0]1)":               {"(1⟕[=0.0,1.0]0)", false},
		"(0⟕[=0.0,1.0](1⋉[=1.0,2.0]2))": {"((0⟕[=0.0,1.0]1)⋉[=1.0,2.0]2)", false},
		"(0⋈[=0.0,1.0;=0.1,1.1]1)":      {"(1⋈[=0.1,1.1;=0.0,1.0]0)", true},
		"(0⟕[=0.0,1.0;=0.1,1.1]1)":      {"(0⟕[=0.1,1.1;=0.0,1.0]1)", false},
		"((0⋈[=0.0,1.0]1)⋈[=1.0,2.0]2)": {"(0⋈[=0.0,1.0](1⋈[=2.0,1.0]2))", false},
	} {
		a, b := levels.Of(sample.Parse(from)), levels.Of(sample.Parse(c.to))
		if levels.Same(a, b) != c.same || levels.Same(b, a) != c.same {
			t.Errorf("%s and %s: %q and %q", from, c.to, told(a), told(b))
		}
	}
}

// How often a join comes counts, whatever the others are.
func TestSameOfTimes(t *testing.T) {
	l := []api.Pred{cmp(api.Eq, 0, 1), cmp(api.Eq, 0, 2), cmp(api.Lt, 0, 1)}
	var all []levels.Levels
	var counts [][3]int
	for n := range 81 {
		x := levels.Levels{}
		c := [3]int{}
		for ; n > 0; n /= 3 {
			x.Joins = append(x.Joins, levels.Join{Pred: l[n%3], Home: -1})
			c[n%3]++
		}
		all, counts = append(all, x), append(counts, c)
	}
	for i, a := range all {
		for j, b := range all {
			if levels.Same(a, b) != (counts[i] == counts[j]) {
				t.Fatalf("%q and %q", told(a), told(b))
			}
		}
	}
}

// altered tells l with something that counts changed, or nothing.
func altered(dice *sample.Dice, l levels.Levels) levels.Levels {
	l = copied(l)
	if n := len(l.Joins); n > 0 {
		i, j := dice.Below(n), dice.Below(n)
		switch dice.Below(8) {
		case 0:
			l.Joins[i].Pred = l.Joins[j].Pred
		case 1:
			l.Joins[i].Home = l.Joins[j].Home
		case 2:
			l.Joins[i].Pred, l.Joins[j].Pred = l.Joins[j].Pred, l.Joins[i].Pred
		}
	}
	if n := len(l.Ops); n > 0 {
		i, j := dice.Below(n), dice.Below(n)
		switch dice.Below(8) {
		case 0:
			l.Ops[i].Kind = l.Ops[j].Kind
		case 1:
			l.Ops[i].Conj = l.Ops[j].Conj
		case 2:
			l.Ops[i].Own, l.Ops[j].Own = l.Ops[j].Own, l.Ops[i].Own
		case 3:
			l.Ops[i].Own |= 1 << dice.Below(8)
		}
	}
	return l
}

func TestSameBySlowTwin(t *testing.T) {
	dice := sample.New(7)
	found := map[bool]int{}
	last := levels.Levels{}
	for _, q := range append(queries(8, 3000, 7), queries(9, 200, 50)...) {
		l := levels.Of(q.Root)
		holdSame(t, "renumbered", l, renumbered(dice, l), true)
		down := sunk(dice, l)
		for _, pair := range [][2]levels.Levels{{l, last}, {l, down}, {down, renumbered(dice, down)}, {l, renumbered(dice, altered(dice, l))}, {down, renumbered(dice, altered(dice, down))}} {
			want := slowSame(pair[0], pair[1])
			// Ops with the same Own are not as Of tells them: there each one is looked for alone.
			if apart(pair[0]) && apart(pair[1]) {
				holdSame(t, "by its twin", pair[0], pair[1], want)
				found[want]++
			}
		}
		last = l
	}
	if found[false] < 3000 || found[true] < 3000 {
		t.Error(found)
	}
}

// apart tells whether no two ops have the same Own.
func apart(l levels.Levels) bool {
	seen := map[uint64]bool{}
	for _, o := range l.Ops {
		seen[o.Own] = true
	}
	return len(seen) == len(l.Ops)
}

// Homes of no op, or that lead round, have an end, too.
func TestSameOfWrongLevels(t *testing.T) {
	for _, home := range sample.Wide() {
		a, b := some(), some()
		a.Ops[0].Home, b.Joins[0].Home = home, home
		levels.Same(a, b)
		levels.Same(b, a)
		levels.Same(levels.Levels{Joins: a.Joins}, levels.Levels{Joins: b.Joins})
	}
	for _, homes := range [][]int{{0}, {1, 0}, {1, 2, 0}} {
		levels.Same(chain(homes...), chain(homes...))
	}
}

// The chapter's example

func TestExample(t *testing.T) {
	l := levels.Of(sample.Parse("(0⟕[=0.0,1.0](1⋈[=1.0,2.0]2))"))
	if len(l.Ops) != 1 || l.Ops[0].Home != -1 || l.Ops[0].Own != sets.Of(1, 2) || len(l.Joins) != 1 || l.Joins[0].Home != 0 {
		t.Error(told(l))
	}
}
