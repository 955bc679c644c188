package levels_test

import (
	"reflect"
	"slices"
	"testing"

	"watersmeet/api"
	"watersmeet/levels"
	"watersmeet/sample"
)

// What is handed in is neither changed nor kept. The conjuncts that Of tells might be the tree's own; they are new, too, so each list is.

// rich are trees whose conjuncts have parts, on all levels.
var rich = []string{
	"((0⋈[∧(=0.0,1.0;⊤);∨(=0.1,1.1;⊥);⊤]1)⟕[∧(=0.0,2.0;∨(⊤;⊥));⊤](2⋈[∧(=2.0,3.0;⊤)](3▷[∨(=3.0,4.0;?);=3.1,4.1]4)))",
	"(0⋉[∨(=0.0,1.0;⊥)](1⟕[∧(=1.0,2.0;⊤);∧(=1.1,2.1;⊥)](2⋈[=2.0,3.0;¬∧(=2.1,3.1;⊤)]3)))",
}

// lists tells all lists of conjuncts and of parts in l.
func lists(l levels.Levels) [][]api.Pred {
	var all [][]api.Pred
	var within func(preds []api.Pred)
	within = func(preds []api.Pred) {
		all = append(all, preds)
		for _, p := range preds {
			within(p.Parts)
		}
	}
	for _, j := range l.Joins {
		within(j.Pred.Parts)
	}
	for _, o := range l.Ops {
		within(o.Conj)
	}
	return all
}

func TestOfLeavesWhatIsHandedIn(t *testing.T) {
	var all []api.Tree
	for _, text := range rich {
		all = append(all, sample.Parse(text))
	}
	for _, q := range queries(13, 500, 7) {
		all = append(all, q.Root)
	}
	for _, x := range all {
		want := told(levels.Of(x))
		x = sample.Roomy(x)
		before := sample.Opened(x)
		l := levels.Of(x)
		for _, preds := range lists(l) {
			preds = preds[:cap(preds)]
			for i := range preds {
				preds[i] = api.Pred{Kind: 77}
			}
		}
		if !reflect.DeepEqual(sample.Opened(x), before) {
			t.Fatalf("%v is changed", x)
		}
		// What was told stays as it was, whatever is done to what was handed in.
		if l = levels.Of(x); !slices.Equal(told(l), want) {
			t.Fatalf("of %v something else is told when it is asked again", x)
		}
		sample.Spoil(x)
		if !slices.Equal(told(l), want) {
			t.Fatalf("%q is kept", want)
		}
	}
}

// No two lists of one answer share memory.
func TestOfSharesNothing(t *testing.T) {
	parts := []api.Pred{cmp(api.Eq, 0, 1), cmp(api.Eq, 1, 2)}
	shared := []api.Pred{{Kind: api.PredAnd, Parts: parts}, {Kind: api.PredOr, Parts: parts[:1]}}
	low := api.Tree{Kind: api.Left, Kids: []api.Tree{{}, {Table: 1}}, Conj: shared}
	all := []api.Tree{{Kind: api.Inner, Kids: []api.Tree{low, low}, Conj: shared}}
	for _, text := range rich {
		all = append(all, sample.Parse(text))
	}
	for _, x := range all {
		for i := range lists(levels.Of(x)) {
			all := lists(levels.Of(x))
			one := all[i][:cap(all[i])]
			for j := range one {
				one[j].Truth = 77
			}
			for at, other := range all {
				marked := slices.ContainsFunc(other[:cap(other)], func(p api.Pred) bool { return p.Truth == 77 })
				if at != i && marked {
					t.Fatalf("%v: the lists %d and %d share memory", x, i, at)
				}
			}
		}
	}
}

// open tells l in new memory, with what is in the rooms behind its lists as if it were in them.
func open(l levels.Levels) levels.Levels {
	l.Joins, l.Ops = slices.Clone(l.Joins[:cap(l.Joins)]), slices.Clone(l.Ops[:cap(l.Ops)])
	for i, j := range l.Joins {
		l.Joins[i].Pred = sample.Opened(api.Tree{Conj: []api.Pred{j.Pred}}).Conj[0]
	}
	for i, o := range l.Ops {
		l.Ops[i].Conj = sample.Opened(api.Tree{Conj: o.Conj}).Conj
	}
	return l
}

// roomed tells l with spare room behind all its lists.
func roomed(l levels.Levels) levels.Levels {
	l = copied(l)
	for i, j := range l.Joins {
		l.Joins[i].Pred = sample.Roomy(api.Tree{Conj: []api.Pred{j.Pred}}).Conj[0]
	}
	for i, o := range l.Ops {
		l.Ops[i].Conj = sample.Roomy(api.Tree{Conj: o.Conj}).Conj
	}
	l.Joins = append(l.Joins, levels.Join{Home: 78})[:len(l.Joins)]
	l.Ops = append(l.Ops, levels.Op{Kind: 78})[:len(l.Ops)]
	return l
}

func TestWithinAndSameLeaveWhatIsHandedIn(t *testing.T) {
	last := levels.Levels{}
	for _, q := range queries(14, 300, 7) {
		a, b := roomed(levels.Of(q.Root)), roomed(levels.Of(q.Root))
		before, other := open(a), open(last)
		if !levels.Same(a, b) {
			t.Fatalf("%q and %q", told(a), told(b))
		}
		levels.Same(a, last)
		levels.Same(last, a)
		for i := range len(a.Ops) + 2 {
			levels.Within(a, i-1, -1)
		}
		if !reflect.DeepEqual(open(a), before) || !reflect.DeepEqual(open(b), before) || !reflect.DeepEqual(open(last), other) {
			t.Fatalf("%q is changed", told(a))
		}
		last = a
	}
}

// Great trees

// many is how many trees may be nested in one another.
const many = 1 << 16

// Of trees that are too great to be right nothing is promised but that it ends; it does so soon, however they are nested.
func TestOfGreatTrees(t *testing.T) {
	p := cmp(api.Eq, 0, 1)
	long := slices.Repeat([]api.Pred{p}, many)
	nested := p
	for range many {
		nested = api.Pred{Kind: api.PredNot, Parts: []api.Pred{nested}}
	}
	leaves := slices.Repeat([]api.Tree{{Table: 1}}, many)
	one := api.Tree{}
	even := api.Tree{}
	for range many {
		one = api.Tree{Kind: api.Left, Kids: []api.Tree{one}}
	}
	for range 16 {
		even = api.Tree{Kind: api.Left, Kids: []api.Tree{even, even}, Conj: []api.Pred{p}}
	}
	mixed := api.Tree{}
	for i := range many - 1 {
		mixed = api.Tree{Kind: api.Inner + i%4, Kids: []api.Tree{{Table: 1}, mixed}, Conj: []api.Pred{p}}
		if i%3 == 0 {
			slices.Reverse(mixed.Kids)
		}
	}
	for _, x := range []api.Tree{
		one,
		even,
		mixed,
		{Kind: api.Left, Kids: leaves, Conj: long},
		{Kind: api.Left, Kids: leaves[:2], Conj: long},
		{Kind: api.Inner, Kids: leaves[:2], Conj: long},
		{Kind: api.Anti, Kids: leaves[:2], Conj: []api.Pred{nested}},
	} {
		levels.Of(x)
	}
	for _, kind := range []int{api.Leaf, api.Inner, api.Left, api.Semi, api.Anti, 5, -1} {
		for _, at := range []int{0, 1} {
			levels.Of(sample.Deep(kind, many-1, at, p))
		}
	}
}

// A way of as many homes as there may be leads to its end, and two such ways are the same.
func TestGreatLevels(t *testing.T) {
	var homes []int
	for i := range many {
		homes = append(homes, i-1)
	}
	l := chain(homes...)
	if !levels.Within(l, many-1, -1) || !levels.Within(l, many-1, 0) || levels.Within(l, 0, many-1) || levels.Within(l, many-1, many-1) {
		t.Error("ops are not within their homes")
	}
	for i := range l.Ops {
		l.Ops[i].Home = many - 1 - i
	}
	levels.Within(l, 0, -1)
	l.Ops = l.Ops[:1<<12]
	levels.Same(l, l)
}
