package levels_test

import (
	"slices"
	"testing"

	"watersmeet/api"
	"watersmeet/bag"
	"watersmeet/check"
	"watersmeet/exec"
	"watersmeet/ident"
	"watersmeet/levels"
	"watersmeet/sample"
	"watersmeet/sets"
	"watersmeet/shape"
	"watersmeet/tree"
)

// P18.3: right trees with the Same levels, and the same leaves, make the same bag.

// builder puts trees together that have these levels.
type builder struct {
	*sample.Dice
	levels.Levels
}

// tree tells a tree of all these tables and of all that has this home, put together in any order; false, if that order leads nowhere.
func (b builder) tree(home int, s uint64) (api.Tree, bool) {
	var ops []int
	for i, o := range b.Ops {
		if o.Home == home {
			ops = append(ops, i)
			s &^= o.Own
		}
	}
	var joins []levels.Join
	for _, j := range b.Joins {
		if j.Home == home {
			joins = append(joins, j)
		}
	}
	var parts []api.Tree
	for _, i := range sets.List(s) {
		parts = append(parts, api.Tree{Table: i})
	}
	for range 200 {
		if len(ops) == 0 && len(parts) == 1 {
			return parts[0], len(joins) == 0
		}
		if len(ops) > 0 && b.Below(2) == 0 {
			at, i := b.Below(len(ops)), b.Below(len(parts))
			if o := b.Ops[ops[at]]; sets.In(o.Left, tree.Seen(parts[i])) {
				right, ok := b.tree(ops[at], o.Own)
				if !ok {
					return api.Tree{}, false
				}
				parts[i] = api.Tree{Kind: o.Kind, Kids: []api.Tree{parts[i], right}, Conj: o.Conj, Hash: b.Below(2) == 0}
				ops = slices.Delete(ops, at, at+1)
			}
			continue
		}
		if i, j := b.Below(len(parts)), b.Below(len(parts)); i != j {
			parts, joins = b.join(parts, joins, i, j)
		}
	}
	return api.Tree{}, false
}

// join puts two of the parts together, with all joins that may stand there, if there are any.
func (b builder) join(parts []api.Tree, joins []levels.Join, i, j int) ([]api.Tree, []levels.Join) {
	s := tree.Seen(parts[i]) | tree.Seen(parts[j])
	x := api.Tree{Kind: api.Inner, Kids: []api.Tree{parts[i], parts[j]}, Hash: b.Below(2) == 0}
	var rest []levels.Join
	for _, at := range b.Shuffled(len(joins)) {
		if one := joins[at]; sets.In(one.Left|one.Right, s) {
			x.Conj = append(x.Conj, one.Pred)
		} else {
			rest = append(rest, one)
		}
	}
	if len(x.Conj) == 0 {
		return parts, joins
	}
	parts[i] = x
	return slices.Delete(parts, j, j+1), rest
}

// Trees put together by levels alone have them, and make the bag of the tree that they are of.
func TestTreesOfTheSameLevels(t *testing.T) {
	dice := sample.New(10)
	kinds, others := map[int]int{}, 0
	for range 3000 {
		q := dice.Query(7)
		data, bags := dice.Bags(q, 3, 4)
		l := levels.Of(q.Root)
		for range 6 {
			x, ok := builder{dice, l}.tree(-1, tree.Tables(q.Root))
			other := api.Query{Cols: q.Cols, Root: x}
			if !ok || !check.Right(other) {
				continue
			}
			if !levels.Same(l, levels.Of(x)) || !levels.Same(levels.Of(x), l) {
				t.Fatalf("%s and %s: %q and %q", shown(q.Root), shown(x), told(l), told(levels.Of(x)))
			}
			if fault := sample.Fault(other, data, bags); fault != "" {
				t.Fatalf("%s of %s: %s", shown(x), shown(q.Root), fault)
			}
			if !tree.Same(x, q.Root) && len(slices.Concat(bags...)) > 0 {
				others++
				for part := range tree.Walk(x) {
					kinds[part.Kind]++
				}
			}
		}
	}
	for kind := range 5 {
		if kinds[kind] < 1000 {
			t.Errorf("%d came %d times", kind, kinds[kind])
		}
	}
	if others < 4000 {
		t.Errorf("%d other trees alone", others)
	}
}

// shown tells the text of a tree.
func shown(x api.Tree) string {
	s, _ := shape.Print(x)
	return s
}

// small tells all trees of three tables whose conjuncts are of these sorts: one that names each two tables that may be named, or one and a null.
func small() []api.Tree {
	eq := func(i, j int) api.Pred { return cmp(api.Eq, min(i, j), max(i, j)) }
	conjuncts := func(i, j int) []api.Pred {
		null := api.Pred{Kind: api.PredNull, A: api.Term{Kind: api.TermCol, Table: 1}}
		l := []api.Pred{eq(i, j)}
		if i == 1 || j == 1 {
			l = append(l, api.Pred{Kind: api.PredOr, Parts: []api.Pred{eq(i, j), null}})
		}
		return l
	}
	var all []api.Tree
	for _, l := range [][3]int{{0, 1, 2}, {0, 2, 1}, {1, 0, 2}, {1, 2, 0}, {2, 0, 1}, {2, 1, 0}} {
		leaf := func(i int) api.Tree { return api.Tree{Table: l[i]} }
		for kinds := range 16 {
			a, b := api.Inner+kinds/4, api.Inner+kinds%4
			for _, p := range conjuncts(l[0], l[1]) {
				low := api.Tree{Kind: a, Kids: []api.Tree{leaf(0), leaf(1)}, Conj: []api.Pred{p}}
				for _, r := range slices.Concat(conjuncts(l[0], l[2]), conjuncts(l[1], l[2])) {
					all = append(all, api.Tree{Kind: b, Kids: []api.Tree{low, leaf(2)}, Conj: []api.Pred{r}})
					all = append(all, api.Tree{Kind: b, Kids: []api.Tree{leaf(2), low}, Conj: []api.Pred{r}})
				}
			}
		}
	}
	return all
}

// All trees of three tables, each held against each.
func TestAllTreesOfThreeTables(t *testing.T) {
	dice := sample.New(11)
	cols := []int{1, 1, 1}
	var data []api.Data
	for range 12 {
		data = append(data, dice.Data(cols, 3))
	}
	var trees []api.Tree
	var all []levels.Levels
	var bags [][][]api.Row
	for _, x := range small() {
		q := api.Query{Cols: cols, Root: x}
		if !check.Right(q) {
			continue
		}
		var made [][]api.Row
		for _, d := range data {
			rows, _ := exec.Run(q, d)
			made = append(made, bag.Sorted(rows))
		}
		trees, all, bags = append(trees, x), append(all, levels.Of(x)), append(bags, made)
	}
	alike, not := 0, 0
	for i := range trees {
		for j := range i {
			same := slices.EqualFunc(bags[i], bags[j], bag.Same)
			if !levels.Same(all[i], all[j]) {
				not++
				continue
			}
			alike++
			if !same {
				t.Fatalf("%s and %s make other bags", shown(trees[i]), shown(trees[j]))
			}
		}
	}
	if alike < 500 || not < 100000 {
		t.Errorf("%d pairs are the same, %d are not", alike, not)
	}
}

// Changes keep the levels, but where an outer join comes to stand within another one's right, or comes out of it.
func TestChangesKeepLevels(t *testing.T) {
	dice := sample.New(12)
	kept, not := 0, 0
	for range 4000 {
		q := dice.Query(6)
		l := levels.Of(q.Root)
		for how := ident.Turn; how <= ident.Exchange; how++ {
			x, ok := ident.Do(how, q.Root)
			if !ok {
				continue
			}
			moved := how == ident.Rotate && q.Root.Kids[0].Kind == api.Left || how == ident.Back && q.Root.Kind == api.Left
			holdSame(t, shown(q.Root)+" and "+shown(x), l, levels.Of(x), !moved)
			if moved {
				not++
			} else {
				kept++
			}
		}
	}
	if kept < 1000 || not < 100 {
		t.Errorf("%d are kept, %d are not", kept, not)
	}
}
