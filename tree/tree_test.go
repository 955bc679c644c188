package tree_test

import (
	"fmt"
	"math"
	"reflect"
	"slices"
	"testing"

	"watersmeet/api"
	"watersmeet/sample"
	"watersmeet/tree"
)

const full = uint64(math.MaxUint64)

// wide are numbers of all sorts: kinds, tables, and some that would be such if they were cut to fewer digits.
var wide = []int{math.MinInt, -1 << 32, -256, -64, -2, -1, 0, 1, 2, 3, 4, 5, 9, 62, 63, 64, 65, 127, 128, 255, 256, 257, 1 << 32, 1<<32 + 1, 1<<32 + 3, math.MaxInt}

var yes = api.Pred{Kind: api.PredTruth, Truth: api.True}

func leaf(i int) api.Tree {
	return api.Tree{Table: i}
}

// on tells an operator on these Kids.
func on(kind int, kids ...api.Tree) api.Tree {
	return api.Tree{Kind: kind, Kids: kids, Conj: []api.Pred{yes}}
}

func isNull(table int) api.Pred {
	return api.Pred{Kind: api.PredNull, A: api.Term{Kind: api.TermCol, Table: table}}
}

func and(l ...api.Pred) api.Pred {
	return api.Pred{Kind: api.PredAnd, Parts: l}
}

// wrap puts t into n operators of this kind, one within the other: as the Kid at the place at, if they have others beside it.
func wrap(kind, n, at int, t api.Tree, others ...api.Tree) api.Tree {
	for range n {
		t = on(kind, slices.Insert(slices.Clone(others), at, t)...)
	}
	return t
}

// dice tells numbers without a pattern, the same ones each time.
type dice struct{ word uint64 }

func (d *dice) below(n int) int {
	d.word = d.word*6364136223846793005 + 1442695040888963407
	return int(d.word >> 33 % uint64(n))
}

// conj tells conjuncts, some with parts.
func (d *dice) conj() []api.Pred {
	var l []api.Pred
	for range d.below(3) {
		l = append(l, []api.Pred{yes, isNull(d.below(4)), and(isNull(d.below(4)), and(yes, isNull(d.below(4))))}[d.below(3)])
	}
	return l
}

// right tells an operator tree of leaves and operators with two Kids.
func (d *dice) right(room int) api.Tree {
	if room == 0 || d.below(4) == 0 {
		return leaf(d.below(6))
	}
	t := on(api.Inner+d.below(4), d.right(room-1), d.right(room-1))
	t.Conj = d.conj()
	return t
}

// wild tells a tree of any sort: each field may be anything.
func (d *dice) wild(room int) api.Tree {
	t := api.Tree{Kind: d.below(6) - 1, Table: d.below(6), Conj: d.conj(), Hash: d.below(2) == 0}
	if d.below(8) == 0 {
		t.Kind, t.Table = wide[d.below(len(wide))], wide[d.below(len(wide))]
	}
	if room > 0 {
		for range d.below(4) {
			t.Kids = append(t.Kids, d.wild(room-1))
		}
	}
	return t
}

// some are trees of all sorts, those that may be first.
func some() []api.Tree {
	d := &dice{10}
	var l []api.Tree
	for range 300 {
		l = append(l, d.right(4))
	}
	for range 300 {
		l = append(l, d.wild(4))
	}
	return l
}

// text tells all fields of t: two trees are the same just if their texts are.
func text(t api.Tree) string {
	return fmt.Sprintf("%+v", t)
}

// texts tells those of all of l.
func texts(l []api.Tree) []string {
	var all []string
	for _, t := range l {
		all = append(all, text(t))
	}
	return all
}

// gather tells what a tour tells, but no more than most trees.
func gather(t api.Tree, most int) []api.Tree {
	var l []api.Tree
	for part := range tree.Walk(t) {
		l = append(l, part)
		if len(l) == most {
			break
		}
	}
	return l
}

// slowWalk tells the trees in t by what the Kids are told to have.
func slowWalk(t api.Tree) []api.Tree {
	var l []api.Tree
	for _, kid := range t.Kids {
		l = append(l, slowWalk(kid)...)
	}
	return append(l, t)
}

// slowSeen tells by their numbers which tables are seen of t.
func slowSeen(t api.Tree) map[int]bool {
	seen := map[int]bool{}
	if t.Kind == api.Leaf {
		seen[t.Table] = true
		return seen
	}
	for i, kid := range t.Kids {
		if i == 0 || t.Kind != api.Semi && t.Kind != api.Anti {
			for table := range slowSeen(kid) {
				seen[table] = true
			}
		}
	}
	return seen
}

// set tells the set of these numbers.
func set(l map[int]bool) uint64 {
	s := uint64(0)
	for i := range 64 {
		if l[i] {
			s += 1 << i
		}
	}
	return s
}

// cloned tells t in new memory.
func cloned(t api.Tree) api.Tree {
	t.Conj = clonedPreds(t.Conj)
	t.Kids = slices.Clone(t.Kids)
	for i, kid := range t.Kids {
		t.Kids[i] = cloned(kid)
	}
	return t
}

func clonedPreds(l []api.Pred) []api.Pred {
	l = slices.Clone(l)
	for i, p := range l {
		l[i].Parts = clonedPreds(p.Parts)
	}
	return l
}

// spoil writes into all Kids of t, and into the rooms behind them.
func spoil(t api.Tree) {
	kids := t.Kids[:cap(t.Kids)]
	for i := range kids {
		spoil(kids[i])
		kids[i] = api.Tree{Kind: 77, Table: 77, Hash: true}
	}
}

// P10.1: Tables, Seen, Size

// bare are trees of all forms, right ones and others, and what is told of them.
var bare = []struct {
	t            api.Tree
	tables, seen uint64
	size         int
}{
	{api.Tree{}, 1, 1, 1},
	{leaf(3), 8, 8, 1},
	{leaf(63), 1 << 63, 1 << 63, 1},
	{leaf(64), 0, 0, 1},
	{leaf(-1), 0, 0, 1},
	{on(api.Inner, leaf(0), leaf(1)), 3, 3, 3},
	{on(api.Left, leaf(0), leaf(1)), 3, 3, 3},
	{on(api.Semi, leaf(0), leaf(1)), 3, 1, 3},
	{on(api.Anti, leaf(0), leaf(1)), 3, 1, 3},
	{on(api.Semi, leaf(1), leaf(0)), 3, 2, 3},
	{on(api.Anti, leaf(1), leaf(0)), 3, 2, 3},
	{on(9, leaf(0), leaf(1)), 3, 3, 3},
	{on(-1, leaf(0), leaf(1)), 3, 3, 3},
	{on(5, leaf(0), leaf(1)), 3, 3, 3},
	// Without Kids, with one, with more than two.
	{on(api.Inner), 0, 0, 1},
	{on(api.Left), 0, 0, 1},
	{on(api.Semi), 0, 0, 1},
	{on(api.Anti), 0, 0, 1},
	{on(9), 0, 0, 1},
	{on(api.Inner, leaf(2)), 4, 4, 2},
	{on(api.Semi, leaf(2)), 4, 4, 2},
	{on(api.Anti, leaf(2)), 4, 4, 2},
	{on(9, leaf(2)), 4, 4, 2},
	{on(api.Left, leaf(2), leaf(4), leaf(5)), 52, 52, 4},
	{on(api.Semi, leaf(2), leaf(4), leaf(5)), 52, 4, 4},
	{on(api.Anti, leaf(5), leaf(4), leaf(2)), 52, 32, 4},
	{on(9, leaf(2), leaf(4), leaf(5)), 52, 52, 4},
	// A leaf with Kids is a leaf; those within it are leaves, too.
	{api.Tree{Table: 1, Kids: []api.Tree{leaf(2), on(api.Inner, leaf(3), leaf(4))}}, 30, 2, 5},
	{on(api.Inner, api.Tree{Table: 1, Kids: []api.Tree{leaf(2)}}, leaf(0)), 7, 3, 4},
	// The Table of an operator is none of a leaf.
	{api.Tree{Kind: api.Inner, Table: 7}, 0, 0, 1},
	{api.Tree{Kind: 9, Table: 7, Kids: []api.Tree{leaf(1)}}, 2, 2, 2},
	{api.Tree{Kind: api.Semi, Table: 7, Kids: []api.Tree{leaf(1)}}, 2, 2, 2},
	// One table twice, and some that no set has.
	{on(api.Inner, leaf(3), leaf(3)), 8, 8, 3},
	{on(api.Left, leaf(64), on(api.Inner, leaf(-1), leaf(2))), 4, 4, 5},
	// What is hidden by one operator may be within another one.
	{on(api.Inner, on(api.Semi, leaf(0), leaf(1)), on(api.Anti, leaf(2), leaf(3))), 15, 5, 7},
	{on(api.Semi, on(api.Anti, leaf(0), leaf(1)), on(api.Inner, leaf(2), leaf(3))), 15, 1, 7},
	{on(api.Anti, on(api.Left, leaf(0), leaf(1)), on(api.Semi, leaf(2), leaf(3))), 15, 3, 7},
	{on(api.Left, leaf(0), on(api.Semi, on(api.Inner, leaf(1), leaf(2)), leaf(3))), 15, 7, 7},
	{on(api.Semi, on(api.Semi), leaf(3)), 8, 0, 3},
}

func TestTablesSeenSize(t *testing.T) {
	for _, c := range bare {
		if got := tree.Tables(c.t); got != c.tables {
			t.Errorf("Tables of %v: %b, not %b", c.t, got, c.tables)
		}
		if got := tree.Seen(c.t); got != c.seen {
			t.Errorf("Seen of %v: %b, not %b", c.t, got, c.seen)
		}
		if got := tree.Size(c.t); got != c.size {
			t.Errorf("Size of %v: %d, not %d", c.t, got, c.size)
		}
	}
}

func TestTablesSeenSizeBySlowTwins(t *testing.T) {
	for i, x := range some() {
		l := slowWalk(x)
		leaves := map[int]bool{}
		for _, part := range l {
			if part.Kind == api.Leaf {
				leaves[part.Table] = true
			}
		}
		if got := tree.Tables(x); got != set(leaves) {
			t.Errorf("Tables of the tree %d: %b", i, got)
		}
		if got := tree.Seen(x); got != set(slowSeen(x)) {
			t.Errorf("Seen of the tree %d: %b", i, got)
		}
		if got := tree.Size(x); got != len(l) {
			t.Errorf("Size of the tree %d: %d", i, got)
		}
	}
}

// Each number as the Table of a leaf, and as a Kind.
func TestTablesAndSeenOfWideNumbers(t *testing.T) {
	for _, i := range wide {
		want := set(map[int]bool{i: true})
		x := on(api.Left, leaf(i), leaf(i))
		if tree.Tables(leaf(i)) != want || tree.Seen(leaf(i)) != want || tree.Tables(x) != want || tree.Seen(x) != want {
			t.Errorf("Tables or Seen of the table %d is not %b", i, want)
		}
		x = api.Tree{Kind: i, Table: 5, Kids: []api.Tree{leaf(1), leaf(2)}}
		tables, seen := uint64(6), uint64(6)
		switch i {
		case api.Leaf:
			tables, seen = 38, 32
		case api.Semi, api.Anti:
			seen = 2
		}
		if tree.Tables(x) != tables || tree.Seen(x) != seen {
			t.Errorf("of the Kind %d Tables %b and Seen %b", i, tree.Tables(x), tree.Seen(x))
		}
	}
	x := leaf(0)
	for i := range 64 {
		x = on(api.Inner, leaf(i), x)
	}
	if tree.Tables(x) != full || tree.Seen(x) != full {
		t.Errorf("of 64 tables Tables %b and Seen %b", tree.Tables(x), tree.Seen(x))
	}
}

// P10.1: Same

// others tells trees that are other than t by one field, or one in a list, of t itself.
func others(t api.Tree) []api.Tree {
	var l []api.Tree
	for i := range 7 {
		x := cloned(t)
		switch i {
		case 0:
			x.Kind++
		case 1:
			x.Table--
		case 2:
			x.Hash = !x.Hash
		case 3:
			x.Conj = append(x.Conj, yes)
		case 4:
			x.Conj = append([]api.Pred{{}}, x.Conj...)
		case 5:
			x.Kids = append(x.Kids, api.Tree{})
		case 6:
			x.Kids = append([]api.Tree{leaf(99)}, x.Kids...)
		}
		l = append(l, x)
	}
	for i := range t.Conj {
		x := cloned(t)
		x.Conj[i] = and(x.Conj[i])
		y := cloned(t)
		y.Conj = slices.Delete(y.Conj, i, i+1)
		l = append(l, x, y)
	}
	for i := range t.Kids {
		x := cloned(t)
		x.Kids = slices.Delete(x.Kids, i, i+1)
		l = append(l, x)
	}
	return l
}

// othersWithin tells the others of t, and t around those of its Kids.
func othersWithin(t api.Tree) []api.Tree {
	l := others(t)
	for i, kid := range t.Kids {
		for _, other := range othersWithin(kid) {
			x := cloned(t)
			x.Kids[i] = other
			l = append(l, x)
		}
	}
	return l
}

func TestSame(t *testing.T) {
	deep := on(api.Left, leaf(0), on(api.Inner, leaf(1), leaf(2)))
	deep.Conj = []api.Pred{isNull(0), and(yes, and(isNull(1)))}
	turned := on(api.Left, deep.Kids[1], deep.Kids[0])
	turned.Conj = deep.Conj
	mixed := on(api.Left, deep.Kids...)
	mixed.Conj = []api.Pred{deep.Conj[1], deep.Conj[0]}
	inner := cloned(deep)
	inner.Conj[1].Parts[1].Parts[0].A.Col = 1
	for _, c := range []struct {
		a, b api.Tree
		want bool
	}{
		{api.Tree{}, api.Tree{}, true},
		{api.Tree{}, leaf(0), true},
		{api.Tree{}, api.Tree{Kids: []api.Tree{}, Conj: []api.Pred{}}, true},
		{api.Tree{Conj: []api.Pred{{Parts: []api.Pred{}}}}, api.Tree{Conj: []api.Pred{{}}}, true},
		{leaf(0), leaf(1), false},
		{leaf(0), leaf(-1), false},
		{leaf(0), leaf(1 << 32), false},
		{leaf(0), api.Tree{Hash: true}, false},
		{leaf(0), api.Tree{Kind: api.Inner}, false},
		{leaf(0), api.Tree{Kind: 256}, false},
		{leaf(0), api.Tree{Kids: []api.Tree{{}}}, false},
		{leaf(0), api.Tree{Conj: []api.Pred{{}}}, false},
		{api.Tree{Kind: 9, Table: 8, Hash: true}, api.Tree{Kind: 9, Table: 8, Hash: true}, true},
		{on(api.Inner, leaf(0), leaf(1)), on(api.Inner, leaf(0), leaf(1)), true},
		{on(api.Inner, leaf(0), leaf(1)), on(api.Inner, leaf(1), leaf(0)), false},
		{on(api.Inner, leaf(0), leaf(1)), on(api.Left, leaf(0), leaf(1)), false},
		{on(api.Inner, leaf(0)), on(api.Inner, leaf(0), leaf(1)), false},
		{deep, cloned(deep), true},
		{deep, turned, false},
		{deep, mixed, false},
		{deep, inner, false},
	} {
		if tree.Same(c.a, c.b) != c.want || tree.Same(c.b, c.a) != c.want {
			t.Errorf("Same(%v, %v) is %t", c.a, c.b, !c.want)
		}
	}
}

func TestSameButForOne(t *testing.T) {
	n := 0
	for i, x := range some() {
		if !tree.Same(x, x) || !tree.Same(x, cloned(x)) {
			t.Errorf("the tree %d is other than itself", i)
		}
		if tree.Size(x) > 20 {
			continue
		}
		for _, y := range othersWithin(x) {
			n++
			if tree.Same(x, y) || tree.Same(y, x) {
				t.Errorf("the tree %d is the same as %v", i, y)
			}
		}
	}
	if n < 10000 {
		t.Errorf("%d others alone", n)
	}
}

func TestSameBySlowTwin(t *testing.T) {
	l := some()[:250]
	all := texts(l)
	same := 0
	for i, a := range l {
		for j, b := range l {
			want := all[i] == all[j]
			if tree.Same(a, b) != want {
				t.Errorf("Same of the trees %d and %d is %t", i, j, !want)
			}
			if want {
				same++
			}
		}
	}
	if same <= len(l) {
		t.Error("no two trees are the same")
	}
}

// P10.1: Copy

func TestCopy(t *testing.T) {
	for i, x := range some() {
		before, want := sample.Opened(x), text(x)
		y := tree.Copy(x)
		if text(y) != want || !tree.Same(x, y) {
			t.Errorf("the copy of the tree %d is %v", i, y)
		}
		sample.Spoil(y)
		if !reflect.DeepEqual(sample.Opened(x), before) {
			t.Errorf("the tree %d is changed by its copy", i)
		}
		y = tree.Copy(x)
		sample.Spoil(x)
		if text(y) != want {
			t.Errorf("the copy of the tree %d is changed by it", i)
		}
	}
}

// Lists that share memory in what is handed in share none in the copy.
func TestCopySharesNothing(t *testing.T) {
	parts := []api.Pred{isNull(0), yes, isNull(1)}
	conj := []api.Pred{and(parts...), and(parts[:1]...), yes}
	kids := []api.Tree{leaf(0), leaf(1), leaf(2)}
	one := api.Tree{Kind: api.Inner, Kids: kids, Conj: conj}
	x := api.Tree{Kind: api.Inner, Kids: []api.Tree{one, {Kind: api.Left, Kids: kids[:1], Conj: conj[:1]}, one, {Kids: kids[:0], Conj: conj[:0]}}, Conj: conj}
	y := tree.Copy(x)
	want := texts(y.Kids)
	for i := range y.Kids {
		sample.Spoil(y.Kids[i])
		if got := texts(y.Kids); !slices.Equal(got[i+1:], want[i+1:]) {
			t.Errorf("the Kid %d shares memory with one behind it", i)
		}
	}
	if len(y.Conj) != 3 || y.Conj[0].Kind != api.PredAnd {
		t.Error("the whole shares conjuncts with its Kids")
	}
}

// P10.2

// tour tells the numbers by which what is told is known.
func tour(l []api.Tree) []int {
	var numbers []int
	for _, t := range l {
		numbers = append(numbers, t.Kind*100+t.Table)
	}
	return numbers
}

func TestWalk(t *testing.T) {
	for _, c := range []struct {
		t    api.Tree
		want []int
	}{
		{api.Tree{}, []int{0}},
		{leaf(7), []int{7}},
		{leaf(-7), []int{-7}},
		{on(api.Left, leaf(1), leaf(0)), []int{1, 0, 200}},
		{on(api.Semi, on(api.Inner, leaf(4), leaf(3)), leaf(2)), []int{4, 3, 100, 2, 300}},
		{on(api.Anti, leaf(2), on(api.Inner, leaf(4), leaf(3))), []int{2, 4, 3, 100, 400}},
		{on(api.Left, on(api.Semi, leaf(3), leaf(1)), on(api.Anti, leaf(0), on(api.Inner, leaf(2), leaf(64)))), []int{3, 1, 300, 0, 2, 64, 100, 400, 200}},
		{on(9), []int{900}},
		{on(9, leaf(5)), []int{5, 900}},
		{on(-9, leaf(5), leaf(6), leaf(7), on(8)), []int{5, 6, 7, 800, -900}},
		{api.Tree{Table: 1, Kids: []api.Tree{leaf(2), leaf(3)}}, []int{2, 3, 1}},
		{on(api.Inner, leaf(2), leaf(2)), []int{2, 2, 100}},
	} {
		if got := tour(gather(c.t, -1)); !slices.Equal(got, c.want) {
			t.Errorf("the tour of %v is %v, not %v", c.t, got, c.want)
		}
	}
}

func TestWalkBySlowTwin(t *testing.T) {
	for i, x := range some() {
		want := texts(slowWalk(x))
		if got := texts(gather(x, -1)); !slices.Equal(got, want) {
			t.Errorf("the tour of the tree %d is %v", i, tour(gather(x, -1)))
		}
	}
}

// A tour that is left tells what it told till then, and nothing more, whichever tree it is left at.
func TestWalkLeft(t *testing.T) {
	for i, x := range some()[:100] {
		want := texts(slowWalk(x))
		for most := 1; most <= len(want); most++ {
			var got []string
			tree.Walk(x)(func(part api.Tree) bool {
				got = append(got, text(part))
				return len(got) < most
			})
			if !slices.Equal(got, want[:most]) {
				t.Fatalf("the tour of the tree %d, left at %d, has %d trees", i, most, len(got))
			}
		}
	}
}

// Each range over a tour begins anew, and tours within one another do not meet.
func TestWalkAgain(t *testing.T) {
	x := on(api.Left, on(api.Semi, leaf(3), leaf(1)), leaf(2))
	want := []int{3, 1, 300, 2, 200}
	walk := tree.Walk(x)
	for range walk {
		break
	}
	var outer []int
	for part := range walk {
		outer = append(outer, tour([]api.Tree{part})...)
		var inner []api.Tree
		for other := range walk {
			inner = append(inner, other)
		}
		if got := tour(inner); !slices.Equal(got, want) {
			t.Errorf("within another one: %v", got)
		}
	}
	if !slices.Equal(outer, want) {
		t.Errorf("around others: %v", outer)
	}
}

// Whatever is done to the Kids of what is told, it is of no matter to what comes behind, to another tour, and to what was handed in.
func TestWalkSharesNoKids(t *testing.T) {
	for i, x := range append(some(), wrap(api.Left, 200, 0, leaf(0), leaf(1)), wrap(api.Left, 200, 1, leaf(0), leaf(1))) {
		before, want := sample.Opened(x), texts(slowWalk(x))
		walk := tree.Walk(x)
		for range 2 {
			var got []string
			for part := range walk {
				got = append(got, text(part))
				spoil(part)
			}
			if !slices.Equal(got, want) {
				t.Errorf("the tour of the tree %d is changed", i)
			}
		}
		if !reflect.DeepEqual(sample.Opened(x), before) {
			t.Errorf("the tree %d is changed", i)
		}
	}
}

// What was told stays, whatever is done to what is told behind it.
func TestWalkLeavesWhatWasTold(t *testing.T) {
	for n, x := range some()[:100] {
		l := gather(x, -1)
		want := texts(l)
		for i := len(l) - 1; i >= 0; i-- {
			spoil(l[i])
			if !slices.Equal(texts(l[:i]), want[:i]) {
				t.Errorf("the tree %d within the tree %d shares Kids with one told ahead of it", i, n)
			}
		}
	}
}

// A tour does not keep what was handed in: it may be changed ahead of the tour, or meanwhile.
func TestWalkKeepsNothing(t *testing.T) {
	for i, x := range some() {
		want := texts(slowWalk(x))
		for _, meanwhile := range []bool{false, true} {
			y := cloned(x)
			walk := tree.Walk(y)
			var got []string
			if !meanwhile {
				sample.Spoil(y)
			}
			for part := range walk {
				got = append(got, text(part))
				sample.Spoil(y)
			}
			if !slices.Equal(got, want) {
				t.Errorf("the tour of the tree %d is changed with it; meanwhile: %t", i, meanwhile)
			}
		}
	}
}

// All of the package

func TestLeavesWhatIsHandedIn(t *testing.T) {
	parts := []api.Pred{isNull(0), isNull(1), isNull(2)}
	conj := []api.Pred{and(parts[:2]...), yes, and(parts[:1]...), {}}
	kids := []api.Tree{leaf(0), {Kind: api.Semi, Kids: []api.Tree{leaf(1), leaf(2), leaf(3)}[:2], Conj: conj[:1]}, {Kind: 9, Conj: conj[:0]}, leaf(4)}
	x := api.Tree{Kind: api.Inner, Kids: kids[:3], Conj: conj[:3], Hash: true}
	before := sample.Opened(x)
	tree.Tables(x)
	tree.Seen(x)
	tree.Same(x, x.Kids[1])
	tree.Same(x, cloned(x))
	tree.Copy(x)
	for part := range tree.Walk(x) {
		_ = append(part.Kids, leaf(99), leaf(99))
	}
	tree.Size(x)
	if !reflect.DeepEqual(sample.Opened(x), before) {
		t.Errorf("%v is changed to %v", before, sample.Opened(x))
	}
}

// many is how many trees may be nested in one another.
const many = 1 << 16

func TestGreatTrees(t *testing.T) {
	for name, c := range map[string]struct {
		t            api.Tree
		tables, seen uint64
		size         int
	}{
		"deep":       {wrap(9, many-1, 0, leaf(5)), 32, 32, many},
		"left deep":  {wrap(api.Left, many-1, 0, leaf(5), leaf(6)), 96, 96, 2*many - 1},
		"right deep": {wrap(api.Inner, many-1, 1, leaf(5), leaf(6)), 96, 96, 2*many - 1},
		"semi deep":  {wrap(api.Semi, many-1, 0, leaf(5), leaf(6)), 96, 32, 2*many - 1},
		"anti deep":  {wrap(api.Anti, many-1, 1, leaf(5), leaf(6)), 96, 64, 2*many - 1},
		"wide":       {on(api.Inner, slices.Repeat([]api.Tree{leaf(5)}, many)...), 32, 32, many + 1},
		"wide deep":  {wrap(9, many-2, 0, on(api.Left, slices.Repeat([]api.Tree{leaf(5)}, many)...)), 32, 32, 2*many - 1},
	} {
		if tree.Tables(c.t) != c.tables || tree.Seen(c.t) != c.seen || tree.Size(c.t) != c.size {
			t.Errorf("%s: Tables %b, Seen %b, Size %d", name, tree.Tables(c.t), tree.Seen(c.t), tree.Size(c.t))
		}
		if !tree.Same(c.t, tree.Copy(c.t)) || tree.Same(c.t, on(9, c.t)) {
			t.Errorf("%s is other than its copy, or the same with one more around it", name)
		}
		if l := gather(c.t, 1); len(l) != 1 || l[0].Kind != api.Leaf {
			t.Errorf("%s: a tour begins with %v", name, l)
		}
	}
}

// A tour of a great tree ends soon, and comes to each tree, and to the whole last.
func TestGreatTours(t *testing.T) {
	for name, x := range map[string]api.Tree{
		"left deep": wrap(api.Left, many-1, 0, leaf(5), leaf(6)),
		"wide":      on(api.Inner, slices.Repeat([]api.Tree{leaf(5)}, many)...),
	} {
		told, last := 0, api.Tree{}
		for part := range tree.Walk(x) {
			told, last = told+1, part
		}
		if told != tree.Size(x) || !tree.Same(last, x) {
			t.Errorf("%s: a tour of %d trees", name, told)
		}
	}
}

// The chapter's example

func TestExample(t *testing.T) {
	x := on(api.Semi, leaf(0), leaf(1))
	if got := tree.Seen(x); got != 1 {
		t.Errorf("Seen of a Semi of 0 and 1: %b", got)
	}
	if got := tree.Tables(x); got != 3 {
		t.Errorf("Tables of a Semi of 0 and 1: %b", got)
	}
}
