package shape_test

import (
	"fmt"
	"math"
	"reflect"
	"slices"
	"strings"
	"testing"

	"watersmeet/api"
	"watersmeet/pred"
	"watersmeet/sample"
	"watersmeet/shape"
	"watersmeet/text"
	"watersmeet/tree"
)

// wide are numbers of all sorts: those at which what is told turns, and some that would be right if they were cut to fewer digits.
var wide = []int{math.MinInt, -1 << 32, -256, -64, -2, -1, 0, 1, 2, 3, 4, 5, 6, 9, 10, 62, 63, 64, 65, 99, 100, 127, 128, 255, 256, 257, 1 << 32, 1<<32 + 1, 1<<32 + 4, math.MaxInt}

var kinds = []int{api.Inner, api.Left, api.Semi, api.Anti}

var yes = api.Pred{Kind: api.PredTruth, Truth: api.True}

// many is how many parts may be nested in one another.
const many = 1 << 16

func leaf(i int) api.Tree {
	return api.Tree{Table: i}
}

func on(kind int, a, b api.Tree, l ...api.Pred) api.Tree {
	return api.Tree{Kind: kind, Kids: []api.Tree{a, b}, Conj: l}
}

// hashed tells t with Hash.
func hashed(t api.Tree) api.Tree {
	t.Hash = true
	return t
}

func col(table, c int) api.Term {
	return api.Term{Kind: api.TermCol, Table: table, Col: c}
}

func eq(a, b api.Term) api.Pred {
	return api.Pred{Kind: api.PredCmp, Op: api.Eq, A: a, B: b}
}

func isNull(a api.Term) api.Pred {
	return api.Pred{Kind: api.PredNull, A: a}
}

func and(l ...api.Pred) api.Pred {
	return api.Pred{Kind: api.PredAnd, Parts: l}
}

func or(l ...api.Pred) api.Pred {
	return api.Pred{Kind: api.PredOr, Parts: l}
}

func not(p api.Pred) api.Pred {
	return api.Pred{Kind: api.PredNot, Parts: []api.Pred{p}}
}

func times(n int, p api.Pred) []api.Pred {
	return slices.Repeat([]api.Pred{p}, n)
}

// chain tells n leaves joined one by one: each further one at this place of the Kids.
func chain(n, at int, l ...api.Pred) api.Tree {
	t := leaf(0)
	for i := 1; i < n; i++ {
		kids := []api.Tree{t, t}
		kids[at] = leaf(i % 64)
		t = api.Tree{Kind: api.Inner, Kids: kids, Conj: l}
	}
	return t
}

// even tells n leaves joined so that each operator has as many on the left as on the right.
func even(n int) api.Tree {
	if n == 1 {
		return leaf(7)
	}
	return on(api.Left, even(n/2), even(n-n/2), yes)
}

// dice tells numbers without a pattern, the same ones each time.
type dice struct{ word uint64 }

func (d *dice) below(n int) int {
	d.word = d.word*6364136223846793005 + 1442695040888963407
	return int(d.word >> 33 % uint64(n))
}

func (d *dice) term() api.Term {
	if d.below(3) == 0 {
		return api.Term{Kind: api.TermValue, Value: []api.Value{{}, {N: 12}, {N: -3}, {Null: true}}[d.below(4)]}
	}
	return col(d.below(64), d.below(4))
}

// conjunct tells a predicate that may be where there is room for so many below it.
func (d *dice) conjunct(room int) api.Pred {
	kind := d.below(8)
	if room == 0 {
		kind %= 4
	}
	switch kind {
	case 0:
		return api.Pred{Kind: api.PredTruth, Truth: d.below(3)}
	case 1:
		return isNull(d.term())
	case 2, 3:
		p := eq(d.term(), d.term())
		p.Op += d.below(6)
		return p
	case 4, 5:
		return not(d.conjunct(room - 1))
	}
	p := api.Pred{Kind: api.PredAnd + kind%2}
	for range d.below(4) {
		p.Parts = append(p.Parts, d.conjunct(room-1))
	}
	return p
}

// on tells a tree of n leaves, any tables.
func (d *dice) on(n int) api.Tree {
	if n == 1 {
		return leaf(d.below(64))
	}
	at := 1 + d.below(n-1)
	t := on(api.Inner+d.below(4), d.on(at), d.on(n-at))
	for range 1 + d.below(3) {
		t.Conj = append(t.Conj, d.conjunct(d.below(4)))
	}
	t.Hash = d.below(3) == 0
	return t
}

// some are trees that have a form: small ones, and some of many leaves.
func some() []api.Tree {
	d := &dice{12}
	var l []api.Tree
	for i := range 300 {
		l = append(l, d.on(1+i%9))
	}
	for n := 60; n <= 64; n++ {
		l = append(l, d.on(n))
	}
	return l
}

// Slow twins: they go through all that is there.

// slowRight tells whether each tree in t is as it has to be, and how many leaves there are.
func slowRight(t api.Tree) (bool, int) {
	ok, n := true, 0
	for _, kid := range t.Kids {
		may, more := slowRight(kid)
		ok, n = ok && may, n+more
	}
	for _, p := range t.Conj {
		ok = ok && pred.Right(p)
	}
	if t.Kind == 0 {
		return ok && t.Kids == nil && t.Conj == nil && !t.Hash && t.Table >= 0 && t.Table <= 63, n + 1
	}
	conj := len(t.Conj)
	return ok && slices.Contains(kinds, t.Kind) && len(t.Kids) == 2 && t.Table == 0 && conj != 0 && conj <= 64, n
}

// slowPrint tells the text of a tree that has a form, the signs as the document numbers them.
func slowPrint(t api.Tree) string {
	if t.Kind == 0 {
		return fmt.Sprint(t.Table)
	}
	var conj []string
	for _, p := range t.Conj {
		s, _ := text.Pred(p)
		conj = append(conj, s)
	}
	sign := map[int]string{1: "\u22c8", 2: "\u27d5", 3: "\u22c9", 4: "\u25b7"}[t.Kind]
	if t.Hash {
		sign += "\x23"
	}
	return "(" + slowPrint(t.Kids[0]) + sign + "[" + strings.Join(conj, ";") + "]" + slowPrint(t.Kids[1]) + ")"
}

// holdRight holds whether x has a form, and that it has a text just if so.
func holdRight(t *testing.T, name string, x api.Tree, want bool) {
	t.Helper()
	if got := shape.Right(x); got != want {
		t.Errorf("%s: Right is %t", name, got)
	}
	s, e := shape.Print(x)
	if want && (s == "" || e != api.OK) || !want && (s != "" || e != api.ErrKind) {
		t.Errorf("%s: Print tells %q, %v", name, s, e)
	}
}

// P12.1: Print

// written are trees and their texts.
var written = []struct {
	t    api.Tree
	want string
}{
	{api.Tree{}, "0"},
	{leaf(5), "5"},
	{leaf(63), "63"},
	{api.Tree{Table: 9, Kids: []api.Tree{}, Conj: []api.Pred{}}, "9"},
	{on(api.Inner, leaf(0), leaf(1), yes), "(0\u22c8[\u22a4]1)"},
	{on(api.Left, leaf(0), leaf(1), yes), "(0\u27d5[\u22a4]1)"},
	{on(api.Semi, leaf(0), leaf(1), yes), "(0\u22c9[\u22a4]1)"},
	{on(api.Anti, leaf(0), leaf(1), yes), "(0\u25b7[\u22a4]1)"},
	{hashed(on(api.Inner, leaf(2), leaf(1), yes)), "(2\u22c8#[\u22a4]1)"},
	{hashed(on(api.Anti, leaf(10), leaf(63), yes)), "(10\u25b7#[\u22a4]63)"},
	{on(api.Left, leaf(0), leaf(1), eq(col(0, 0), col(1, 0))), "(0⟕[=0.0,1.0]1)"},
	{on(api.Left, leaf(0), leaf(1), yes, isNull(col(1, 3)), yes), "(0⟕[⊤;∅1.3;⊤]1)"},
	{on(api.Semi, leaf(0), leaf(1), and(yes, or(), not(yes)), or(yes)), "(0⋉[∧(⊤;∨();¬⊤);∨(⊤)]1)"},
	{on(api.Inner, on(api.Left, leaf(0), leaf(1), yes), leaf(2), isNull(col(0, 0))), "((0⟕[⊤]1)⋈[∅0.0]2)"},
	{on(api.Inner, leaf(0), on(api.Left, leaf(1), leaf(2), yes), isNull(col(0, 0))), "(0⋈[∅0.0](1⟕[⊤]2))"},
	{hashed(on(api.Anti, hashed(on(api.Semi, leaf(3), leaf(1), yes)), on(api.Inner, leaf(0), leaf(2), yes), not(yes))), "((3⋉#[⊤]1)▷#[¬⊤](0⋈[⊤]2))"},
	// What a text is of need not be a right query: a table may come again, and conjuncts may name any tables, or none.
	{on(api.Inner, leaf(0), leaf(0), eq(col(63, 3), col(7, 2))), "(0⋈[=63.3,7.2]0)"},
	{on(api.Semi, on(api.Semi, leaf(5), leaf(5), yes), on(api.Semi, leaf(5), leaf(5), yes), yes), "((5⋉[⊤]5)⋉[⊤](5⋉[⊤]5))"},
}

func TestPrint(t *testing.T) {
	for _, c := range written {
		if got, e := shape.Print(c.t); got != c.want || e != api.OK || !shape.Right(c.t) {
			t.Errorf("Print(%v) is %q, %v, not %q", c.t, got, e, c.want)
		}
	}
}

func TestPrintBySlowTwin(t *testing.T) {
	for i, x := range some() {
		if got, e := shape.Print(x); got != slowPrint(x) || e != api.OK {
			t.Errorf("the text of the tree %d is %q, %v, not %q", i, got, e, slowPrint(x))
		}
		if !shape.Right(x) {
			t.Errorf("the tree %d has no form", i)
		}
	}
}

// P12.1: Right

func TestRightOfWideNumbers(t *testing.T) {
	for _, n := range wide {
		table := 0 <= n && n < 64
		holdRight(t, fmt.Sprint("the leaf ", n), leaf(n), table)
		if s, _ := shape.Print(leaf(n)); table && s != fmt.Sprint(n) {
			t.Errorf("the text of the leaf %d is %q", n, s)
		}
		holdRight(t, fmt.Sprint("the leaf on the right ", n), on(api.Semi, leaf(0), leaf(n), yes), table)
		holdRight(t, fmt.Sprint("the Kind ", n), on(n, leaf(0), leaf(1), yes), slices.Contains(kinds, n))
		holdRight(t, fmt.Sprint("the Kind without all else ", n), api.Tree{Kind: n}, n == api.Leaf)
		for _, kind := range kinds {
			x := on(kind, leaf(0), leaf(1), yes)
			x.Table = n
			holdRight(t, fmt.Sprint("an operator's Table ", n), x, n == 0)
		}
	}
}

// faults are what makes a leaf, or an operator, one that no tree with a form has.
var faults = []struct {
	name string
	leaf bool
	make func(t *api.Tree)
}{
	{"a leaf's Table above all", true, func(t *api.Tree) { t.Table = 64 }},
	{"a leaf's Table below all", true, func(t *api.Tree) { t.Table = -1 }},
	{"a leaf with Hash", true, func(t *api.Tree) { t.Hash = true }},
	{"a leaf with one Kid", true, func(t *api.Tree) { t.Kids = []api.Tree{leaf(1)} }},
	{"a leaf with two Kids", true, func(t *api.Tree) { t.Kids = []api.Tree{leaf(1), leaf(2)} }},
	{"a leaf with Conj", true, func(t *api.Tree) { t.Conj = []api.Pred{yes} }},
	{"a leaf with Kids and Conj", true, func(t *api.Tree) { *t = on(api.Leaf, leaf(1), leaf(2), yes) }},
	{"an operator without Kids and Conj", true, func(t *api.Tree) { t.Kind, t.Table = api.Left, 0 }},
	{"an operator without Kids", true, func(t *api.Tree) { *t = api.Tree{Kind: api.Left, Conj: []api.Pred{yes}} }},
	{"a kind above all", false, func(t *api.Tree) { t.Kind = 5 }},
	{"a kind below all", false, func(t *api.Tree) { t.Kind = -1 }},
	{"an operator that is a leaf", false, func(t *api.Tree) { t.Kind = api.Leaf }},
	{"an operator with a Table", false, func(t *api.Tree) { t.Table = 1 }},
	{"an operator with a Table below 0", false, func(t *api.Tree) { t.Table = -1 }},
	{"an operator without Conj", false, func(t *api.Tree) { t.Conj = nil }},
	{"an operator without Conj, but with an empty list", false, func(t *api.Tree) { t.Conj = []api.Pred{} }},
	{"an operator with too many Conj", false, func(t *api.Tree) { t.Conj = times(65, yes) }},
	{"an operator without its Kids", false, func(t *api.Tree) { t.Kids = nil }},
	{"an operator with one Kid", false, func(t *api.Tree) { t.Kids = t.Kids[:1] }},
	{"an operator with three", false, func(t *api.Tree) { t.Kids = append(slices.Clone(t.Kids), leaf(3)) }},
	{"a first conjunct that may not be", false, func(t *api.Tree) { t.Conj[0] = api.Pred{} }},
	{"a last conjunct that may not be", false, func(t *api.Tree) { t.Conj[len(t.Conj)-1].Kind = 7 }},
	{"one more conjunct, which may not be", false, func(t *api.Tree) { t.Conj = append(t.Conj, eq(col(0, 4), col(1, 0))) }},
	{"a conjunct that is too deep", false, func(t *api.Tree) { t.Conj = append(t.Conj, not(not(not(not(yes))))) }},
}

// Each fault at each place of many trees.
func TestRightOfFaults(t *testing.T) {
	for i, x := range some() {
		if i%10 > 3 && i < 300 {
			continue
		}
		for at := range sample.Within(&x) {
			for _, fault := range faults {
				y := tree.Copy(x)
				one := sample.Within(&y)[at]
				if fault.leaf == (one.Kind == api.Leaf) {
					fault.make(one)
					holdRight(t, fmt.Sprint("tree ", i, ", at ", at, ": ", fault.name), y, false)
				}
			}
		}
	}
}

func TestRightOfConj(t *testing.T) {
	for _, kind := range kinds {
		for n := range 140 {
			x := on(kind, leaf(0), leaf(1), times(n, isNull(col(1, 0)))...)
			holdRight(t, fmt.Sprint(n, " Conj"), x, n >= 1 && n <= 64)
			holdRight(t, fmt.Sprint(n, " Conj within"), on(api.Inner, leaf(2), x, yes), n >= 1 && n <= 64)
		}
		for n := range 64 {
			l := times(64, yes)
			l[n] = isNull(col(64, 0))
			holdRight(t, fmt.Sprint("the conjunct ", n), on(kind, leaf(0), leaf(1), l...), false)
		}
	}
	// Each operator may have as many, whatever the others have.
	x := chain(64, 0, times(64, yes)...)
	holdRight(t, "all Conj that may be", x, true)
	if s, e := shape.Print(x); s != slowPrint(x) || e != api.OK {
		t.Errorf("the text of all Conj that may be has %d bytes, %v", len(s), e)
	}
}

func TestRightOfLeaves(t *testing.T) {
	d := &dice{13}
	for n := 1; n <= 200; n++ {
		want := n <= 64
		holdRight(t, fmt.Sprint(n, " leaves, one by one on the left"), chain(n, 0, yes), want)
		holdRight(t, fmt.Sprint(n, " leaves, one by one on the right"), chain(n, 1, yes), want)
		holdRight(t, fmt.Sprint(n, " leaves on both sides"), even(n), want)
		holdRight(t, fmt.Sprint(n, " leaves"), d.on(n), want)
	}
	for n := range 66 {
		for _, all := range []int{64, 65} {
			if n > 0 && n < all {
				x := on(api.Anti, chain(n, n%2, yes), chain(all-n, 1-n%2, yes), yes)
				holdRight(t, fmt.Sprint(n, " leaves of ", all, " on the left"), x, all == 64)
			}
		}
	}
}

// wild tells a tree of any sort: each field may be anything, but mostly it is what may be.
func (d *dice) wild(room int) api.Tree {
	if d.below(4) == 0 || room == 0 {
		t := leaf(d.below(64))
		switch d.below(40) {
		case 0:
			t.Table = wide[d.below(len(wide))]
		case 1:
			t.Hash = true
		case 2:
			t.Conj = times(1, yes)
		}
		return t
	}
	t := on(api.Inner+d.below(4), d.wild(room-1), d.wild(room-1), d.conjunct(2))
	t.Hash = d.below(2) == 0
	switch d.below(40) {
	case 0:
		t.Kind = wide[d.below(len(wide))]
	case 1:
		t.Table = wide[d.below(len(wide))]
	case 2:
		t.Kids = t.Kids[1:]
	case 3:
		t.Kids = append(t.Kids, d.wild(0))
	case 4:
		t.Conj = times(d.below(3)*65, yes)
	case 5:
		t.Conj = append(t.Conj, d.conjunct(4))
	}
	return t
}

func TestRightBySlowTwin(t *testing.T) {
	d := &dice{14}
	count := map[bool]int{}
	for i := range 6000 {
		x := d.wild(1 + i%7)
		ok, n := slowRight(x)
		want := ok && n <= 64
		count[want]++
		holdRight(t, fmt.Sprint("the wild tree ", i), x, want)
		if s, _ := shape.Print(x); want && s != slowPrint(x) {
			t.Errorf("the text of the wild tree %d is %q", i, s)
		}
	}
	if count[true] < 500 || count[false] < 500 {
		t.Errorf("too few of one sort: %v", count)
	}
}

// P12.1: what is handed in

func TestGreatTrees(t *testing.T) {
	one, leaves, deep := leaf(0), leaf(0), yes
	for range many {
		one = api.Tree{Kind: api.Inner, Kids: []api.Tree{one}, Conj: []api.Pred{yes}}
		leaves = api.Tree{Kids: []api.Tree{leaves}}
		deep = not(deep)
	}
	// Trees that have Kids in common are small, and yet more than there is time to go through; so are those that have themselves.
	shared := leaf(0)
	for range 100 {
		shared = on(api.Inner, shared, shared, yes)
	}
	first, second := []api.Tree{leaf(0), leaf(1)}, []api.Tree{leaf(0), leaf(1)}
	first[0] = api.Tree{Kind: api.Left, Kids: first, Conj: []api.Pred{yes}}
	second[1] = api.Tree{Kind: api.Left, Kids: second, Conj: []api.Pred{yes}}
	for name, x := range map[string]api.Tree{
		"left deep":        chain(many, 1, yes),
		"right deep":       chain(many, 0, yes),
		"both":             even(many),
		"one Kid each":     one,
		"leaves in leaves": leaves,
		"wide":             {Kind: api.Inner, Kids: slices.Repeat([]api.Tree{leaf(0)}, many), Conj: []api.Pred{yes}},
		"many Conj":        on(api.Inner, leaf(0), leaf(1), times(many, yes)...),
		"a deep conjunct":  on(api.Inner, leaf(0), leaf(1), deep),
		"a wide conjunct":  on(api.Inner, leaf(0), leaf(1), and(times(many, yes)...)),
		"Kids in common":   shared,
		"itself on left":   first[0],
		"itself on right":  second[1],
	} {
		holdRight(t, name, x, false)
	}
}

// spared tells a tree all lists of which have spare room, in which something stands.
func spared(d *dice, n int) api.Tree {
	if n == 1 {
		return api.Tree{Table: d.below(64), Kids: []api.Tree{leaf(77)}[:0], Conj: []api.Pred{isNull(col(7, 7))}[:0]}
	}
	at := 1 + d.below(n-1)
	parts := []api.Pred{yes, isNull(col(1, 1)), {Kind: 77}}
	conj := []api.Pred{and(parts[:2]...), yes, {Kind: 78}, {Kind: 79}}
	kids := []api.Tree{spared(d, at), spared(d, n-at), {Kind: 80}}
	return api.Tree{Kind: api.Inner + d.below(4), Kids: kids[:2], Conj: conj[:1+d.below(2)], Hash: d.below(2) == 0}
}

func TestLeavesWhatIsHandedIn(t *testing.T) {
	d := &dice{15}
	for i := range 200 {
		x := spared(d, 1+i%20)
		if i%3 == 0 {
			l := sample.Within(&x)
			l[d.below(len(l))].Table = 64
		}
		before := sample.Opened(x)
		right := shape.Right(x)
		s, e := shape.Print(x)
		if again, f := shape.Print(x); again != s || f != e || shape.Right(x) != right {
			t.Errorf("the tree %d has another text when it is printed again", i)
		}
		if !reflect.DeepEqual(sample.Opened(x), before) {
			t.Errorf("the tree %d is changed", i)
		}
		holdRight(t, fmt.Sprint("the tree with spare room ", i), x, i%3 > 0)
	}
}
