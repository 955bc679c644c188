package ident_test

import (
	"math"
	"slices"
	"strings"
	"testing"

	"watersmeet/api"
	"watersmeet/ident"
	"watersmeet/reject"
	"watersmeet/sample"
	"watersmeet/shape"
	"watersmeet/tree"
)

// hows are all changes, by the numbers that the chapter says.
var hows = []int{1, 2, 3, 4, 5}

// signs are those of the Kinds, Inner to Anti, in texts.
var signs = []string{"⋈", "⟕", "⋉", "▷"}

// signed tells a text with the signs of the Kinds a and b in place of these letters.
func signed(text string, a, b int) string {
	return strings.NewReplacer("a", signs[a-api.Inner], "b", signs[b-api.Inner]).Replace(text)
}

// same tells that two columns are the same.
func same(a, b int) api.Pred {
	return api.Pred{Kind: api.PredCmp, Op: api.Eq, A: api.Term{Kind: api.TermCol, Table: a}, B: api.Term{Kind: api.TermCol, Table: b}}
}

// on tells an operator on these Kids.
func on(kind int, conj []api.Pred, kids ...api.Tree) api.Tree {
	return api.Tree{Kind: kind, Kids: kids, Conj: conj}
}

// hold fails unless the change of the tree of a text is that of another one; none, if that is empty.
func hold(t *testing.T, how int, from, want string) {
	t.Helper()
	got, ok := ident.Do(how, sample.Parse(from))
	wanted := api.Tree{}
	if want != "" {
		wanted = sample.Parse(want)
	}
	if ok != (want != "") || !tree.Same(got, wanted) {
		text, _ := shape.Print(got)
		t.Errorf("%s by %d: %s (%t), not %s", from, how, text, ok, want)
	}
}

// slowMay is a twin of May.
func slowMay(how, a, b int) bool {
	operators := func(l ...int) bool {
		return !slices.ContainsFunc(l, func(kind int) bool { return kind < 1 || kind > 4 })
	}
	switch how {
	case 1:
		return a == 1
	case 2, 3:
		return a == 1 && operators(b) || a == 2 && b == 2
	case 4:
		return operators(a, b)
	case 5:
		return a == 1 && b == 1
	}
	return false
}

// slowTables puts the tables of the leaves in t to l.
func slowTables(t api.Tree, l map[int]bool) map[int]bool {
	if t.Kind == api.Leaf {
		l[t.Table] = true
	}
	for _, kid := range t.Kids {
		slowTables(kid, l)
	}
	return l
}

// slowNames tells the tables of t that the conjuncts of an operator name.
func slowNames(operator, t api.Tree) []int {
	in := slowTables(t, map[int]bool{})
	var l []int
	var look func(p api.Pred)
	look = func(p api.Pred) {
		for _, x := range []api.Term{p.A, p.B} {
			if x.Kind == api.TermCol && 0 <= x.Table && x.Table < 64 && in[x.Table] {
				l = append(l, x.Table)
			}
		}
		for _, part := range p.Parts {
			look(part)
		}
	}
	for _, p := range operator.Conj {
		look(p)
	}
	return l
}

// slowDo is a twin of Do, by the words of the chapter.
func slowDo(how int, t api.Tree) (api.Tree, bool) {
	put := func(o, l, r api.Tree) (api.Tree, bool) {
		return api.Tree{Kind: o.Kind, Conj: o.Conj, Hash: o.Hash, Kids: []api.Tree{l, r}}, true
	}
	two := func(x api.Tree) bool { return len(x.Kids) == 2 }
	names := func(o, x api.Tree) bool { return len(slowNames(o, x)) > 0 }
	null := func(o, x api.Tree) bool {
		s := uint64(0)
		for _, i := range slowNames(o, x) {
			s |= 1 << i
		}
		return reject.Rejects(o.Conj, s)
	}
	if !two(t) {
		return api.Tree{}, false
	}
	low, g := t.Kids[0], t.Kids[1]
	switch {
	case how == 1 && t.Kind == 1:
		return put(t, g, low)
	case how == 2 && two(low) && slowMay(2, low.Kind, t.Kind) && !names(t, low.Kids[0]):
		if t.Kind == 1 || low.Kind == 1 || null(t, low.Kids[1]) {
			within, _ := put(t, low.Kids[1], g)
			return put(low, low.Kids[0], within)
		}
	case how == 4 && two(low) && slowMay(4, low.Kind, t.Kind) && !names(t, low.Kids[1]):
		within, _ := put(t, low.Kids[0], g)
		return put(low, within, low.Kids[1])
	}
	e, low := t.Kids[0], t.Kids[1]
	switch {
	case how == 3 && two(low) && slowMay(3, t.Kind, low.Kind) && !names(t, low.Kids[1]):
		if t.Kind == 1 || null(low, low.Kids[0]) {
			within, _ := put(t, e, low.Kids[0])
			return put(low, within, low.Kids[1])
		}
	case how == 5 && two(low) && slowMay(5, t.Kind, low.Kind) && !names(t, low.Kids[0]):
		within, _ := put(t, e, low.Kids[1])
		return put(low, low.Kids[0], within)
	}
	return api.Tree{}, false
}

// slowWays is a twin of Ways.
func slowWays(t api.Tree) []api.Tree {
	var l []api.Tree
	for _, how := range hows {
		if x, ok := slowDo(how, t); ok {
			l = append(l, x)
		}
	}
	if len(t.Kids) != 2 {
		return l
	}
	for _, x := range slowWays(t.Kids[0]) {
		l = append(l, api.Tree{Kind: t.Kind, Table: t.Table, Kids: []api.Tree{x, t.Kids[1]}, Conj: t.Conj, Hash: t.Hash})
	}
	for _, x := range slowWays(t.Kids[1]) {
		l = append(l, api.Tree{Kind: t.Kind, Table: t.Table, Kids: []api.Tree{t.Kids[0], x}, Conj: t.Conj, Hash: t.Hash})
	}
	return l
}

// some are the trees of right queries, and trees of any sort.
func some() []api.Tree {
	d := sample.New(17)
	var l []api.Tree
	for range 2000 {
		l = append(l, d.Query(6).Root)
	}
	for range 4000 {
		l = append(l, d.Wild(4))
	}
	return l
}

// P17.1

func TestHows(t *testing.T) {
	if got := []int{ident.Turn, ident.Rotate, ident.Back, ident.Swap, ident.Exchange}; !slices.Equal(got, hows) {
		t.Error(got)
	}
}

func TestMay(t *testing.T) {
	for how, want := range map[int]string{
		0:              "-----  -----  -----  -----  -----",
		ident.Turn:     "-----  xxxxx  -----  -----  -----",
		ident.Rotate:   "-----  -xxxx  --x--  -----  -----",
		ident.Back:     "-----  -xxxx  --x--  -----  -----",
		ident.Swap:     "-----  -xxxx  -xxxx  -xxxx  -xxxx",
		ident.Exchange: "-----  -x---  -----  -----  -----",
		6:              "-----  -----  -----  -----  -----",
	} {
		for a, row := range strings.Fields(want) {
			for b, sign := range row {
				if got := ident.May(how, a, b); got != (sign == 'x') {
					t.Errorf("%d of %d and %d: %t", how, a, b, got)
				}
			}
		}
	}
}

func TestMayOfWideNumbers(t *testing.T) {
	for _, how := range sample.Wide() {
		for _, a := range sample.Wide() {
			for _, b := range sample.Wide() {
				if got := ident.May(how, a, b); got != slowMay(how, a, b) {
					t.Errorf("%d of %d and %d: %t", how, a, b, got)
				}
			}
		}
	}
}

// P17.2: Do

func TestDo(t *testing.T) {
	for _, c := range []struct {
		how        int
		from, want string
	}{
		// Conjuncts and Hash go with their operators, and the trees that they are on stay as they are.
		{ident.Turn, "(0⋈[=0.0,1.0;<0.1,1.1]1)", "(1⋈[=0.0,1.0;<0.1,1.1]0)"},
		{ident.Turn, "((3⋉#[=3.0,0.0]0)⋈#[=3.0,1.0](1⟕[=1.0,2.0]2))", "((1⟕[=1.0,2.0]2)⋈#[=3.0,1.0](3⋉#[=3.0,0.0]0))"},
		{ident.Rotate, "((0⋈[=0.0,1.0;⊤]1)⋈#[=1.0,2.0]2)", "(0⋈[=0.0,1.0;⊤](1⋈#[=1.0,2.0]2))"},
		{ident.Rotate, "((0⋈#[=0.0,1.0]1)⋈[=1.0,2.0;⊤]2)", "(0⋈#[=0.0,1.0](1⋈[=1.0,2.0;⊤]2))"},
		{ident.Rotate, "(((0▷[=0.0,3.0]3)⋈[=0.0,1.0](1⟕#[=1.0,4.0]4))⟕[=1.0,2.0](2⋉[=2.0,5.0]5))", "((0▷[=0.0,3.0]3)⋈[=0.0,1.0]((1⟕#[=1.0,4.0]4)⟕[=1.0,2.0](2⋉[=2.0,5.0]5)))"},
		{ident.Back, "(0⋈#[=0.0,1.0](1⋈[=1.0,2.0;⊤]2))", "((0⋈#[=0.0,1.0]1)⋈[=1.0,2.0;⊤]2)"},
		{ident.Back, "(0⋈[=0.0,1.0;⊤](1▷#[=1.0,2.0]2))", "((0⋈[=0.0,1.0;⊤]1)▷#[=1.0,2.0]2)"},
		{ident.Back, "((0▷[=0.0,3.0]3)⋈[=0.0,1.0]((1⟕#[=1.0,4.0]4)⟕[=1.0,2.0](2⋉[=2.0,5.0]5)))", "(((0▷[=0.0,3.0]3)⋈[=0.0,1.0](1⟕#[=1.0,4.0]4))⟕[=1.0,2.0](2⋉[=2.0,5.0]5))"},
		{ident.Swap, "((0⟕#[=0.0,1.0]1)▷[=0.0,2.0;⊤]2)", "((0▷[=0.0,2.0;⊤]2)⟕#[=0.0,1.0]1)"},
		{ident.Swap, "((0⋉[=0.0,1.0;⊤]1)⋈#[=0.0,2.0]2)", "((0⋈#[=0.0,2.0]2)⋉[=0.0,1.0;⊤]1)"},
		{ident.Swap, "(((0▷[=0.0,3.0]3)⟕[=0.0,1.0](1⟕#[=1.0,4.0]4))⋈[=0.0,2.0](2⋉[=2.0,5.0]5))", "(((0▷[=0.0,3.0]3)⋈[=0.0,2.0](2⋉[=2.0,5.0]5))⟕[=0.0,1.0](1⟕#[=1.0,4.0]4))"},
		{ident.Exchange, "(0⋈#[=0.0,2.0](1⋈[=1.0,2.0;⊤]2))", "(1⋈[=1.0,2.0;⊤](0⋈#[=0.0,2.0]2))"},
		{ident.Exchange, "(0⋈[=0.0,2.0;⊤](1⋈#[=1.0,2.0]2))", "(1⋈#[=1.0,2.0](0⋈[=0.0,2.0;⊤]2))"},
		{ident.Exchange, "((0▷[=0.0,3.0]3)⋈[=0.0,2.0]((1⟕#[=1.0,4.0]4)⋈[=1.0,2.0](2⋉[=2.0,5.0]5)))", "((1⟕#[=1.0,4.0]4)⋈[=1.0,2.0]((0▷[=0.0,3.0]3)⋈[=0.0,2.0](2⋉[=2.0,5.0]5)))"},
		// The greatest table.
		{ident.Rotate, "((63⋈[=63.0,1.0]1)⋈[=1.0,2.0]2)", "(63⋈[=63.0,1.0](1⋈[=1.0,2.0]2))"},
		{ident.Rotate, "((63⋈[=63.0,1.0]1)⋈[=63.0,2.0]2)", ""},
		// Trees without this form.
		{ident.Turn, "0", ""}, {ident.Rotate, "0", ""}, {ident.Back, "0", ""}, {ident.Swap, "0", ""}, {ident.Exchange, "0", ""},
		{ident.Rotate, "(0⋈[=0.0,1.0](1⋈[=1.0,2.0]2))", ""},
		{ident.Swap, "(0⋈[=0.0,1.0](1⋈[=1.0,2.0]2))", ""},
		{ident.Back, "((0⋈[=0.0,1.0]1)⋈[=1.0,2.0]2)", ""},
		{ident.Exchange, "((0⋈[=0.0,1.0]1)⋈[=1.0,2.0]2)", ""},
	} {
		hold(t, c.how, c.from, c.want)
	}
}

// Each two Kinds, where all else that is asked holds.
func TestDoOfKinds(t *testing.T) {
	for a := api.Inner; a <= api.Anti; a++ {
		for b := api.Inner; b <= api.Anti; b++ {
			for _, c := range []struct {
				how        int
				from, want string
			}{
				{ident.Turn, "(0a[=0.0,1.0](1b[=1.0,2.0]2))", "((1b[=1.0,2.0]2)a[=0.0,1.0]0)"},
				{ident.Turn, "((0b[=0.0,1.0]1)a[=0.0,2.0]2)", "(2a[=0.0,2.0](0b[=0.0,1.0]1))"},
				{ident.Rotate, "((0a[=0.0,1.0]1)b[=1.0,2.0]2)", "(0a[=0.0,1.0](1b[=1.0,2.0]2))"},
				{ident.Back, "(0a[=0.0,1.0](1b[=1.0,2.0]2))", "((0a[=0.0,1.0]1)b[=1.0,2.0]2)"},
				{ident.Swap, "((0a[=0.0,1.0]1)b[=0.0,2.0]2)", "((0b[=0.0,2.0]2)a[=0.0,1.0]1)"},
				{ident.Exchange, "(0a[=0.0,2.0](1b[=1.0,2.0]2))", "(1b[=1.0,2.0](0a[=0.0,2.0]2))"},
			} {
				want := ""
				if slowMay(c.how, a, b) {
					want = signed(c.want, a, b)
				}
				hold(t, c.how, signed(c.from, a, b), want)
			}
		}
	}
}

// Tables are named by each conjunct, and by all that is in it, and they are those of all leaves, the hidden ones, too.
func TestDoOfNames(t *testing.T) {
	for _, c := range []struct {
		how      int
		from     string // with x where the conjuncts stand that may not name a tree
		not, may []string
	}{
		// e: 0, 3, 4; f: 1, 5; g: 2, 6.
		{ident.Rotate, "(((0⋈[⊤](3▷[⊤]4))⋈[⊤](1⋉[⊤]5))⋈[x](2⟕[⊤]6))", []string{"0", "3", "4"}, []string{"1", "5", "2", "6", "7"}},
		{ident.Rotate, "(((0⋈[⊤](3▷[⊤]4))⋈[⊤](1⋉[⊤]5))▷[x](2⟕[⊤]6))", []string{"0", "3", "4"}, []string{"1", "5", "2", "6", "7"}},
		{ident.Back, "((0⋈[⊤](3▷[⊤]4))⋈[x]((1⋉[⊤]5)⋉[⊤](2▷[⊤]6)))", []string{"2", "6"}, []string{"0", "3", "4", "1", "5", "7"}},
		{ident.Back, "((0⋈[⊤](3▷[⊤]4))⟕[x]((1⋉[⊤]5)⟕[⊥](2▷[⊤]6)))", []string{"2", "6"}, []string{"0", "3", "4", "1", "5", "7"}},
		{ident.Swap, "(((0⋈[⊤](3▷[⊤]4))⟕[⊤](1⋉[⊤]5))▷[x](2⟕[⊤]6))", []string{"1", "5"}, []string{"0", "3", "4", "2", "6", "7"}},
		{ident.Exchange, "((0⋈[⊤](3▷[⊤]4))⋈[x]((1⋉[⊤]5)⋈[⊤](2⟕[⊤]6)))", []string{"1", "5"}, []string{"0", "3", "4", "2", "6", "7"}},
	} {
		for _, form := range []string{"∅i.3", "=i.0,'1", "<'1,i.0", "⊤;⊤;∅i.0", "∅i.0;⊤", "∧(⊤;∨(⊤;¬∅i.0))"} {
			for name, l := range map[bool][]string{false: c.not, true: c.may} {
				for _, i := range l {
					x := sample.Parse(strings.ReplaceAll(c.from, "x", strings.ReplaceAll(form, "i", i)))
					got, ok := ident.Do(c.how, x)
					want, _ := slowDo(c.how, x)
					if ok != name || !tree.Same(got, want) {
						text, _ := shape.Print(x)
						t.Errorf("%s by %d: %v, %t", text, c.how, got, ok)
					}
				}
			}
		}
	}
	// What the other operator names is of no matter.
	for how, l := range map[int][2]string{
		ident.Rotate:   {"((0⋈[=1.0,2.0;=0.0,2.0]1)⋈[∅1.0]2)", "(0⋈[=1.0,2.0;=0.0,2.0](1⋈[∅1.0]2))"},
		ident.Back:     {"(0⋈[∅0.0](1⋈[=0.0,2.0;=1.0,2.0]2))", "((0⋈[∅0.0]1)⋈[=0.0,2.0;=1.0,2.0]2)"},
		ident.Swap:     {"((0⋈[=1.0,2.0;=0.0,2.0]1)⋈[∅0.0]2)", "((0⋈[∅0.0]2)⋈[=1.0,2.0;=0.0,2.0]1)"},
		ident.Exchange: {"(0⋈[∅0.0](1⋈[=0.0,1.0;=0.0,2.0]2))", "(1⋈[=0.0,1.0;=0.0,2.0](0⋈[∅0.0]2))"},
	} {
		hold(t, how, l[0], l[1])
	}
}

// Of two outer joins the conjuncts of b have to reject nulls: those of the tables of f alone that they name.
func TestDoOfNulls(t *testing.T) {
	for _, c := range []struct {
		conj string
		want bool
	}{
		{"=1.0,2.0", true},
		{"¬∅1.0", true},
		{"⊥", true},
		{"?", true},
		{"=2.0,'1;=1.3,2.0", true},
		{"∨(=1.0,2.0;∅1.0);<1.1,'4", true},
		{"∧(∅1.0;=1.0,2.0)", true},
		{"∨(=1.0,2.0;=1.1,'2)", true},
		{"=3.0,2.0", true},
		{"=1.0,3.0", true},
		// Both are null together, if both are named.
		{"∨(=1.0,'1;=3.0,'1)", true},
		{"∨(∅1.0;=3.0,2.0)", false},
		{"∅1.0", false},
		{"∨(=1.0,2.0;∅1.0)", false},
		{"⊤", false},
		{"=2.0,'1", false},
		{"¬=1.0,2.0;∅1.0", true},
		{"¬∧(=1.0,2.0;=2.0,'1)", false},
		// Nulls of g are of no matter.
		{"∧(∅1.0;=2.0,'5)", false},
		{"∅1.0;=2.0,'5", false},
		{"∧(=1.0,'1;∅2.0)", true},
		{"∨(=1.0,2.0;∅2.0)", false},
	} {
		low, high := "((0⟕[=0.0,1.0](1⟕[=1.0,3.0]3))⟕[x]2)", "(0⟕[=0.0,1.0]((1⟕[=1.0,3.0]3)⟕[x]2))"
		low, high = strings.ReplaceAll(low, "x", c.conj), strings.ReplaceAll(high, "x", c.conj)
		if c.want {
			hold(t, ident.Rotate, low, high)
			hold(t, ident.Back, high, low)
			continue
		}
		hold(t, ident.Rotate, low, "")
		hold(t, ident.Back, high, "")
	}
	for _, c := range []struct {
		how        int
		from, want string
	}{
		// Where one alone is Left nothing is asked of nulls; nor is it of a's conjuncts, nor where outer joins swap.
		{ident.Rotate, "((0⋈[=0.0,1.0]1)⟕[∨(=1.0,2.0;∅1.0)]2)", "(0⋈[=0.0,1.0](1⟕[∨(=1.0,2.0;∅1.0)]2))"},
		{ident.Back, "(0⋈[=0.0,1.0](1⟕[∨(=1.0,2.0;∅1.0)]2))", "((0⋈[=0.0,1.0]1)⟕[∨(=1.0,2.0;∅1.0)]2)"},
		{ident.Rotate, "((0⟕[∨(=0.0,1.0;∅1.0)]1)⟕[=1.0,2.0]2)", "(0⟕[∨(=0.0,1.0;∅1.0)](1⟕[=1.0,2.0]2))"},
		{ident.Back, "(0⟕[∨(=0.0,1.0;∅1.0)](1⟕[=1.0,2.0]2))", "((0⟕[∨(=0.0,1.0;∅1.0)]1)⟕[=1.0,2.0]2)"},
		{ident.Swap, "((0⟕[∨(=0.0,1.0;∅0.0)]1)⟕[∨(=0.0,2.0;∅0.0)]2)", "((0⟕[∨(=0.0,2.0;∅0.0)]2)⟕[∨(=0.0,1.0;∅0.0)]1)"},
		// Tables that are not named, or are of e, are not thought null.
		{ident.Back, "(0⟕[=0.0,1.0](1⟕[=0.0,2.0]2))", ""},
		{ident.Back, "(0⟕[=0.0,1.0]((1⟕[⊤]3)⟕[∨(=1.0,2.0;∅4.0)]2))", ""},
	} {
		hold(t, c.how, c.from, c.want)
	}
}

// Each change of trees in which some operators have not two Kids.
func TestDoOfForms(t *testing.T) {
	kids := []api.Tree{{Table: 0}, {Table: 1}, {Table: 2}, {Table: 3}}
	for _, how := range append(hows, 0, 6) {
		for n := range 5 {
			for low := range 5 {
				for at := range max(n, 1) {
					x := on(api.Inner, nil, slices.Clone(kids[:n])...)
					if n > 0 {
						x.Kids[at] = on(api.Inner, nil, kids[:low]...)
					}
					got, ok := ident.Do(how, x)
					want := false
					switch how {
					case ident.Turn:
						want = n == 2
					case ident.Rotate, ident.Swap:
						want = n == 2 && low == 2 && at == 0
					case ident.Back, ident.Exchange:
						want = n == 2 && low == 2 && at == 1
					}
					if ok != want || !want && !tree.Same(got, api.Tree{}) {
						t.Errorf("%v by %d: %v, %t", x, how, got, ok)
					}
				}
			}
		}
	}
}

// Of trees that are not right what is asked is asked, and nothing else: all else in them stays, but an operator that is put together anew is none of a table.
func TestDoOfWrongTrees(t *testing.T) {
	odd := api.Tree{Kind: 9, Table: -7, Hash: true, Kids: []api.Tree{{Table: 70}}, Conj: []api.Pred{{Kind: -1, Parts: []api.Pred{{}}}}}
	leaves := api.Tree{Table: 3, Hash: true, Conj: []api.Pred{same(1, 1)}, Kids: []api.Tree{odd, {Table: 4}, odd}}
	conj := []api.Pred{{Kind: 9, Truth: 9, Op: 9, A: api.Term{Table: 3}}, same(64, -1)}
	a := api.Tree{Kind: api.Inner, Table: 5, Conj: conj, Hash: true, Kids: []api.Tree{odd, leaves}}
	b := api.Tree{Kind: api.Inner, Table: 6, Kids: []api.Tree{a, odd}}
	under := api.Tree{Kind: api.Inner, Table: 6, Kids: []api.Tree{leaves, odd}}
	over := api.Tree{Kind: api.Inner, Table: 5, Conj: conj, Hash: true, Kids: []api.Tree{odd, under}}
	inner := func(hash bool, conj []api.Pred, l, r api.Tree) api.Tree {
		return api.Tree{Kind: api.Inner, Conj: conj, Hash: hash, Kids: []api.Tree{l, r}}
	}
	for _, c := range []struct {
		how        int
		from, want api.Tree
	}{
		{ident.Turn, b, inner(false, nil, odd, a)},
		{ident.Rotate, b, inner(true, conj, odd, inner(false, nil, leaves, odd))},
		{ident.Swap, b, inner(true, conj, inner(false, nil, odd, odd), leaves)},
		{ident.Back, over, inner(false, nil, inner(true, conj, odd, leaves), odd)},
		{ident.Exchange, over, inner(false, nil, leaves, inner(true, conj, odd, odd))},
	} {
		if got, ok := ident.Do(c.how, c.from); !ok || !tree.Same(got, c.want) {
			t.Errorf("%d: %v, %t, not %v", c.how, got, ok, c.want)
		}
	}
	// The leaves among a leaf's Kids are in it, and a leaf of no set's table is named by nothing.
	for _, i := range []int{3, 4} {
		b.Conj = []api.Pred{same(i, i)}
		if got, ok := ident.Do(ident.Swap, b); ok || !tree.Same(got, api.Tree{}) {
			t.Errorf("%d: %v", i, got)
		}
	}
	for _, i := range []int{70, -7, 64, 5, 6, math.MinInt, math.MaxInt} {
		b.Conj = []api.Pred{same(i, i)}
		if _, ok := ident.Do(ident.Rotate, b); !ok {
			t.Errorf("%d is named", i)
		}
	}
}

func TestDoOfWideNumbers(t *testing.T) {
	x := sample.Parse("((0⋈[=0.0,1.0]1)⋈[=1.0,2.0](2⋈[=2.0,3.0]3))")
	for _, how := range sample.Wide() {
		_, ok := ident.Do(how, x)
		if want := 1 <= how && how <= 3; ok != want {
			t.Errorf("by %d: %t", how, ok)
		}
		// As a Kind it is one of an operator, or none.
		for _, other := range sample.Wide() {
			y, z := tree.Copy(x), tree.Copy(x)
			y.Kind, y.Kids[0].Kind = other, how
			z.Kind, z.Kids[1].Kind = other, how
			for _, change := range hows {
				for _, from := range []api.Tree{y, z} {
					got, ok := ident.Do(change, from)
					want, may := slowDo(change, from)
					if ok != may || !tree.Same(got, want) {
						t.Fatalf("%v by %d: %v, %t, not %v", from, change, got, ok, want)
					}
				}
			}
		}
	}
}

func TestDoBySlowTwin(t *testing.T) {
	done := map[int]int{}
	for _, x := range some() {
		for _, part := range sample.Within(&x) {
			for how := range 8 {
				got, ok := ident.Do(how-1, *part)
				want, may := slowDo(how-1, *part)
				if ok != may || !tree.Same(got, want) {
					t.Fatalf("%v by %d: %v, %t, not %v", *part, how-1, got, ok, want)
				}
				if ok {
					done[how-1]++
				}
			}
		}
	}
	for _, how := range hows {
		if done[how] < 200 {
			t.Errorf("%d was done %d times alone", how, done[how])
		}
	}
}

// P17.2: Ways

// texts tells those of all of l.
func texts(l []api.Tree) []string {
	var all []string
	for _, t := range l {
		text, _ := shape.Print(t)
		all = append(all, text)
	}
	return all
}

func TestWays(t *testing.T) {
	for text, want := range map[string][]string{
		"0":               nil,
		"(0▷[=0.0,1.0]1)": nil,
		"(0⋈[=0.0,1.0]1)": {"(1⋈[=0.0,1.0]0)"},
		// Change by change, then within the first one, then within the second one.
		"((0⋈[=0.0,1.0]1)⋈#[=1.0,2.0](2⋈[=2.0,3.0]3))": {
			"((2⋈[=2.0,3.0]3)⋈#[=1.0,2.0](0⋈[=0.0,1.0]1))",
			"(0⋈[=0.0,1.0](1⋈#[=1.0,2.0](2⋈[=2.0,3.0]3)))",
			"(((0⋈[=0.0,1.0]1)⋈#[=1.0,2.0]2)⋈[=2.0,3.0]3)",
			"((1⋈[=0.0,1.0]0)⋈#[=1.0,2.0](2⋈[=2.0,3.0]3))",
			"((0⋈[=0.0,1.0]1)⋈#[=1.0,2.0](3⋈[=2.0,3.0]2))",
		},
		"((1⋈[=1.0,0.0]0)⋈[=1.0,3.0](2⋈[=2.0,3.0]3))": {
			"((2⋈[=2.0,3.0]3)⋈[=1.0,3.0](1⋈[=1.0,0.0]0))",
			"((1⋈[=1.0,3.0](2⋈[=2.0,3.0]3))⋈[=1.0,0.0]0)",
			"(2⋈[=2.0,3.0]((1⋈[=1.0,0.0]0)⋈[=1.0,3.0]3))",
			"((0⋈[=1.0,0.0]1)⋈[=1.0,3.0](2⋈[=2.0,3.0]3))",
			"((1⋈[=1.0,0.0]0)⋈[=1.0,3.0](3⋈[=2.0,3.0]2))",
		},
		// Far within, by all that is around.
		"(0▷#[=0.0,1.0](((1⟕[=1.0,2.0]2)⟕[=2.0,3.0]3)⋉[=1.0,4.0]4))": {
			"(0▷#[=0.0,1.0](((1⟕[=1.0,2.0]2)⋉[=1.0,4.0]4)⟕[=2.0,3.0]3))",
			"(0▷#[=0.0,1.0]((1⟕[=1.0,2.0](2⟕[=2.0,3.0]3))⋉[=1.0,4.0]4))",
		},
		"((0⋉[=0.0,1.0](1⋈#[=1.0,2.0](2⋈[=2.0,3.0]3)))⟕[=0.0,4.0](4⋉[=4.0,5.0]5))": {
			"((0⟕[=0.0,4.0](4⋉[=4.0,5.0]5))⋉[=0.0,1.0](1⋈#[=1.0,2.0](2⋈[=2.0,3.0]3)))",
			"((0⋉[=0.0,1.0]((2⋈[=2.0,3.0]3)⋈#[=1.0,2.0]1))⟕[=0.0,4.0](4⋉[=4.0,5.0]5))",
			"((0⋉[=0.0,1.0]((1⋈#[=1.0,2.0]2)⋈[=2.0,3.0]3))⟕[=0.0,4.0](4⋉[=4.0,5.0]5))",
			"((0⋉[=0.0,1.0](1⋈#[=1.0,2.0](3⋈[=2.0,3.0]2)))⟕[=0.0,4.0](4⋉[=4.0,5.0]5))",
		},
	} {
		if got := texts(ident.Ways(sample.Parse(text))); !slices.Equal(got, want) {
			t.Errorf("%s: %q, not %q", text, got, want)
		}
	}
}

// It is gone on within two Kids alone, whatever the tree is; and the tree around stays as it was.
func TestWaysOfForms(t *testing.T) {
	x := sample.Parse("(0⋈[=0.0,1.0]1)")
	turned := sample.Parse("(1⋈[=0.0,1.0]0)")
	for _, kind := range []int{api.Leaf, 5, -1, 257, 1<<32 + 1} {
		for _, l := range [][]api.Tree{nil, {x}, {x, {}}, {{}, x}, {x, {}, {}}, {x, x, x}} {
			around := api.Tree{Kind: kind, Table: 6, Hash: true, Kids: l, Conj: []api.Pred{same(8, 9)}}
			got := ident.Ways(around)
			want := []api.Tree{}
			if len(l) == 2 {
				want = append(want, tree.Copy(around))
				at := slices.IndexFunc(l, func(kid api.Tree) bool { return kid.Kind == api.Inner })
				want[0].Kids[at] = turned
			}
			if !slices.EqualFunc(got, want, tree.Same) {
				t.Errorf("%v: %v", around, got)
			}
		}
	}
}

func TestWaysBySlowTwin(t *testing.T) {
	most := 0
	for _, x := range some() {
		got := ident.Ways(x)
		if want := slowWays(x); !slices.EqualFunc(got, want, tree.Same) {
			t.Fatalf("%v: %v, not %v", x, got, want)
		}
		most = max(most, len(got))
	}
	if most < 10 {
		t.Errorf("%d ways alone", most)
	}
}

// Great trees

// many is how many trees may be nested in one another.
const many = 1 << 16

// great is a great tree, by which hows it changes as a whole, and how many ways there are.
type great struct {
	t   api.Tree
	how []int
	all int
}

// greats are great trees of all sorts, by their names.
func greats() map[string]great {
	long := slices.Repeat([]api.Pred{same(1, 2)}, many)
	nested := same(0, 1)
	one := api.Tree{}
	for range many {
		nested = api.Pred{Kind: api.PredNot, Parts: []api.Pred{nested}}
		one = on(api.Inner, nil, one)
	}
	inner := on(api.Inner, []api.Pred{same(2, 3)}, api.Tree{Table: 2}, api.Tree{Table: 3})
	far := inner
	for range many - 2 {
		far = on(api.Semi, []api.Pred{same(0, 2)}, api.Tree{Table: 0}, far)
	}
	beside := on(api.Left, []api.Pred{same(0, 1)}, sample.Deep(api.Left, many-3, 0, same(0, 1)), api.Tree{Table: 2})
	return map[string]great{
		"left deep":        {sample.Deep(api.Left, many-1, 0, same(0, 1)), nil, 0},
		"right deep":       {sample.Deep(api.Left, many-1, 1, same(0, 1)), nil, 0},
		"leaves in leaves": {sample.Deep(api.Leaf, many-1, 0, same(0, 1)), nil, 0},
		"anti, right deep": {sample.Deep(api.Anti, many-1, 1), nil, 0},
		"no Kind":          {sample.Deep(5, many-1, 0), nil, 0},
		"one Kid each":     {one, nil, 0},
		"wide":             {on(api.Inner, nil, slices.Repeat([]api.Tree{{}}, many)...), nil, 0},
		"beside wide ones": {on(api.Inner, nil, on(api.Inner, nil, slices.Repeat([]api.Tree{inner}, many)...), inner), []int{ident.Turn, ident.Back, ident.Exchange}, 4},
		"far within":       {far, nil, 1},
		"beside deep ones": {on(api.Left, long, beside, api.Tree{Table: 3}), nil, 0},
		"many conjuncts":   {on(api.Left, long, on(api.Left, long, api.Tree{}, api.Tree{Table: 1}), api.Tree{Table: 2}), []int{ident.Rotate}, 1},
		"a deep conjunct":  {on(api.Semi, []api.Pred{nested}, on(api.Inner, []api.Pred{nested}, api.Tree{}, api.Tree{Table: 2}), api.Tree{Table: 1}), []int{ident.Swap}, 2},
	}
}

func TestDoOfGreatTrees(t *testing.T) {
	for name, c := range greats() {
		var did []int
		for how := range 7 {
			got, ok := ident.Do(how, c.t)
			if ok {
				did = append(did, how)
			}
			if want, may := slowDo(how, c.t); ok != may || !tree.Same(got, want) {
				t.Errorf("%s by %d: a tree of %d, %t", name, how, tree.Size(got), ok)
			}
		}
		if !slices.Equal(did, c.how) {
			t.Errorf("%s: %v, not %v", name, did, c.how)
		}
	}
	for _, at := range []int{0, 1} {
		x := sample.Deep(api.Inner, many-1, at, same(0, 1))
		got, ok := ident.Do(ident.Turn, x)
		if !ok || !tree.Same(got.Kids[at], x.Kids[1-at]) || !tree.Same(got.Kids[1-at], x.Kids[at]) {
			t.Errorf("%d: %t", at, ok)
		}
	}
}

// However deep a tree is, its ways come soon, if they are few.
func TestWaysOfGreatTrees(t *testing.T) {
	for name, c := range greats() {
		l := ident.Ways(c.t)
		if len(l) != c.all {
			t.Errorf("%s: %d ways, not %d", name, len(l), c.all)
		}
		for i, x := range l {
			if tree.Size(x) != tree.Size(c.t) || tree.Same(x, c.t) {
				t.Errorf("%s: the way %d has %d trees", name, i, tree.Size(x))
			}
		}
	}
}

// The chapter's examples

func TestExample(t *testing.T) {
	hold(t, ident.Turn, "(0⋈[=0.0,1.0]1)", "(1⋈[=0.0,1.0]0)")
	hold(t, ident.Rotate, "((0⟕[=0.0,1.0]1)⟕[=1.0,2.0]2)", "(0⟕[=0.0,1.0](1⟕[=1.0,2.0]2))")
}
