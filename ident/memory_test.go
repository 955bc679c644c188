package ident_test

import (
	"reflect"
	"slices"
	"testing"

	"watersmeet/api"
	"watersmeet/ident"
	"watersmeet/sample"
	"watersmeet/tree"
)

// What is handed in is neither changed nor kept, and what is handed out is new memory.

// changeable are trees that may change by each how, at the whole tree and within it.
var changeable = []string{
	"(((0⋈[∧(=0.0,1.0;⊤);⊤]1)⋈[=1.0,2.0]2)⋈#[∨(=1.0,3.0;⊥)](3⟕[∧(=3.0,4.0;∨(⊤;⊥))]4))",
	"((0⟕[∧(=0.0,1.0;⊤);⊤]1)⟕[∨(=1.0,2.0;⊥)](2⟕[∧(=2.0,4.0;∨(⊤;⊥))]4))",
	"(0⋈[∨(=0.0,2.0;⊥)](1⋈[∧(=1.0,2.0;⊤)]2))",
	"((0⋉[∨(=0.0,1.0;⊥)]1)▷[∧(=0.0,2.0;⊤)](2⋈[=2.0,3.0]3))",
}

// told tells what each change, and Ways, make of x.
func told(x api.Tree) []api.Tree {
	var l []api.Tree
	for _, how := range hows {
		if way, ok := ident.Do(how, x); ok {
			l = append(l, way)
		}
	}
	return append(l, ident.Ways(x)...)
}

// roomy tells t with spare room, in which something stands, behind all its lists.
func roomy(t api.Tree) api.Tree {
	t.Conj = roomyPreds(t.Conj)
	kids := []api.Tree{}
	for _, kid := range t.Kids {
		kids = append(kids, roomy(kid))
	}
	kids = append(kids, api.Tree{Kind: 78}, api.Tree{Kind: 79})
	t.Kids = kids[:len(t.Kids)]
	return t
}

func roomyPreds(l []api.Pred) []api.Pred {
	all := []api.Pred{}
	for _, p := range l {
		p.Parts = roomyPreds(p.Parts)
		all = append(all, p)
	}
	all = append(all, api.Pred{Kind: 78}, api.Pred{Kind: 79})
	return all[:len(l)]
}

func TestLeavesWhatIsHandedIn(t *testing.T) {
	all := some()[:1000]
	for _, text := range changeable {
		all = append(all, parse(t, text))
	}
	for _, x := range all {
		x = roomy(x)
		before := sample.Opened(x)
		want := told(x)
		if !reflect.DeepEqual(sample.Opened(x), before) {
			t.Fatalf("%v is changed", x)
		}
		// Each list in what is told has no part in it.
		for _, way := range told(x) {
			sample.Spoil(way)
		}
		if !reflect.DeepEqual(sample.Opened(x), before) {
			t.Fatalf("%v shares memory with what is told", x)
		}
		if !slices.EqualFunc(told(x), want, tree.Same) {
			t.Fatalf("of %v something else is told when it is asked again", x)
		}
	}
}

// What was told stays as it was, whatever is done to what was handed in.
func TestKeepsNothing(t *testing.T) {
	for _, text := range changeable {
		x := roomy(parse(t, text))
		got := told(x)
		want := told(parse(t, text))
		sample.Spoil(x)
		if !slices.EqualFunc(got, want, tree.Same) {
			t.Errorf("%s: what is told shares memory with what was handed in", text)
		}
	}
}

// No two lists of one answer share memory: each tree within one is spoilt, and all that is not in it stays.
func TestSharesNothing(t *testing.T) {
	for _, text := range changeable {
		x := parse(t, text)
		want := told(x)
		for i := range want {
			for at := range sample.Within(&want[i]) {
				got := told(x)
				one := sample.Within(&got[i])[at]
				kept := tree.Copy(*one)
				sample.Spoil(*one)
				*one = kept
				if !slices.EqualFunc(got, want, tree.Same) {
					t.Errorf("%s: the tree %d of the way %d shares memory with others", text, at, i)
				}
			}
		}
	}
}

// Lists that share memory in what is handed in share none in what is told.
func TestPartsInCommon(t *testing.T) {
	parts := []api.Pred{same(0, 1), same(0, 1)}
	conj := []api.Pred{{Kind: api.PredAnd, Parts: parts}, {Kind: api.PredOr, Parts: parts[:1]}}
	kids := []api.Tree{{Table: 2}, {Table: 3}}
	low := on(api.Inner, conj, kids...)
	x := on(api.Inner, conj, low, low)
	want := told(x)
	if len(want) != 12 {
		t.Fatalf("%d ways", len(want))
	}
	for i := range want {
		for at := range sample.Within(&want[i]) {
			got := told(x)
			one := sample.Within(&got[i])[at]
			kept := tree.Copy(*one)
			sample.Spoil(*one)
			*one = kept
			if !slices.EqualFunc(got, want, tree.Same) {
				t.Errorf("the tree %d of the way %d shares memory with others", at, i)
			}
		}
	}
}
