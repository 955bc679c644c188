package ident_test

import (
	"reflect"
	"slices"
	"testing"

	"watersmeet/api"
	"watersmeet/ident"
	"watersmeet/sample"
	"watersmeet/tree"
)

// What is handed in is neither changed nor kept, and what is handed out is new memory.

// changeable are trees that may change by each how, at the whole tree and within it.
var changeable = []string{
	"(((0⋈[∧(=0.0,1.0;⊤);⊤]1)⋈[=1.0,2.0]2)⋈#[∨(=1.0,3.0;⊥)](3⟕[∧(=3.0,4.0;∨(⊤;⊥))]4))",
	"((0⟕[∧(=0.0,1.0;⊤);⊤]1)⟕[∨(=1.0,2.0;⊥)](2⟕[∧(=2.0,4.0;∨(⊤;⊥))]4))",
	"(0⋈[∨(=0.0,2.0;⊥)](1⋈[∧(=1.0,2.0;⊤)]2))",
	"((0⋉[∨(=0.0,1.0;⊥)]1)▷[∧(=0.0,2.0;⊤)](2⋈[=2.0,3.0]3))",
}

// told tells what each change, and Ways, make of x.
func told(x api.Tree) []api.Tree {
	var l []api.Tree
	for _, how := range hows {
		if way, ok := ident.Do(how, x); ok {
			l = append(l, way)
		}
	}
	return append(l, ident.Ways(x)...)
}

func TestLeavesWhatIsHandedIn(t *testing.T) {
	all := some()[:1000]
	for _, text := range changeable {
		all = append(all, sample.Parse(text))
	}
	for _, x := range all {
		x = sample.Roomy(x)
		before := sample.Opened(x)
		want := told(x)
		if !reflect.DeepEqual(sample.Opened(x), before) {
			t.Fatalf("%v is changed", x)
		}
		// Each list in what is told has no part in it.
		for _, way := range told(x) {
			sample.Spoil(way)
		}
		if !reflect.DeepEqual(sample.Opened(x), before) {
			t.Fatalf("%v shares memory with what is told", x)
		}
		if !slices.EqualFunc(told(x), want, tree.Same) {
			t.Fatalf("of %v something else is told when it is asked again", x)
		}
	}
}

// What was told stays as it was, whatever is done to what was handed in.
func TestKeepsNothing(t *testing.T) {
	for _, text := range changeable {
		x := sample.Roomy(sample.Parse(text))
		got := told(x)
		want := told(sample.Parse(text))
		sample.Spoil(x)
		if !slices.EqualFunc(got, want, tree.Same) {
			t.Errorf("%s: what is told shares memory with what was handed in", text)
		}
	}
}

// No two lists of one answer share memory: each tree within one is spoilt, and all that is not in it stays.
func TestSharesNothing(t *testing.T) {
	for _, text := range changeable {
		x := sample.Parse(text)
		want := told(x)
		for i := range want {
			for at := range sample.Within(&want[i]) {
				got := told(x)
				one := sample.Within(&got[i])[at]
				kept := tree.Copy(*one)
				sample.Spoil(*one)
				*one = kept
				if !slices.EqualFunc(got, want, tree.Same) {
					t.Errorf("%s: the tree %d of the way %d shares memory with others", text, at, i)
				}
			}
		}
	}
}

// Lists that share memory in what is handed in share none in what is told.
func TestPartsInCommon(t *testing.T) {
	parts := []api.Pred{same(0, 1), same(0, 1)}
	conj := []api.Pred{{Kind: api.PredAnd, Parts: parts}, {Kind: api.PredOr, Parts: parts[:1]}}
	kids := []api.Tree{{Table: 2}, {Table: 3}}
	low := on(api.Inner, conj, kids...)
	x := on(api.Inner, conj, low, low)
	want := told(x)
	if len(want) != 12 {
		t.Fatalf("%d ways", len(want))
	}
	for i := range want {
		for at := range sample.Within(&want[i]) {
			got := told(x)
			one := sample.Within(&got[i])[at]
			kept := tree.Copy(*one)
			sample.Spoil(*one)
			*one = kept
			if !slices.EqualFunc(got, want, tree.Same) {
				t.Errorf("the tree %d of the way %d shares memory with others", at, i)
			}
		}
	}
}
