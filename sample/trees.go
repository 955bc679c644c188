package sample

import (
	"slices"

	"watersmeet/api"
	"watersmeet/shape"
)

// Parse tells the tree whose text s is. A text that is none is the test's own fault.
func Parse(s string) api.Tree {
	t, _, errno := shape.Parse(s)
	if errno != api.OK {
		panic(s)
	}
	return t
}

// Within tells the trees in t where they stand, in the order of the tour.
func Within(t *api.Tree) []*api.Tree {
	var l []*api.Tree
	for i := range t.Kids {
		l = append(l, Within(&t.Kids[i])...)
	}
	return append(l, t)
}

// Opened tells t in new memory, with what is in the rooms behind its lists as if it were in them.
func Opened(t api.Tree) api.Tree {
	t.Conj = openedPreds(t.Conj)
	t.Kids = slices.Clone(t.Kids[:cap(t.Kids)])
	for i, kid := range t.Kids {
		t.Kids[i] = Opened(kid)
	}
	return t
}

// Roomy tells t with spare room, in which something stands, behind all its lists.
func Roomy(t api.Tree) api.Tree {
	t.Conj = roomyPreds(t.Conj)
	kids := []api.Tree{}
	for _, kid := range t.Kids {
		kids = append(kids, Roomy(kid))
	}
	kids = append(kids, api.Tree{Kind: 78}, api.Tree{Kind: 79})
	t.Kids = kids[:len(t.Kids)]
	return t
}

// Spoil writes into all lists of t, and into the rooms behind them.
func Spoil(t api.Tree) {
	spoilPreds(t.Conj)
	kids := t.Kids[:cap(t.Kids)]
	for i, kid := range kids {
		Spoil(kid)
		kids[i] = api.Tree{Kind: 77, Table: 77, Hash: true}
	}
}

func openedPreds(l []api.Pred) []api.Pred {
	l = slices.Clone(l[:cap(l)])
	for i, p := range l {
		l[i].Parts = openedPreds(p.Parts)
	}
	return l
}

func roomyPreds(l []api.Pred) []api.Pred {
	all := []api.Pred{}
	for _, p := range l {
		p.Parts = roomyPreds(p.Parts)
		all = append(all, p)
	}
	all = append(all, api.Pred{Kind: 78}, api.Pred{Kind: 79})
	return all[:len(l)]
}

func spoilPreds(l []api.Pred) {
	l = l[:cap(l)]
	for i, p := range l {
		spoilPreds(p.Parts)
		l[i] = api.Pred{Kind: 77}
	}
}
