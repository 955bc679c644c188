package ident

import (
	"watersmeet/api"
	"watersmeet/pred"
	"watersmeet/reject"
	"watersmeet/tree"
)

// change is one of the changes.
type change struct {
	how int
	// apart tells the parts of a tree, and whether it has the form that is changed.
	apart func(node) (parts, bool)
	// holds tells whether what is asked of the parts holds.
	holds func(parts) bool
	// made tells the parts put together in the other form.
	made func(parts) node
}

// changes tells all of them, in the order of their hows.
func changes() []change {
	return []change{
		{
			Turn, alone,
			func(p parts) bool { return true },
			func(p parts) node { return on(p.a, p.f, p.e) },
		},
		{
			Rotate, first,
			func(p parts) bool { return named(p.b, p.e) == 0 && p.rejects() },
			func(p parts) node { return on(p.a, p.e, on(p.b, p.f, p.g)) },
		},
		{
			Back, second,
			func(p parts) bool { return named(p.a, p.g) == 0 && p.rejects() },
			func(p parts) node { return on(p.b, on(p.a, p.e, p.f), p.g) },
		},
		{
			Swap, first,
			func(p parts) bool { return named(p.b, p.f) == 0 },
			func(p parts) node { return on(p.a, on(p.b, p.e, p.g), p.f) },
		},
		{
			Exchange, second,
			func(p parts) bool { return named(p.a, p.f) == 0 },
			func(p parts) node { return on(p.b, p.f, on(p.a, p.e, p.g)) },
		},
	}
}

// do tells n changed, in memory that it shares with n, and true; else zero and false.
func (c change) do(n node) (node, bool) {
	p, ok := c.apart(n)
	if !ok || !May(c.how, p.a.Kind, p.b.Kind) || !c.holds(p) {
		return node{}, false
	}
	return c.made(p), true
}

// parts are what a tree is taken apart into: the operators a and b, and the trees that they are on.
type parts struct{ a, b, e, f, g node }

// alone takes e a f apart.
func alone(n node) (parts, bool) {
	if len(n.kids) != 2 {
		return parts{}, false
	}
	return parts{a: n, e: n.kids[0], f: n.kids[1]}, true
}

// first takes (e a f) b g apart.
func first(n node) (parts, bool) {
	if len(n.kids) != 2 || len(n.kids[0].kids) != 2 {
		return parts{}, false
	}
	low := n.kids[0]
	return parts{a: low, b: n, e: low.kids[0], f: low.kids[1], g: n.kids[1]}, true
}

// second takes e a (f b g) apart.
func second(n node) (parts, bool) {
	if len(n.kids) != 2 || len(n.kids[1].kids) != 2 {
		return parts{}, false
	}
	low := n.kids[1]
	return parts{a: n, b: low, e: n.kids[0], f: low.kids[0], g: low.kids[1]}, true
}

// rejects tells whether, if a and b are both Left, the conjuncts of b reject nulls of the tables of f that they name.
func (p parts) rejects() bool {
	both := [...]int{p.a.Kind, p.b.Kind} == [...]int{api.Left, api.Left}
	return !both || reject.Rejects(p.b.Conj, named(p.b, p.f))
}

// node is a tree with the tables in it, which many changes ask for: so they are put together once.
type node struct {
	api.Tree
	tables uint64
	kids   []node
}

// mark tells t with the tables in it, and in each tree within it.
func mark(t api.Tree) node {
	n := node{Tree: t, tables: tree.Tables(api.Tree{Kind: t.Kind, Table: t.Table})}
	for _, kid := range t.Kids {
		k := mark(kid)
		n.tables |= k.tables
		n.kids = append(n.kids, k)
	}
	return n
}

// on tells the operator o on two other trees.
func on(o, l, r node) node {
	return node{
		Tree:   api.Tree{Kind: o.Kind, Kids: []api.Tree{l.Tree, r.Tree}, Conj: o.Conj, Hash: o.Hash},
		tables: l.tables | r.tables,
		kids:   []node{l, r},
	}
}

// named tells the tables of n that the conjuncts of o name.
func named(o, n node) uint64 {
	s := uint64(0)
	for _, p := range o.Conj {
		s |= pred.Tables(p)
	}
	return s & n.tables
}
