package sample

import (
	"math"

	"watersmeet/api"
)

// Wide tells numbers of all sorts: hows, kinds, tables, and some that would be such if they were cut to fewer digits.
func Wide() []int {
	return []int{math.MinInt, math.MinInt + 1, -1 << 32, -257, -256, -4, -3, -2, -1, 0, 1, 2, 3, 4, 5, 6, 7, 63, 64, 128, 255, 256, 257, 258, 1 << 32, 1<<32 + 1, 1<<32 + 2, 1<<32 + 5, math.MaxInt}
}

// Wild tells a tree of any sort, of so many operators nested at most: each field may be anything, but mostly it has two Kids, and names few tables.
func (d *Dice) Wild(room int) api.Tree {
	t := api.Tree{Kind: d.Below(7) - 1, Table: d.Below(6), Hash: d.Below(2) == 0}
	if d.Below(8) > 0 {
		t.Kind = api.Inner + d.Below(2)
	}
	if wide := Wide(); d.Below(60) == 0 {
		t.Kind, t.Table = wide[d.Below(len(wide))], wide[d.Below(len(wide))]
	}
	for range d.Below(3) {
		t.Conj = append(t.Conj, d.wildPred(2))
	}
	if room == 0 || d.Below(8) == 0 {
		t.Kind = api.Leaf
		return t
	}
	kids := 2
	if d.Below(12) == 0 {
		kids = d.Below(4)
	}
	for range kids {
		t.Kids = append(t.Kids, d.Wild(room-1))
	}
	return t
}

// wildPred tells a predicate of any sort.
func (d *Dice) wildPred(room int) api.Pred {
	p := api.Pred{Kind: d.Below(5), Truth: d.Below(4), Op: d.Below(8), A: d.wildTerm(), B: d.wildTerm()}
	if d.Below(3) > 0 {
		p.Kind, p.Op = api.PredCmp, api.Eq
	}
	if room > 0 && d.Below(4) == 0 {
		p.Kind = api.PredAnd + d.Below(3)
		for range d.Below(3) {
			p.Parts = append(p.Parts, d.wildPred(room-1))
		}
	}
	return p
}

// wildTerm tells a term of any sort.
func (d *Dice) wildTerm() api.Term {
	if d.Below(3) == 0 {
		return api.Term{Kind: d.Below(4), Table: d.Below(6), Value: api.Value{Null: d.Below(2) == 0}}
	}
	return api.Term{Kind: api.TermCol, Table: d.Below(7) - 1}
}

// Deep tells so many operators nested in one another, each the first, or the second of the Kids, beside a leaf.
func Deep(kind, n, at int, conj ...api.Pred) api.Tree {
	t := api.Tree{Table: at}
	for range n {
		kids := []api.Tree{{Table: 1 - at}, {Table: 1 - at}}
		kids[at] = t
		t = api.Tree{Kind: kind, Kids: kids, Conj: conj}
	}
	return t
}
