// Package sample makes right queries and data for tests.
package sample

import (
	"math"
	"slices"

	"watersmeet/api"
	"watersmeet/sets"
	"watersmeet/tree"
)

// Dice tells numbers without a pattern, the same ones each time.
type Dice struct{ word uint64 }

// New tells dice; of other seeds they tell other numbers.
func New(seed uint64) *Dice {
	return &Dice{seed}
}

// Below tells a number of 0 to n - 1.
func (d *Dice) Below(n int) int {
	d.word += 0x9e3779b97f4a7c15
	w := d.word
	w = (w ^ w>>30) * 0xbf58476d1ce4e5b9
	w = (w ^ w>>27) * 0x94d049bb133111eb
	return int((w ^ w>>31) % uint64(n))
}

// Shuffled tells the numbers of 0 to n - 1 in any order.
func (d *Dice) Shuffled(n int) []int {
	var l []int
	for i := range n {
		l = slices.Insert(l, d.Below(i+1), i)
	}
	return l
}

// Query tells a right query of so many tables at most, of which some may be in no leaf.
func (d *Dice) Query(tables int) api.Query {
	var q api.Query
	for range 1 + d.Below(tables) {
		q.Cols = append(q.Cols, 1+d.Below(api.MaxCols))
	}
	n := len(q.Cols)
	q.Root = d.Tree(d.Shuffled(n)[d.Below(2)*d.Below(n):], q.Cols)
	return q
}

// Tree tells a tree that a right query may have, of these tables; there is one at least.
func (d *Dice) Tree(tables, cols []int) api.Tree {
	if len(tables) == 1 {
		return api.Tree{Table: tables[0]}
	}
	// Outer joins stand more often than others: of what a semi or an anti join makes little is left.
	kinds := []int{api.Inner, api.Left, api.Left, api.Semi, api.Anti}
	at := 1 + d.Below(len(tables)-1)
	t := api.Tree{
		Kind: kinds[d.Below(len(kinds))],
		Kids: []api.Tree{d.Tree(tables[:at], cols), d.Tree(tables[at:], cols)},
		Hash: d.Below(2) == 0,
	}
	for range 1 + d.Below(5)/4 {
		t.Conj = append(t.Conj, d.Conjunct(t.Kids[0], t.Kids[1], cols))
	}
	return t
}

// Conjunct tells one that an operator on a and b may have; about half of them are keys.
func (d *Dice) Conjunct(a, b api.Tree, cols []int) api.Pred {
	left, right := sets.List(tree.Seen(a)), sets.List(tree.Seen(b))
	one, other := d.column(left, cols), d.column(right, cols)
	if d.Below(2) == 0 {
		one, other = other, one
	}
	p := api.Pred{Kind: api.PredCmp, Op: api.Eq, A: one, B: other}
	some := null(d.column(slices.Concat(left, right), cols))
	switch d.Below(10) {
	case 0:
		return of(api.PredAnd, p, some)
	case 1:
		return of(api.PredOr, some, p)
	case 2:
		return of(api.PredOr, p, of(api.PredAnd, null(one), null(other)))
	case 3:
		return of(api.PredAnd, null(one), of(api.PredNot, null(other)))
	case 4, 5:
		p.Op = api.Ne + d.Below(api.Ge-api.Eq)
	}
	return p
}

// Data tells data that conforms to these columns, of so many rows a table at most; the lists have spare room, which holds rows and values, too.
func (d *Dice) Data(cols []int, rows int) api.Data {
	// Few values, so that many match.
	values := []api.Value{{}, {N: 1}, {N: 1}, {N: 1}, {Null: true}, {N: math.MaxInt64}}
	var all api.Data
	for _, wide := range cols {
		table := make([]api.Row, rows+2)
		for i := range table {
			row := make(api.Row, wide+2)
			for j := range row {
				row[j] = values[d.Below(len(values))]
			}
			table[i] = row[:wide]
		}
		all = append(all, table[:d.Below(rows+1)])
	}
	return all
}

// column tells a column of one of these tables.
func (d *Dice) column(tables, cols []int) api.Term {
	i := tables[d.Below(len(tables))]
	return api.Term{Kind: api.TermCol, Table: i, Col: d.Below(cols[i])}
}

// null tells that t is null.
func null(t api.Term) api.Pred {
	return api.Pred{Kind: api.PredNull, A: t}
}

// of tells a predicate of these parts.
func of(kind int, parts ...api.Pred) api.Pred {
	return api.Pred{Kind: kind, Parts: parts}
}
