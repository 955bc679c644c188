package levels

import (
	"watersmeet/api"
	"watersmeet/pred"
	"watersmeet/tree"
)

// operator is one of a tree's, with what is asked of where it stands there.
type operator struct {
	kind          int
	conj          []api.Pred
	first, second uint64 // the Tables of its Kids
	from          int    // from this place on, up to its own, all stand within its right; an Inner, which is no home, has none there
	home          int
}

// operators tells those in t, in the order of Walk, each with its home.
func operators(t api.Tree) []operator {
	l, _ := gather(t, nil)
	var ops []int
	for place, o := range l {
		if o.kind != api.Inner {
			ops = append(ops, place)
		}
	}
	for number := range len(ops) {
		place := ops[number]
		// What stands within the right of an op that is within this one has its home by now: the way back leads past it, so each operator is come to once.
		for at := place - 1; at >= l[place].from; at = l[at].from - 1 {
			l[at].home = number
		}
	}
	return l
}

// gather puts the operators in t, in the order of Walk and without homes, behind l, and tells the Tables of t, too.
func gather(t api.Tree, l []operator) ([]operator, uint64) {
	// In a right tree what is no leaf has two Kids; of another one all that matters is that it ends.
	if t.Kind == api.Leaf || len(t.Kids) != 2 {
		return l, tree.Tables(t)
	}
	l, first := gather(t.Kids[0], l)
	from := len(l)
	l, second := gather(t.Kids[1], l)
	if t.Kind == api.Inner {
		from = len(l)
	}
	return append(l, operator{t.Kind, t.Conj, first, second, from, none}), first | second
}

// joins tells the conjuncts of an Inner.
func (o operator) joins() []Join {
	var l []Join
	for _, p := range o.conj {
		s := pred.Tables(p)
		l = append(l, Join{Pred: pred.Copy(p), Left: s & o.first, Right: s & o.second, Home: o.home})
	}
	return l
}

// op tells any other operator.
func (o operator) op() Op {
	var conj []api.Pred
	s := uint64(0)
	for _, p := range o.conj {
		conj = append(conj, pred.Copy(p))
		s |= pred.Tables(p)
	}
	return Op{Kind: o.kind, Conj: conj, Left: s & o.first, Right: s & o.second, Own: o.second, Home: o.home}
}
