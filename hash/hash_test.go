package hash_test

import (
	"math"
	"slices"
	"strconv"
	"strings"
	"testing"

	"watersmeet/api"
	"watersmeet/hash"
)

var null = api.Value{Null: true}

// wrong is a null that may not be.
var wrong = api.Value{Null: true, N: 1}

// kinds are kinds of operators and numbers that are none, some of which would be one if they were cut to fewer digits.
var kinds = []int{api.Leaf, api.Inner, api.Left, api.Semi, api.Anti, 5, 6, 9, -1, -2, -3, -4, math.MinInt, math.MinInt + 1, math.MaxInt, 257, 258, 259, 260, 1<<16 + 1, 1<<32 + 1, 1<<32 + 2, 1<<32 + 3, 1<<32 + 4, 1<<62 + 2}

// strange are numbers that are no table of a set, and no column of a short row.
var strange = []int{-1, -2, -64, 64, 65, 128, 256, 1 << 16, 1 << 32, 1<<32 + 1, 1<<62 + 1, math.MinInt, math.MinInt + 1, math.MaxInt}

const (
	every = ^uint64(0)
	most  = math.MaxInt64
	least = math.MinInt64
)

// ints tells the row of these numbers.
func ints(l ...int64) api.Row {
	var r api.Row
	for _, n := range l {
		r = append(r, api.Value{N: n})
	}
	return r
}

// rows tells a tuple.
func rows(l ...api.Row) []api.Row {
	return l
}

// tuples tells a list of tuples.
func tuples(l ...[]api.Row) [][]api.Row {
	return l
}

func col(table, c int) api.Term {
	return api.Term{Kind: api.TermCol, Table: table, Col: c}
}

func number(n int64) api.Term {
	return api.Term{Kind: api.TermValue, Value: api.Value{N: n}}
}

func cmp(op int, a, b api.Term) api.Pred {
	return api.Pred{Kind: api.PredCmp, Op: op, A: a, B: b}
}

func eq(a, b api.Term) api.Pred {
	return cmp(api.Eq, a, b)
}

func not(p api.Pred) api.Pred {
	return api.Pred{Kind: api.PredNot, Parts: []api.Pred{p}}
}

// same is that the first columns of the tables 0 and 1 are.
var same = []api.Pred{eq(col(0, 0), col(1, 0))}

// dice tells numbers without a pattern, the same ones each time.
type dice struct{ word uint64 }

func (d *dice) below(n int) int {
	d.word += 0x9e3779b97f4a7c15
	w := d.word
	w = (w ^ w>>30) * 0xbf58476d1ce4e5b9
	w = (w ^ w>>27) * 0x94d049bb133111eb
	return int((w ^ w>>31) % uint64(n))
}

// row tells up to three values, some of which are written alike when they stand side by side; it has spare room, which holds values, too.
func (d *dice) row() api.Row {
	values := []api.Value{{}, {N: 1}, {N: 1}, {N: 1}, {N: 1}, {N: 2}, {N: 12}, {N: -1}, null, wrong}
	row := api.Row{}
	for range 5 {
		row = append(row, values[d.below(len(values))])
	}
	return row[:min(d.below(8), 3)]
}

// tuple tells a tuple of up to six rows, none of them of a table of without.
func (d *dice) tuple(without uint64) []api.Row {
	t := make([]api.Row, 0, 8)
	for i := range min(d.below(12), 6) {
		var row api.Row
		if without>>i&1 == 0 && d.below(6) > 0 {
			row = d.row()
		} else if d.below(2) == 0 {
			row = api.Row{}
		}
		t = append(t, row)
	}
	spare := t[:cap(t)]
	for i := len(t); i < len(spare); i++ {
		spare[i] = ints(1, 2)
	}
	return t
}

// list tells up to so many tuples without rows of these tables; it has spare room that holds tuples, too.
func (d *dice) list(top int, without uint64) [][]api.Row {
	l := make([][]api.Row, 0, top+1)
	for range d.below(top + 1) {
		l = append(l, d.tuple(without))
	}
	spare := l[:cap(l)]
	for i := len(l); i < len(spare); i++ {
		spare[i] = rows(ints(1), ints(1))
	}
	return l
}

// term tells a column, mostly, be it one that may be or not.
func (d *dice) term() api.Term {
	switch d.below(12) {
	case 0:
		return number(int64(d.below(3)))
	case 1:
		return api.Term{Kind: d.below(5) - 1, Table: d.below(6), Col: d.below(3), Value: api.Value{N: 1}}
	case 2:
		return col(strange[d.below(len(strange))], strange[d.below(len(strange))])
	}
	return col(d.below(6), d.below(4)-d.below(8)/7)
}

// pred tells a predicate of any sort, whether it may be or not.
func (d *dice) pred(room int) api.Pred {
	sorts := []int{api.PredCmp, api.PredCmp, api.PredNull, api.PredTruth, api.PredAnd, api.PredOr, api.PredNot, 0, 7}
	p := api.Pred{Kind: sorts[d.below(len(sorts))], Truth: d.below(4), Op: max(d.below(8)-d.below(8), 0), A: d.term(), B: d.term()}
	if room > 0 {
		for range d.below(3) {
			p.Parts = append(p.Parts, d.pred(room-1))
		}
	}
	return p
}

// conj tells up to three predicates; most of them compare columns that there may be, half of them by Eq.
func (d *dice) conj() []api.Pred {
	var l []api.Pred
	for range d.below(4) {
		p := cmp(max(d.below(7), 1), col(d.below(6), d.below(3)), col(d.below(6), d.below(3)))
		switch d.below(5) {
		case 0:
			p = d.pred(2)
		case 1, 2:
			p.Op = api.Eq
		}
		l = append(l, p)
	}
	return l
}

// sides tells two sets of the tables 0 to 5: most tables are in one of them, some in both, some in none.
func (d *dice) sides() (left, right uint64) {
	for i := range 6 {
		switch d.below(10) {
		case 0:
		case 1:
			left, right = left|1<<i, right|1<<i
		case 2, 3, 4, 5:
			left |= 1 << i
		default:
			right |= 1 << i
		}
	}
	return left, right
}

// P15.1: Keys, Key

// Example 1: of 1.0 = 0.0 with left 0 and right 1: 0.0 and 1.0.
func TestExample(t *testing.T) {
	got := hash.Keys([]api.Pred{eq(col(1, 0), col(0, 0))}, 1, 2)
	if !slices.Equal(got, [][2]api.Term{{col(0, 0), col(1, 0)}}) {
		t.Error(got)
	}
}

func TestKeysOfOne(t *testing.T) {
	a, b := col(0, 1), col(3, 2)
	odd := api.Term{Kind: api.TermCol, Table: 0, Col: -7, Value: wrong}
	long := eq(a, b)
	long.Truth, long.Parts = 5, []api.Pred{{}}
	for _, c := range []struct {
		name        string
		p           api.Pred
		left, right uint64
		want        [][2]api.Term
	}{
		{"A left", eq(a, b), 1, 8, [][2]api.Term{{a, b}}},
		{"A right", eq(a, b), 8, 1, [][2]api.Term{{b, a}}},
		{"B left", eq(b, a), 1, 8, [][2]api.Term{{a, b}}},
		{"great sets", eq(b, a), 1 | 4, 2 | 8, [][2]api.Term{{a, b}}},
		{"both ways round", eq(a, b), 9, 9, [][2]api.Term{{a, b}}},
		{"both ways round", eq(b, a), 9, 9, [][2]api.Term{{b, a}}},
		{"both ways round, all sets", eq(b, a), every, every, [][2]api.Term{{b, a}}},
		{"A in both, B left", eq(a, b), 9, 1, [][2]api.Term{{b, a}}},
		{"A in both, B right", eq(a, b), 1, 9, [][2]api.Term{{a, b}}},
		{"B in both, A right", eq(a, b), 8, 9, [][2]api.Term{{b, a}}},
		{"one table that is in both", eq(a, col(0, 2)), 1, 1, [][2]api.Term{{a, col(0, 2)}}},
		{"one term", eq(a, a), 1, 1, [][2]api.Term{{a, a}}},
		{"the greatest table", eq(col(63, 0), col(62, 3)), 1 << 62, 1 << 63, [][2]api.Term{{col(62, 3), col(63, 0)}}},
		{"a column that may not be", eq(b, odd), 1, 8, [][2]api.Term{{odd, b}}},
		{"a comparison that may not be", long, 1, 8, [][2]api.Term{{a, b}}},
		{"both left", eq(a, b), 9, 2, nil},
		{"both right", eq(a, b), 2, 9, nil},
		{"one table, left", eq(a, col(0, 0)), 1, 8, nil},
		{"one table, right", eq(b, col(3, 0)), 1, 8, nil},
		{"A nowhere", eq(a, b), 2, 8, nil},
		{"A nowhere", eq(a, b), 8, 2, nil},
		{"B nowhere", eq(a, b), 1, 2, nil},
		{"B nowhere", eq(a, b), 2, 1, nil},
		{"nothing left", eq(a, b), 0, every, nil},
		{"nothing right", eq(a, b), every, 0, nil},
		{"a value", eq(a, number(3)), every, every, nil},
		{"a value first", eq(number(0), b), every, every, nil},
		{"a value with a table", eq(a, api.Term{Kind: api.TermValue, Table: 3}), 1, 8, nil},
		{"a value with a table first", eq(api.Term{Kind: api.TermValue}, b), 1, 8, nil},
		{"no kind", eq(api.Term{}, b), 1, 8, nil},
		{"a kind that there is not", eq(a, api.Term{Kind: 3, Table: 3}), 1, 8, nil},
		{"a kind of more digits", eq(a, api.Term{Kind: 1<<32 + 1, Table: 3}), 1, 8, nil},
		{"ne", cmp(api.Ne, a, b), 1, 8, nil},
		{"lt", cmp(api.Lt, a, b), 1, 8, nil},
		{"le", cmp(api.Le, a, b), 1, 8, nil},
		{"gt", cmp(api.Gt, a, b), 1, 8, nil},
		{"ge", cmp(api.Ge, a, b), 1, 8, nil},
		{"no op", cmp(0, a, b), 1, 8, nil},
		{"an op that there is not", cmp(7, a, b), 1, 8, nil},
		{"an op of more digits", cmp(1<<32+1, a, b), 1, 8, nil},
		{"not", not(eq(a, b)), 1, 8, nil},
		{"not not", not(not(eq(a, b))), 1, 8, nil},
		{"and", api.Pred{Kind: api.PredAnd, Parts: []api.Pred{eq(a, b)}}, 1, 8, nil},
		{"or", api.Pred{Kind: api.PredOr, Parts: []api.Pred{eq(a, b)}}, 1, 8, nil},
		{"truth", api.Pred{Kind: api.PredTruth, Truth: api.True}, 1, 8, nil},
		{"truth with terms", api.Pred{Kind: api.PredTruth, Op: api.Eq, A: a, B: b}, 1, 8, nil},
		{"null", api.Pred{Kind: api.PredNull, Op: api.Eq, A: a, B: b}, 1, 8, nil},
		{"and with terms", api.Pred{Kind: api.PredAnd, Op: api.Eq, A: a, B: b}, 1, 8, nil},
		{"no predicate", api.Pred{Op: api.Eq, A: a, B: b}, 1, 8, nil},
		{"a predicate that there is not", api.Pred{Kind: 1<<32 + 2, Op: api.Eq, A: a, B: b}, 1, 8, nil},
		{"parts of a comparison", api.Pred{Kind: api.PredCmp, Op: api.Ne, A: a, B: b, Parts: []api.Pred{eq(a, b)}}, 1, 8, nil},
	} {
		if got := hash.Keys([]api.Pred{c.p}, c.left, c.right); !slices.Equal(got, c.want) {
			t.Errorf("%s: %v", c.name, got)
		}
	}
}

// A table that no set can have is in none.
func TestKeysOfStrangeTables(t *testing.T) {
	for _, i := range strange {
		for table := range 64 {
			for _, p := range []api.Pred{eq(col(i, 0), col(table, 0)), eq(col(table, 0), col(i, 0)), eq(col(i, 0), col(i, 0))} {
				if got := hash.Keys([]api.Pred{p}, every, every); len(got) != 0 {
					t.Errorf("%v: %v", p, got)
				}
			}
		}
	}
}

// Each table is in the sets that have it, and in no other.
func TestKeysOfEachTable(t *testing.T) {
	for i := range 64 {
		for j := range 64 {
			for _, k := range []int{i, j, (i + 1) % 64, (i + 32) % 64} {
				want := 0
				if k == j {
					want = 1
				}
				got := hash.Keys([]api.Pred{eq(col(i, 1), col(j, 2))}, 1<<i, 1<<k)
				if k == j && i != j && len(got) == 1 && got[0] != [2]api.Term{col(i, 1), col(j, 2)} || len(got) != want {
					t.Errorf("%d, %d with %d: %v", i, j, k, got)
				}
			}
		}
	}
}

// All keys are told in the order of the conjuncts, as often as they come.
func TestKeysInOrder(t *testing.T) {
	conj := []api.Pred{
		eq(col(1, 3), col(0, 3)), cmp(api.Lt, col(0, 0), col(1, 0)), eq(col(0, 1), col(3, 1)), not(eq(col(0, 0), col(1, 0))),
		eq(col(0, 0), col(2, 0)), eq(col(2, 0), col(3, 0)), eq(col(0, 3), col(1, 3)), eq(col(1, 3), col(0, 3)), {},
	}
	for _, c := range []struct {
		left, right uint64
		want        [][2]api.Term
	}{
		{1, 2, [][2]api.Term{{col(0, 3), col(1, 3)}, {col(0, 3), col(1, 3)}, {col(0, 3), col(1, 3)}}},
		{2, 1, [][2]api.Term{{col(1, 3), col(0, 3)}, {col(1, 3), col(0, 3)}, {col(1, 3), col(0, 3)}}},
		{5, 10, [][2]api.Term{{col(0, 3), col(1, 3)}, {col(0, 1), col(3, 1)}, {col(2, 0), col(3, 0)}, {col(0, 3), col(1, 3)}, {col(0, 3), col(1, 3)}}},
		{1, 4, [][2]api.Term{{col(0, 0), col(2, 0)}}},
		{2, 12, nil},
	} {
		if got := hash.Keys(conj, c.left, c.right); !slices.Equal(got, c.want) {
			t.Errorf("%d, %d: %v", c.left, c.right, got)
		}
	}
	if got := hash.Keys(nil, every, every); len(got) != 0 {
		t.Error(got)
	}
}

// slowKeys tells what Keys tells: of both ways round, A in left first, the one that fits.
func slowKeys(conj []api.Pred, left, right uint64) [][2]api.Term {
	has := func(s uint64, t api.Term) bool {
		return t.Kind == 1 && t.Table >= 0 && t.Table < 64 && s&(1<<t.Table) != 0
	}
	var found [][2]api.Term
	for _, p := range conj {
		for _, way := range [][2]api.Term{{p.A, p.B}, {p.B, p.A}} {
			if p.Kind == 2 && p.Op == 1 && has(left, way[0]) && has(right, way[1]) {
				found = append(found, way)
				break
			}
		}
	}
	return found
}

func TestKeysOfAllSorts(t *testing.T) {
	d := &dice{1}
	some := 0
	for range 20000 {
		conj := d.conj()
		left, right := d.sides()
		got := hash.Keys(conj, left, right)
		if !slices.Equal(got, slowKeys(conj, left, right)) {
			t.Errorf("Keys(%v, %d, %d) is %v", conj, left, right, got)
		}
		some += len(got)
	}
	if some < 5000 {
		t.Errorf("%d keys", some)
	}
}

func TestKey(t *testing.T) {
	tuple := rows(ints(5, -7, 0), nil, api.Row{{N: most}, null, {N: least}, wrong}, api.Row{}, ints(10))
	for _, c := range []struct {
		name  string
		terms []api.Term
		want  string
		ok    bool
	}{
		{"no terms", nil, "", true},
		{"one", []api.Term{col(0, 0)}, "5,", true},
		{"below 0", []api.Term{col(0, 1)}, "-7,", true},
		{"0", []api.Term{col(0, 2)}, "0,", true},
		{"the greatest and the least", []api.Term{col(2, 0), col(2, 2)}, "9223372036854775807,-9223372036854775808,", true},
		{"in the terms' order", []api.Term{col(4, 0), col(0, 0), col(0, 1), col(0, 2)}, "10,5,-7,0,", true},
		{"one twice", []api.Term{col(0, 0), col(0, 0)}, "5,5,", true},
		{"a value", []api.Term{number(-3), col(0, 0)}, "-3,5,", true},
		{"a null value", []api.Term{{Kind: api.TermValue, Value: null}}, "", false},
		{"a term that is none", []api.Term{{Table: 2, Col: 1, Value: api.Value{N: 8}}}, "8,", true},
		{"null", []api.Term{col(2, 1)}, "", false},
		{"a null that may not be", []api.Term{col(2, 3)}, "", false},
		{"null first", []api.Term{col(2, 1), col(0, 0)}, "", false},
		{"null last", []api.Term{col(0, 0), col(0, 1), col(2, 1)}, "", false},
		{"null between", []api.Term{col(0, 0), col(2, 3), col(0, 1)}, "", false},
		{"nulls alone", []api.Term{col(2, 1), col(2, 1)}, "", false},
		{"no row", []api.Term{col(1, 0)}, "", false},
		{"an empty row", []api.Term{col(0, 0), col(3, 0)}, "", false},
		{"no place", []api.Term{col(5, 0)}, "", false},
		{"no column", []api.Term{col(0, 3)}, "", false},
		{"a column below 0", []api.Term{col(0, -1)}, "", false},
		{"a table below 0", []api.Term{col(-1, 0)}, "", false},
	} {
		if got, ok := hash.Key(c.terms, tuple); got != c.want || ok != c.ok {
			t.Errorf("%s: %q, %v", c.name, got, ok)
		}
	}
}

func TestKeyOfNoRows(t *testing.T) {
	for _, tuple := range tuples(nil, rows(), rows(nil), rows(api.Row{})) {
		if got, ok := hash.Key(nil, tuple); got != "" || !ok {
			t.Errorf("%v: %q, %v", tuple, got, ok)
		}
		if got, ok := hash.Key([]api.Term{number(4)}, tuple); got != "4," || !ok {
			t.Errorf("%v: %q, %v", tuple, got, ok)
		}
		for _, i := range append([]int{0, 1, 2, 63}, strange...) {
			for _, terms := range [][]api.Term{{col(i, 0)}, {col(0, i)}, {number(4), col(i, i)}} {
				if got, ok := hash.Key(terms, tuple); got != "" || ok {
					t.Errorf("%v of %v: %q, %v", terms, tuple, got, ok)
				}
			}
		}
	}
}

// A table beyond all sets has its row, too: 5's Of tells of it.
func TestKeyOfGreatTables(t *testing.T) {
	tuple := make([]api.Row, 70)
	tuple[63], tuple[69] = ints(3), ints(4, 5)
	if got, ok := hash.Key([]api.Term{col(69, 1), col(63, 0), col(69, 0)}, tuple); got != "5,3,4," || !ok {
		t.Errorf("%q, %v", got, ok)
	}
}

// slowKey tells what Key tells, by all texts at once.
func slowKey(terms []api.Term, t []api.Row) (string, bool) {
	var texts []string
	for _, one := range terms {
		v := one.Value
		if one.Kind == 1 {
			v = null
			if one.Table >= 0 && one.Table < len(t) && one.Col >= 0 && one.Col < len(t[one.Table]) {
				v = t[one.Table][one.Col]
			}
		}
		if v.Null {
			return "", false
		}
		texts = append(texts, strconv.FormatInt(v.N, 10)+",")
	}
	return strings.Join(texts, ""), true
}

func TestKeyOfAllSorts(t *testing.T) {
	d := &dice{2}
	some, none := 0, 0
	for range 30000 {
		var terms []api.Term
		for range d.below(4) {
			terms = append(terms, d.term())
		}
		tuple := d.tuple(0)
		got, ok := hash.Key(terms, tuple)
		if want, is := slowKey(terms, tuple); got != want || ok != is {
			t.Errorf("Key(%v, %v) is %q, %v", terms, tuple, got, ok)
		}
		if ok && got != "" {
			some++
		} else if !ok {
			none++
		}
	}
	if some < 2000 || none < 5000 {
		t.Errorf("%d have a key, %d have none", some, none)
	}
}

// Other values have another text, wherever their digits part.
func TestKeysAreApart(t *testing.T) {
	numbers := []int64{0, 1, 2, 11, 12, 21, 111, 112, -1, -11, -12, least, most}
	terms := []api.Term{col(0, 0), col(0, 1), col(0, 2)}
	came := map[string]bool{}
	for _, a := range numbers {
		for _, b := range numbers {
			for _, c := range numbers {
				got, ok := hash.Key(terms, rows(ints(a, b, c)))
				if !ok || came[got] {
					t.Errorf("%d, %d, %d: %q, %v", a, b, c, got, ok)
				}
				came[got] = true
			}
		}
	}
}
