package text_test

import (
	"fmt"
	"math"
	"reflect"
	"slices"
	"testing"

	"watersmeet/api"
	"watersmeet/pred"
	"watersmeet/term"
	"watersmeet/text"
)

var null = api.Value{Null: true}

// wide are numbers of all sorts: those at which what is told turns, and some that would be right if they were cut to fewer digits.
var wide = []int{math.MinInt, math.MinInt + 1, -1 << 32, -256, -64, -4, -1, 0, 1, 2, 3, 4, 5, 6, 7, 8, 9, 10, 62, 63, 64, 65, 127, 128, 255, 256, 257, 1 << 32, 1<<32 + 1, 1<<32 + 6, math.MaxInt}

// values are values of all sorts; the last ones may not be.
var values = []api.Value{{}, {N: 1}, {N: -5}, {N: 10}, {N: math.MaxInt64}, {N: math.MinInt64}, null, {Null: true, N: 1}, {Null: true, N: math.MinInt64}}

var (
	truthTrue    = truth(api.True)
	truthFalse   = truth(api.False)
	truthUnknown = truth(api.Unknown)
)

func truth(t int) api.Pred {
	return api.Pred{Kind: api.PredTruth, Truth: t}
}

func col(table, c int) api.Term {
	return api.Term{Kind: api.TermCol, Table: table, Col: c}
}

func val(v api.Value) api.Term {
	return api.Term{Kind: api.TermValue, Value: v}
}

func num(n int64) api.Value {
	return api.Value{N: n}
}

func cmp(op int, a, b api.Term) api.Pred {
	return api.Pred{Kind: api.PredCmp, Op: op, A: a, B: b}
}

func isNull(a api.Term) api.Pred {
	return api.Pred{Kind: api.PredNull, A: a}
}

func and(l ...api.Pred) api.Pred {
	return api.Pred{Kind: api.PredAnd, Parts: l}
}

func or(l ...api.Pred) api.Pred {
	return api.Pred{Kind: api.PredOr, Parts: l}
}

func not(l ...api.Pred) api.Pred {
	return api.Pred{Kind: api.PredNot, Parts: l}
}

// wrap puts p into n predicates of this kind, one within the other.
func wrap(kind, n int, p api.Pred) api.Pred {
	for range n {
		p = api.Pred{Kind: kind, Parts: []api.Pred{p}}
	}
	return p
}

// dice tells numbers without a pattern, the same ones each time.
type dice struct{ word uint64 }

func (d *dice) below(n int) int {
	d.word = d.word*6364136223846793005 + 1442695040888963407
	return int(d.word >> 33 % uint64(n))
}

// term tells a term that may be.
func (d *dice) term() api.Term {
	if d.below(3) == 0 {
		return val(values[d.below(7)])
	}
	return col(d.below(64), d.below(4))
}

// right tells a predicate that may be where there is room for so many below it.
func (d *dice) right(room int) api.Pred {
	kind := d.below(9)
	if room == 0 {
		kind %= 4
	}
	switch kind {
	case 0:
		return truth(d.below(3))
	case 1:
		return isNull(d.term())
	case 2, 3:
		return cmp(api.Eq+d.below(6), d.term(), d.term())
	case 4:
		return not(d.right(room - 1))
	}
	p := api.Pred{Kind: api.PredAnd + kind%2}
	for range d.below(5) {
		p.Parts = append(p.Parts, d.right(room-1))
	}
	return p
}

// wild tells a predicate of any sort: each field may be anything.
func (d *dice) wild(room int) api.Pred {
	wildTerm := func() api.Term {
		if d.below(3) == 0 {
			return api.Term{}
		}
		return api.Term{Kind: d.below(4), Table: d.below(6) - 1, Col: d.below(6) - 1, Value: values[d.below(len(values))]}
	}
	p := api.Pred{Kind: d.below(9) - 1, Truth: d.below(5) - 1, Op: d.below(9) - 1, A: wildTerm(), B: wildTerm()}
	if room > 0 {
		for range d.below(4) {
			p.Parts = append(p.Parts, d.wild(room-1))
		}
	}
	return p
}

// some are predicates that may be.
func some() []api.Pred {
	d := &dice{8}
	var l []api.Pred
	for range 1000 {
		l = append(l, d.right(3))
	}
	return l
}

// slowTerm tells the text of a term that may be.
func slowTerm(t api.Term) string {
	switch {
	case t.Kind == api.TermCol:
		return fmt.Sprintf("%d.%d", t.Table, t.Col)
	case t.Value.Null:
		return "'\u2205"
	}
	return fmt.Sprintf("'%d", t.Value.N)
}

// slowPred tells the text of a predicate that may be, the signs as the document numbers them.
func slowPred(p api.Pred) string {
	var parts string
	for i, part := range p.Parts {
		if i > 0 {
			parts += ";"
		}
		parts += slowPred(part)
	}
	switch p.Kind {
	case 1:
		return map[int]string{0: "\u22a5", 1: "?", 2: "\u22a4"}[p.Truth]
	case 2:
		return map[int]string{1: "=", 2: "\u2260", 3: "<", 4: "\u2264", 5: ">", 6: "\u2265"}[p.Op] + slowTerm(p.A) + "," + slowTerm(p.B)
	case 3:
		return "\u2205" + slowTerm(p.A)
	case 4:
		return "\u2227(" + parts + ")"
	case 5:
		return "\u2228(" + parts + ")"
	}
	return "\u00ac" + parts
}

// P8.1

func TestTerm(t *testing.T) {
	for _, c := range []struct {
		t    api.Term
		want string
	}{
		{col(0, 0), "0.0"},
		{col(7, 2), "7.2"},
		{col(10, 1), "10.1"},
		{col(63, 3), "63.3"},
		{val(num(0)), "'0"},
		{val(num(5)), "'5"},
		{val(num(-5)), "'-5"},
		{val(num(100)), "'100"},
		{val(num(math.MaxInt64)), "'9223372036854775807"},
		{val(num(math.MinInt64)), "'-9223372036854775808"},
		{val(null), "'\u2205"},
		{val(null), "\x27\xe2\x88\x85"},
	} {
		if got, e := text.Term(c.t); got != c.want || e != api.OK {
			t.Errorf("Term(%v) is %q, %v, not %q", c.t, got, e, c.want)
		}
	}
}

func TestTermOfEachColumn(t *testing.T) {
	for i := range 64 {
		for c := range 4 {
			if got, e := text.Term(col(i, c)); got != fmt.Sprint(i, ".", c) || e != api.OK {
				t.Errorf("the text of the column %d of %d is %q, %v", c, i, got, e)
			}
		}
	}
}

// Terms of all sorts: those that may not be have no text.
func TestTermOfAll(t *testing.T) {
	for _, kind := range []int{api.TermCol, api.TermValue, 0, 3, -1, 1<<32 + 1, math.MinInt} {
		for _, i := range wide {
			for _, c := range wide {
				for _, v := range values {
					x := api.Term{Kind: kind, Table: i, Col: c, Value: v}
					want, wantErr := "", api.ErrRange
					if term.Right(x) {
						want, wantErr = slowTerm(x), api.OK
					}
					if got, e := text.Term(x); got != want || e != wantErr {
						t.Errorf("Term(%v) is %q, %v, not %q, %v", x, got, e, want, wantErr)
					}
				}
			}
		}
	}
}

func TestTermThatMayNotBe(t *testing.T) {
	for _, x := range []api.Term{
		{}, {Kind: 3}, col(64, 0), col(0, 4), col(-1, 0), col(0, -1), val(api.Value{Null: true, N: 1}),
		{Kind: api.TermCol, Value: num(1)}, {Kind: api.TermCol, Value: null}, {Kind: api.TermValue, Table: 1}, {Kind: api.TermValue, Col: 1},
	} {
		if got, e := text.Term(x); got != "" || e != api.ErrRange {
			t.Errorf("Term(%v) is %q, %v", x, got, e)
		}
	}
}

func TestPred(t *testing.T) {
	a, b := col(0, 0), col(1, 3)
	for _, c := range []struct {
		p    api.Pred
		want string
	}{
		{truthFalse, "\u22a5"},
		{truthUnknown, "?"},
		{truthTrue, "\u22a4"},
		{cmp(api.Eq, a, b), "=0.0,1.3"},
		{cmp(api.Ne, a, b), "\u22600.0,1.3"},
		{cmp(api.Lt, a, b), "<0.0,1.3"},
		{cmp(api.Le, a, b), "\u22640.0,1.3"},
		{cmp(api.Gt, a, b), ">0.0,1.3"},
		{cmp(api.Ge, a, b), "\u22650.0,1.3"},
		{cmp(api.Eq, b, a), "=1.3,0.0"},
		{cmp(api.Eq, val(num(-1)), val(null)), "='-1,'\u2205"},
		{isNull(b), "\u22051.3"},
		{isNull(val(null)), "\u2205'\u2205"},
		{and(), "\u2227()"},
		{or(), "\u2228()"},
		{and(truthTrue), "\u2227(\u22a4)"},
		{or(truthTrue, truthFalse), "\u2228(\u22a4;\u22a5)"},
		{and(truthTrue, truthUnknown, truthFalse, isNull(a)), "\u2227(\u22a4;?;\u22a5;\u22050.0)"},
		{or(and(), or(), and(or())), "\u2228(\u2227();\u2228();\u2227(\u2228()))"},
		{not(truthTrue), "\u00ac\u22a4"},
		{not(not(not(truthUnknown))), "\u00ac\u00ac\u00ac?"},
		{not(and(truthTrue, not(isNull(a)))), "\u00ac\u2227(\u22a4;\u00ac\u22050.0)"},
	} {
		if got, e := text.Pred(c.p); got != c.want || e != api.OK {
			t.Errorf("Pred(%v) is %q, %v, not %q", c.p, got, e, c.want)
		}
	}
}

// Predicates of all sorts: those that may not be have no text.
func TestPredOfAll(t *testing.T) {
	d := &dice{81}
	l := some()
	for range 2000 {
		l = append(l, d.wild(2))
	}
	for i, p := range l {
		want, wantErr := "", api.ErrPred
		if pred.Right(p) {
			want, wantErr = slowPred(p), api.OK
		}
		if i < 1000 && wantErr != api.OK {
			t.Errorf("%v may not be", p)
		}
		if got, e := text.Pred(p); got != want || e != wantErr {
			t.Errorf("Pred(%v) is %q, %v, not %q, %v", p, got, e, want, wantErr)
		}
	}
}

// One field alone that may not be, in the whole or in a part, takes the whole text away.
func TestPredThatMayNotBe(t *testing.T) {
	for _, kind := range wide {
		p := api.Pred{Kind: kind}
		if _, e := text.Pred(p); (e == api.OK) != (kind == api.PredTruth || kind == api.PredAnd || kind == api.PredOr) {
			t.Errorf("Pred of the kind %d alone: %v", kind, e)
		}
	}
	a := col(0, 0)
	for i, p := range []api.Pred{
		truth(3), truth(-1), cmp(0, a, a), cmp(7, a, a), cmp(api.Eq, a, api.Term{}), cmp(api.Eq, col(64, 0), a), cmp(api.Eq, a, col(0, 4)),
		isNull(val(api.Value{Null: true, N: 1})), isNull(api.Term{}), {Kind: api.PredNull, A: a, B: a}, {Kind: api.PredTruth, Op: 1},
		{Kind: api.PredCmp, Op: 1, A: a, B: a, Truth: 1}, {Kind: api.PredTruth, Parts: []api.Pred{truthTrue}},
		{Kind: api.PredAnd, Op: 1}, {Kind: api.PredOr, Truth: 1}, {Kind: api.PredNot, A: a, Parts: []api.Pred{truthTrue}},
		and(truthTrue, truthTrue, truthTrue, truthTrue, truthTrue), or(truthTrue, truthTrue, truthTrue, truthTrue, truthTrue), not(), not(truthTrue, truthTrue),
		wrap(api.PredNot, 4, truthTrue), wrap(api.PredAnd, 4, truthTrue), wrap(api.PredOr, 3, and(truthTrue)), {},
	} {
		for _, whole := range []api.Pred{p, and(p), or(truthTrue, p), not(p)} {
			if got, e := text.Pred(whole); got != "" || e != api.ErrPred {
				t.Errorf("%d: Pred(%v) is %q, %v", i, whole, got, e)
			}
		}
	}
}

// As many parts as there may be, one within the other or side by side; and more of them.
func TestPredOfManyParts(t *testing.T) {
	if got, e := text.Pred(wrap(api.PredNot, 3, truthTrue)); got != "¬¬¬⊤" || e != api.OK {
		t.Errorf("three nots are %q, %v", got, e)
	}
	most := truthTrue
	for range 3 {
		most = and(most, most, most, most)
	}
	if got, e := text.Pred(most); got != slowPred(most) || e != api.OK {
		t.Errorf("the greatest predicate is %q, %v", got, e)
	}
	loop := and(truthTrue)
	loop.Parts[0].Kind, loop.Parts[0].Truth, loop.Parts[0].Parts = api.PredAnd, 0, loop.Parts
	for _, p := range []api.Pred{wrap(api.PredNot, 1<<16, truthTrue), and(slices.Repeat([]api.Pred{truthTrue}, 1<<16)...), loop} {
		if got, e := text.Pred(p); got != "" || e != api.ErrPred {
			t.Errorf("a predicate of too many parts is %q, %v", got, e)
		}
	}
}

func TestPredLeavesWhatIsHandedIn(t *testing.T) {
	for _, p := range some() {
		want := pred.Copy(p)
		text.Pred(p)
		if !reflect.DeepEqual(pred.Copy(p), want) {
			t.Errorf("%v is changed to %v", want, p)
		}
	}
}

// P8.3

func TestParseOfPred(t *testing.T) {
	for _, p := range some() {
		s, _ := text.Pred(p)
		got, at, e := text.Parse(s)
		if !pred.Same(got, p) || at != len([]rune(s)) || e != api.OK {
			t.Errorf("Parse(%q) is %v, %d, %v, not %v", s, got, at, e, p)
		}
	}
}

// Each term comes back, on either side.
func TestParseOfTerms(t *testing.T) {
	var terms []api.Term
	for i := range 64 {
		for c := range 4 {
			terms = append(terms, col(i, c))
		}
	}
	for _, v := range values[:7] {
		terms = append(terms, val(v))
	}
	for i := range 63 {
		terms = append(terms, val(num(1<<i)), val(num(-1<<i)), val(num(1<<i-1)), val(num(-1<<i-1)))
	}
	for i, a := range terms {
		b := terms[(i+7)%len(terms)]
		for _, p := range []api.Pred{isNull(a), cmp(api.Eq+i%6, a, b), cmp(api.Eq+i%6, b, a)} {
			s, _ := text.Pred(p)
			if got, at, e := text.Parse(s); !pred.Same(got, p) || at != len([]rune(s)) || e != api.OK {
				t.Errorf("Parse(%q) is %v, %d, %v, not %v", s, got, at, e, p)
			}
		}
	}
}

// It comes back wherever it stands, whatever stands ahead of it and (but for a digit) behind it.
func TestTakeOfPred(t *testing.T) {
	ahead, behind := []string{"", "x", "⊤", "¬¬¬¬", "(0⟕[", "12", "∧(⊤;⊤;⊤;⊤;"}, []string{"", "x", "⊤", ";", ")", "]1)", ".", ",", "'", "-", "∅", "\x00", "٣"}
	for i, p := range some() {
		s, _ := text.Pred(p)
		a, b := ahead[i%len(ahead)], behind[i%len(behind)]
		from := len([]rune(a))
		got, at, e := text.Take([]rune(a+s+b), from)
		if !pred.Same(got, p) || at != from+len([]rune(s)) || e != api.OK {
			t.Errorf("Take(%q, %d) is %v, %d, %v, not %v", a+s+b, from, got, at, e, p)
		}
	}
}

// The chapter's example

func TestExample(t *testing.T) {
	const s = "∧(=0.0,1.0;¬∅2.1)"
	want := and(cmp(api.Eq, col(0, 0), col(1, 0)), not(isNull(col(2, 1))))
	if p, at, e := text.Parse(s); !reflect.DeepEqual(p, want) || at != 17 || e != api.OK {
		t.Errorf("Parse(%q) is %v, %d, %v", s, p, at, e)
	}
	if got, e := text.Pred(want); got != s || e != api.OK {
		t.Errorf("Pred(%v) is %q, %v", want, got, e)
	}
}
