package term_test

import (
	"math"
	"slices"
	"testing"

	"watersmeet/api"
	"watersmeet/term"
)

var null = api.Value{Null: true}

// wide are places of all sorts: those at which what is told turns, and some that would be right if they were cut to fewer digits.
var wide = []int{math.MinInt, math.MinInt + 1, -1 << 32, -256, -64, -4, -1, 0, 1, 2, 3, 4, 5, 7, 62, 63, 64, 65, 127, 128, 255, 256, 1 << 32, 1<<32 + 3, math.MaxInt}

// kinds are numbers that are no kind of a term.
var kinds = []int{0, 3, 4, -1, -2, 127, 256, 257, 258, 1 << 32, 1<<32 + 1, 1<<32 + 2, math.MaxInt, math.MinInt, math.MinInt + 1}

// values are values of all sorts; the last ones may not be.
var values = []api.Value{{}, {N: 1}, {N: -5}, {N: math.MaxInt64}, {N: math.MinInt64}, null, {Null: true, N: 1}, {Null: true, N: -1}, {Null: true, N: math.MinInt64}}

func col(table, c int) api.Term {
	return api.Term{Kind: api.TermCol, Table: table, Col: c}
}

func val(v api.Value) api.Term {
	return api.Term{Kind: api.TermValue, Value: v}
}

func num(n int64) api.Value {
	return api.Value{N: n}
}

// terms are terms of all sorts, each once, whether they may be or not.
func terms() []api.Term {
	var l []api.Term
	for _, kind := range []int{api.TermCol, api.TermValue, 0, 3, -1} {
		for _, table := range []int{0, 1, 63, 64, -1} {
			for _, c := range []int{0, 3, 4, -1} {
				for _, v := range values {
					l = append(l, api.Term{Kind: kind, Table: table, Col: c, Value: v})
				}
			}
		}
	}
	return l
}

// table tells rows of n tables, each of four columns, all values of which are different.
func table(n int) []api.Row {
	rows := make([]api.Row, n)
	for i := range rows {
		for c := range 4 {
			rows[i] = append(rows[i], num(int64(10*i+c)))
		}
	}
	return rows
}

func cloned(rows []api.Row) []api.Row {
	l := make([]api.Row, len(rows))
	for i, r := range rows {
		l[i] = slices.Clone(r)
	}
	return l
}

// P5.1

func TestRight(t *testing.T) {
	for _, c := range []struct {
		t    api.Term
		want bool
	}{
		{col(0, 0), true},
		{col(63, 3), true},
		{col(64, 0), false},
		{col(0, 4), false},
		{col(-1, 0), false},
		{col(0, -1), false},
		{val(num(0)), true},
		{val(num(-5)), true},
		{val(null), true},
		{val(api.Value{Null: true, N: 1}), false},
		{api.Term{Kind: api.TermCol, Value: null}, false},
		{api.Term{Kind: api.TermCol, Value: num(1)}, false},
		{api.Term{Kind: api.TermCol, Value: api.Value{Null: true, N: 1}}, false},
		{api.Term{Kind: api.TermValue, Table: 1}, false},
		{api.Term{Kind: api.TermValue, Col: 1}, false},
		{api.Term{}, false},
		{api.Term{Kind: 3}, false},
	} {
		if term.Right(c.t) != c.want {
			t.Errorf("Right(%v) is %t", c.t, !c.want)
		}
	}
}

func TestRightColumn(t *testing.T) {
	for _, i := range wide {
		for _, c := range wide {
			for _, v := range values {
				x := api.Term{Kind: api.TermCol, Table: i, Col: c, Value: v}
				want := i >= 0 && i <= 63 && c >= 0 && c <= 3 && v == api.Value{}
				if term.Right(x) != want {
					t.Errorf("Right(%v) is %t", x, !want)
				}
			}
		}
	}
}

func TestRightValue(t *testing.T) {
	for _, i := range wide {
		for _, c := range wide {
			for _, v := range values {
				x := api.Term{Kind: api.TermValue, Table: i, Col: c, Value: v}
				want := i == 0 && c == 0 && (!v.Null || v.N == 0)
				if term.Right(x) != want {
					t.Errorf("Right(%v) is %t", x, !want)
				}
			}
		}
	}
}

func TestRightOfOtherKinds(t *testing.T) {
	for _, kind := range kinds {
		for _, x := range terms() {
			x.Kind = kind
			if term.Right(x) {
				t.Errorf("Right(%v)", x)
			}
		}
	}
}

func TestSame(t *testing.T) {
	l := terms()
	for i, a := range l {
		for j, b := range l {
			if term.Same(a, b) != (i == j) {
				t.Errorf("Same(%v, %v) is %t", a, b, i != j)
			}
		}
	}
}

// One field alone tells terms apart, in its whole range.
func TestSameByField(t *testing.T) {
	whole := api.Term{Kind: api.TermCol, Table: 2, Col: 1, Value: num(7)}
	if !term.Same(whole, whole) {
		t.Error("a term is not the same as itself")
	}
	for _, change := range []func(*api.Term){
		func(x *api.Term) { x.Kind = api.TermValue },
		func(x *api.Term) { x.Kind += 1 << 32 },
		func(x *api.Term) { x.Table = 3 },
		func(x *api.Term) { x.Table += 64 },
		func(x *api.Term) { x.Col = 0 },
		func(x *api.Term) { x.Col += 1 << 32 },
		func(x *api.Term) { x.Value.N = -7 },
		func(x *api.Term) { x.Value.N += 1 << 32 },
		func(x *api.Term) { x.Value.Null = true },
	} {
		other := whole
		change(&other)
		if term.Same(whole, other) || term.Same(other, whole) {
			t.Errorf("Same(%v, %v)", whole, other)
		}
	}
}

// By ==, nulls that have other numbers are not the same, though both count as null.
func TestSameOfNulls(t *testing.T) {
	wrong := val(api.Value{Null: true, N: 1})
	if term.Same(val(null), wrong) || term.Same(wrong, val(null)) {
		t.Error("null is the same as a null with 1")
	}
	if !term.Same(wrong, wrong) || !term.Same(val(null), val(null)) {
		t.Error("a null is not the same as itself")
	}
}

func TestTables(t *testing.T) {
	want := uint64(1)
	for i := range 64 {
		if got := term.Tables(col(i, i%4)); got != want {
			t.Errorf("Tables of a column of %d: %d, not %d", i, got, want)
		}
		want *= 2
	}
	for _, i := range wide {
		if got := term.Tables(col(i, 0)); (i < 0 || i > 63) && got != 0 {
			t.Errorf("Tables of a column of %d: %d", i, got)
		}
	}
}

// Whether a term may be, and what else it has, is of no matter.
func TestTablesOfAll(t *testing.T) {
	for _, x := range terms() {
		want := uint64(0)
		if x.Kind == api.TermCol && x.Table >= 0 && x.Table < 64 {
			want = 1 << x.Table
		}
		if got := term.Tables(x); got != want {
			t.Errorf("Tables(%v) is %d, not %d", x, got, want)
		}
	}
}

func TestTablesOfOtherKinds(t *testing.T) {
	for _, kind := range append([]int{api.TermValue}, kinds...) {
		for i := range 64 {
			if got := term.Tables(api.Term{Kind: kind, Table: i}); got != 0 {
				t.Errorf("Tables of the kind %d and the table %d: %d", kind, i, got)
			}
		}
	}
}

// P5.2

func TestOf(t *testing.T) {
	rows := []api.Row{{num(1)}, nil, {null, num(3)}, {}, {num(math.MinInt64), num(0), num(math.MaxInt64), null}}
	for _, c := range []struct {
		t    api.Term
		want api.Value
	}{
		{col(0, 0), num(1)},
		{col(0, 1), null},
		{col(0, -1), null},
		{col(1, 0), null},
		{col(2, 0), null},
		{col(2, 1), num(3)},
		{col(2, 2), null},
		{col(3, 0), null},
		{col(4, 0), num(math.MinInt64)},
		{col(4, 1), num(0)},
		{col(4, 2), num(math.MaxInt64)},
		{col(4, 3), null},
		{col(4, 4), null},
		{col(5, 0), null},
		{col(-1, 0), null},
		{col(63, 3), null},
		{col(64, 0), null},
		{val(num(8)), num(8)},
		{val(num(0)), num(0)},
		{val(null), null},
	} {
		if got := term.Of(c.t, rows); got != c.want {
			t.Errorf("Of(%v) is %v, not %v", c.t, got, c.want)
		}
	}
}

func TestOfEachColumn(t *testing.T) {
	rows := table(64)
	for i := range 64 {
		for c := range 4 {
			if got := term.Of(col(i, c), rows); got != num(int64(10*i+c)) {
				t.Errorf("%d.%d is %v", i, c, got)
			}
		}
	}
}

func TestOfPlacesThatAreNotThere(t *testing.T) {
	for n := range 5 {
		rows := table(n)
		for _, i := range wide {
			for _, c := range wide {
				want := null
				if i >= 0 && i < n && c >= 0 && c < 4 {
					want = num(int64(10*i + c))
				}
				if got := term.Of(col(i, c), rows); got != want {
					t.Errorf("%d.%d of %d rows is %v, not %v", i, c, n, got, want)
				}
			}
		}
	}
}

// What stands in the spare room of a list is not there.
func TestOfSpareRoom(t *testing.T) {
	whole := table(3)
	rows := whole[:2]
	rows[1] = rows[1][:1]
	for _, x := range []api.Term{col(2, 0), col(1, 1), col(1, 3)} {
		if got := term.Of(x, rows); got != null {
			t.Errorf("Of(%v) is %v", x, got)
		}
	}
	if got := term.Of(col(1, 0), rows); got != num(10) {
		t.Errorf("1.0 is %v", got)
	}
}

// A column's own Value is of no matter, whether the column is there or not.
func TestOfColumnWithValue(t *testing.T) {
	rows := table(2)
	for _, v := range values {
		x := api.Term{Kind: api.TermCol, Table: 1, Col: 2, Value: v}
		if got := term.Of(x, rows); got != num(12) {
			t.Errorf("Of(%v) is %v", x, got)
		}
		x.Table = 2
		if got := term.Of(x, rows); got != null {
			t.Errorf("Of(%v) is %v", x, got)
		}
	}
}

// Of any term that is no column its Value, as it is, though it may not be, and whatever its other fields are.
func TestOfOthers(t *testing.T) {
	rows := table(2)
	for _, kind := range append([]int{api.TermValue}, kinds...) {
		for _, v := range values {
			for _, i := range wide {
				x := api.Term{Kind: kind, Table: i, Col: i, Value: v}
				if got := term.Of(x, rows); got != v {
					t.Errorf("Of(%v) is %v", x, got)
				}
			}
		}
	}
}

// What a row has is told as it is.
func TestOfRowsThatMayNotBe(t *testing.T) {
	rows := make([]api.Row, 70)
	rows[1] = slices.Clone(values)
	rows[69] = api.Row{num(5)}
	for c, v := range values {
		if got := term.Of(col(1, c), rows); got != v {
			t.Errorf("1.%d is %v, not %v", c, got, v)
		}
	}
	if got := term.Of(col(69, 0), rows); got != num(5) {
		t.Errorf("69.0 is %v", got)
	}
}

func TestOfLeavesWhatIsHandedIn(t *testing.T) {
	whole := table(4)
	rows := whole[:2]
	want := cloned(whole)
	for _, x := range terms() {
		term.Of(x, rows)
	}
	if !slices.EqualFunc(whole, want, slices.Equal[api.Row]) {
		t.Errorf("what was handed in is changed to %v", whole)
	}
}

// P5.3

func TestRowsOfOtherTables(t *testing.T) {
	rows := table(64)
	others := []api.Row{nil, {}, {null}, {num(-1), num(-2), num(-3), num(-4)}, {num(9), null, num(9), null, num(9)}}
	for i := range 64 {
		for at, other := range others {
			twin := make([]api.Row, 64)
			for j := range twin {
				twin[j] = others[(at+j)%len(others)]
			}
			twin[(i+1)%64] = other
			twin[i] = rows[i]
			for c := -1; c <= 4; c++ {
				if got, want := term.Of(col(i, c), twin), term.Of(col(i, c), rows); got != want {
					t.Errorf("%d.%d is %v by other tables' rows, not %v", i, c, got, want)
				}
			}
		}
	}
}

// Nor is it of any matter whether there are rows behind, or whether the table has no row because it has an empty one.
func TestRowsBehind(t *testing.T) {
	rows := table(64)
	for i := range 64 {
		for c := range 4 {
			if got, want := term.Of(col(i, c), rows[:i+1]), num(int64(10*i+c)); got != want {
				t.Errorf("%d.%d as the last row is %v, not %v", i, c, got, want)
			}
			if got := term.Of(col(i, c), rows[:i]); got != null {
				t.Errorf("%d.%d behind the last row is %v", i, c, got)
			}
			without := slices.Clone(rows)
			without[i] = api.Row{}
			if got := term.Of(col(i, c), without); got != null {
				t.Errorf("%d.%d of an empty row is %v", i, c, got)
			}
		}
	}
}

func TestRowsOfNoTable(t *testing.T) {
	for _, v := range values {
		for _, rows := range [][]api.Row{nil, {}, {{}}, table(1), table(64)} {
			if got := term.Of(val(v), rows); got != v {
				t.Errorf("%v is %v by %d rows", v, got, len(rows))
			}
		}
	}
}

// The chapter's example.

func TestExample(t *testing.T) {
	for _, rows := range [][]api.Row{nil, {}} {
		if got := term.Of(col(2, 1), rows); got != null {
			t.Errorf("the column 1 of the table 2, of no rows: %v", got)
		}
	}
}
