package bag_test

import (
	"fmt"
	"maps"
	"math"
	"reflect"
	"slices"
	"testing"

	"watersmeet/api"
	"watersmeet/bag"
)

var null = api.Value{Null: true}

// wrong are nulls that may not be, but count as null.
var wrong = []api.Value{{Null: true, N: 1}, {Null: true, N: -1}, {Null: true, N: math.MaxInt64}, {Null: true, N: math.MinInt64}}

// values are values of all sorts, the last ones may not be.
var values = []api.Value{null, num(math.MinInt64), num(-10), num(-9), num(0), num(1), num(math.MaxInt64), wrong[0], wrong[3]}

func num(n int64) api.Value {
	return api.Value{N: n}
}

// ints tells the row of these numbers.
func ints(l ...int64) api.Row {
	r := api.Row{}
	for _, n := range l {
		r = append(r, num(n))
	}
	return r
}

// rowsOf tells all rows of so many columns, of these values.
func rowsOf(l []api.Value, columns int) []api.Row {
	rows := []api.Row{{}}
	for range columns {
		var longer []api.Row
		for _, r := range rows {
			for _, v := range l {
				longer = append(longer, append(slices.Clone(r), v))
			}
		}
		rows = longer
	}
	return rows
}

// listsOf tells all lists of up to so many of these rows.
func listsOf(rows []api.Row, most int) [][]api.Row {
	lists := [][]api.Row{nil}
	for from := 0; most > 0; most-- {
		to := len(lists)
		for _, l := range lists[from:to] {
			for _, r := range rows {
				lists = append(lists, append(slices.Clone(l), r))
			}
		}
		from = to
	}
	return lists
}

// key tells a text that stands to other rows' ones as the row does to theirs: each value has as many signs, null the least ones.
func key(r api.Row) string {
	var s string
	for _, v := range r {
		n := uint64(0)
		if !v.Null {
			n = uint64(v.N) ^ 1<<63
		}
		s += fmt.Sprintf("%t%020d", !v.Null, n)
	}
	return s
}

// slowSorted tells what Sorted tells: again and again the first of those that have the least key.
func slowSorted(l []api.Row) []api.Row {
	l = slices.Clone(l)
	var sorted []api.Row
	for len(l) > 0 {
		least := 0
		for i := range l {
			if key(l[i]) < key(l[least]) {
				least = i
			}
		}
		sorted = append(sorted, l[least])
		l = slices.Delete(l, least, least+1)
	}
	return sorted
}

// counts tells by its key how often each row comes.
func counts(l []api.Row) map[string]int {
	n := map[string]int{}
	for _, r := range l {
		n[key(r)]++
	}
	return n
}

// identical tells whether all fields of all values are the same, be they null or not.
func identical(a, b []api.Row) bool {
	return slices.EqualFunc(a, b, func(r, s api.Row) bool { return slices.Equal(r, s) })
}

// copied tells l in new memory, the spare room of the list and of each row, too.
func copied(l []api.Row) []api.Row {
	c := slices.Clone(l[:cap(l)])
	for i, r := range c {
		c[i] = slices.Clone(r[:cap(r)])
	}
	return c
}

// dice tells numbers without a pattern, the same ones each time.
type dice struct{ word uint64 }

func (d *dice) below(n int) int {
	d.word = d.word*6364136223846793005 + 1442695040888963407
	return int(d.word >> 33 % uint64(n))
}

// list tells so many rows of up to so many columns, of the first values alone, so that some are the same.
func (d *dice) list(rows, columns, different int) []api.Row {
	l := []api.Row{}
	for range rows {
		r := api.Row{}
		for range d.below(columns + 1) {
			r = append(r, values[d.below(different)])
		}
		l = append(l, r)
	}
	return l
}

// mixed tells l in another order.
func (d *dice) mixed(l []api.Row) []api.Row {
	l = slices.Clone(l)
	for i := range l {
		j := i + d.below(len(l)-i)
		l[i], l[j] = l[j], l[i]
	}
	return l
}

// P9.1: Less, SameRow

// Rows in order, from the first one on; those of one line are the same.
var ordered = [][]api.Row{
	{nil, {}},
	{{null}, {wrong[0]}, {wrong[1]}, {wrong[2]}, {wrong[3]}},
	{{null, null}, {wrong[2], null}, {null, wrong[3]}},
	{{null, num(5)}, {wrong[0], num(5)}},
	{ints(math.MinInt64)},
	{{num(math.MinInt64), null}, {num(math.MinInt64), wrong[1]}},
	{ints(math.MinInt64, math.MinInt64)},
	{ints(-10)},
	{ints(-9)},
	{ints(-1)},
	{ints(0)},
	{ints(0, -1)},
	{ints(0, 0)},
	{ints(0, 0, 0)},
	{ints(0, 1)},
	{ints(1)},
	{{num(1), null}, {num(1), wrong[3]}},
	{{num(1), null, num(9)}, {num(1), wrong[2], num(9)}},
	{ints(1, math.MinInt64)},
	{ints(1, 2)},
	{ints(1, 2, 3, 4)},
	{ints(1, 3)},
	{ints(2)},
	{ints(2, 1)},
	{ints(9)},
	{ints(10)},
	{ints(math.MaxInt64)},
	{ints(math.MaxInt64, math.MaxInt64)},
}

func TestLessAndSameRow(t *testing.T) {
	for i, first := range ordered {
		for j, second := range ordered {
			for _, a := range first {
				for _, b := range second {
					if bag.Less(a, b) != (i < j) {
						t.Errorf("Less(%v, %v) is %t", a, b, i >= j)
					}
					if bag.SameRow(a, b) != (i == j) {
						t.Errorf("SameRow(%v, %v) is %t", a, b, i != j)
					}
				}
			}
		}
	}
}

// All rows of few columns, against one another: one of two stands ahead, or they are the same.
func TestLessAndSameRowOfAll(t *testing.T) {
	var rows []api.Row
	for columns := range 4 {
		rows = append(rows, rowsOf(values, columns)...)
	}
	keys := map[string]int{}
	var ofRow []string
	for _, r := range rows {
		k := key(r)
		keys[k] = 0
		ofRow = append(ofRow, k)
	}
	for place, k := range slices.Sorted(maps.Keys(keys)) {
		keys[k] = place
	}
	for i, a := range rows {
		for j, b := range rows {
			first, second := keys[ofRow[i]], keys[ofRow[j]]
			if bag.Less(a, b) != (first < second) {
				t.Errorf("Less(%v, %v) is %t", a, b, first >= second)
			}
			if bag.SameRow(a, b) != (first == second) {
				t.Errorf("SameRow(%v, %v) is %t", a, b, first != second)
			}
		}
	}
}

// The first column in which they are not the same tells it, wherever it is and whatever stands behind it.
func TestLessOfLongRows(t *testing.T) {
	const columns = 256
	for at := range columns {
		a := slices.Repeat(ints(7), columns)
		b := slices.Clone(a)
		a[at] = null
		if at+1 < columns {
			b[at+1] = null
		}
		if !bag.Less(a, b) || bag.Less(b, a) || bag.SameRow(a, b) || bag.SameRow(b, a) {
			t.Errorf("null in the column %d is not ahead of 7", at)
		}
		b[at] = null
		if at+1 < columns {
			b[at+1] = num(7)
		}
		if bag.Less(a, b) || bag.Less(b, a) || !bag.SameRow(a, b) {
			t.Errorf("the rows with null in the column %d are not the same", at)
		}
		shorter := a[:at]
		if !bag.Less(shorter, a) || bag.Less(a, shorter) || bag.SameRow(shorter, a) {
			t.Errorf("the first %d columns are not ahead of the row", at)
		}
	}
}

// P9.1: Sorted

func TestSorted(t *testing.T) {
	for _, c := range []struct{ l, want []api.Row }{
		{nil, nil},
		{[]api.Row{}, nil},
		{[]api.Row{nil}, []api.Row{{}}},
		{[]api.Row{ints(3)}, []api.Row{ints(3)}},
		{[]api.Row{ints(1), {null}, ints(1), {}}, []api.Row{{}, {null}, ints(1), ints(1)}},
		{[]api.Row{ints(2, 1), ints(2), ints(1, 9), ints(-1)}, []api.Row{ints(-1), ints(1, 9), ints(2), ints(2, 1)}},
		{[]api.Row{ints(1, 2), {num(1), null}, {null, num(2)}}, []api.Row{{null, num(2)}, {num(1), null}, ints(1, 2)}},
		{[]api.Row{ints(10), ints(9), ints(-10), ints(-9)}, []api.Row{ints(-10), ints(-9), ints(9), ints(10)}},
		{[]api.Row{ints(math.MaxInt64), ints(math.MinInt64), ints(0)}, []api.Row{ints(math.MinInt64), ints(0), ints(math.MaxInt64)}},
		// Rows that are the same stay in the order in which they came, with the numbers that they came with.
		{[]api.Row{ints(0), {wrong[2]}, {null}, {wrong[3]}, {wrong[0]}}, []api.Row{{wrong[2]}, {null}, {wrong[3]}, {wrong[0]}, ints(0)}},
		{[]api.Row{{null, num(1)}, {wrong[0], null}, {wrong[1], num(1)}, {null, wrong[2]}}, []api.Row{{wrong[0], null}, {null, wrong[2]}, {null, num(1)}, {wrong[1], num(1)}}},
	} {
		if got := bag.Sorted(c.l); !identical(got, c.want) {
			t.Errorf("Sorted(%v) is %v, not %v", c.l, got, c.want)
		}
	}
}

func TestSortedOfAll(t *testing.T) {
	for _, l := range listsOf([]api.Row{{}, {null}, {wrong[0]}, ints(0), {num(0), null}}, 5) {
		if got := bag.Sorted(l); !identical(got, slowSorted(l)) {
			t.Errorf("Sorted(%v) is %v", l, got)
		}
	}
	d := &dice{9}
	for n := range 100 {
		l := d.list(n, 1+n%4, 2+n%8)
		if got := bag.Sorted(l); !identical(got, slowSorted(l)) {
			t.Errorf("Sorted(%v) is %v", l, got)
		}
	}
}

// Many rows, many of which are the same: the number of each null tells where it stood.
func TestSortedOfMany(t *testing.T) {
	const rows = 1 << 16
	d := &dice{91}
	var l []api.Row
	for i := range rows {
		l = append(l, api.Row{num(int64(d.below(100))), {Null: true, N: int64(i)}})
	}
	got := bag.Sorted(l)
	if len(got) != rows || !bag.Same(got, l) {
		t.Fatalf("%d rows are %d others", rows, len(got))
	}
	for i := range rows - 1 {
		a, b := got[i], got[i+1]
		if a[0].N > b[0].N || a[0].N == b[0].N && a[1].N >= b[1].N {
			t.Fatalf("%v stands ahead of %v", a, b)
		}
	}
}

// Whatever is done to what is handed out, neither what was handed in nor another row is changed by it.
func TestSortedIsNewMemory(t *testing.T) {
	all := ints(3, 2, 1, 0)
	l := []api.Row{all, all, all[1:], all[:1], all[1:2:2], {}, all[2:2]}
	before := copied(l)
	want := []api.Row{{}, {}, ints(2), ints(2, 1, 0), ints(3), ints(3, 2, 1, 0), ints(3, 2, 1, 0)}
	got := bag.Sorted(l)
	for i := range got {
		if !identical(got[i:], want[i:]) {
			t.Fatalf("%v is changed to %v", want[i:], got[i:])
		}
		for j := range got[i] {
			got[i][j] = num(99)
		}
		_ = append(got[i], num(99), num(99))
	}
	_ = append(got[:0], nil, nil)
	if len(got) != len(want) || !identical(copied(l), before) {
		t.Errorf("%v is changed to %v", before, l)
	}
}

// P9.2

func TestSame(t *testing.T) {
	for _, c := range []struct {
		a, b []api.Row
		want bool
	}{
		{nil, nil, true},
		{nil, []api.Row{}, true},
		{nil, []api.Row{nil}, false},
		{[]api.Row{nil}, []api.Row{{}}, true},
		{[]api.Row{{}}, []api.Row{{}, {}}, false},
		{[]api.Row{{}}, []api.Row{{null}}, false},
		{[]api.Row{ints(1)}, []api.Row{ints(1)}, true},
		{[]api.Row{ints(1)}, []api.Row{ints(2)}, false},
		{[]api.Row{ints(1)}, []api.Row{ints(1), ints(1)}, false},
		{[]api.Row{ints(1)}, []api.Row{ints(1, 1)}, false},
		{[]api.Row{ints(1, 2)}, []api.Row{ints(2, 1)}, false},
		{[]api.Row{ints(1, 2)}, []api.Row{ints(1), ints(2)}, false},
		{[]api.Row{ints(1), ints(2), ints(3)}, []api.Row{ints(3), ints(1), ints(2)}, true},
		{[]api.Row{ints(1), ints(1), ints(2)}, []api.Row{ints(2), ints(1), ints(1)}, true},
		{[]api.Row{ints(1), ints(1), ints(2)}, []api.Row{ints(2), ints(2), ints(1)}, false},
		{[]api.Row{ints(1), ints(2)}, []api.Row{ints(1), ints(2), ints(3)}, false},
		{[]api.Row{{null}, {wrong[0]}}, []api.Row{{wrong[2]}, {wrong[3]}}, true},
		{[]api.Row{{null}, {wrong[0]}}, []api.Row{{null}, ints(1)}, false},
		{[]api.Row{{null}}, []api.Row{ints(0)}, false},
		// What is the same of all columns but one may stand between what is not.
		{[]api.Row{{wrong[0], num(2)}, {null, num(1)}}, []api.Row{{null, num(2)}, {null, num(1)}}, true},
		{[]api.Row{{null, num(1)}, {num(1), null}}, []api.Row{{null, null}, ints(1, 1)}, false},
	} {
		if bag.Same(c.a, c.b) != c.want || bag.Same(c.b, c.a) != c.want {
			t.Errorf("Same(%v, %v) is %t", c.a, c.b, !c.want)
		}
		if !bag.Same(c.a, c.a) || !bag.Same(c.b, c.b) {
			t.Errorf("%v or %v is another bag than itself", c.a, c.b)
		}
	}
}

func TestSameOfSorted(t *testing.T) {
	d := &dice{92}
	for n := range 200 {
		l := d.list(n, 4, len(values))
		if m := d.mixed(l); !bag.Same(l, m) || !bag.Same(m, bag.Sorted(l)) {
			t.Errorf("%v is another bag in another order", l)
		}
	}
}

func TestTimes(t *testing.T) {
	l := []api.Row{ints(1), {null}, ints(1, 2), {}, ints(1), {wrong[0]}, {num(1), null}, nil, ints(2), ints(1), ints(1, 2), {wrong[3]}}
	for _, c := range []struct {
		r    api.Row
		want int
	}{
		{nil, 2},
		{api.Row{}, 2},
		{ints(1), 3},
		{ints(2), 1},
		{ints(3), 0},
		{ints(0), 0},
		{ints(-1), 0},
		{ints(1, 2), 2},
		{ints(2, 1), 0},
		{ints(1, 2, 3), 0},
		{api.Row{null}, 3},
		{api.Row{wrong[2]}, 3},
		{api.Row{num(1), null}, 1},
		{api.Row{num(1), wrong[1]}, 1},
		{api.Row{null, null}, 0},
	} {
		if got := bag.Times(l, c.r); got != c.want {
			t.Errorf("%v comes %d times, not %d", c.r, got, c.want)
		}
		if got := bag.Times(nil, c.r); got != 0 {
			t.Errorf("%v comes %d times in no rows", c.r, got)
		}
	}
}

func TestTimesOfAll(t *testing.T) {
	d := &dice{93}
	for n := range 100 {
		l := d.list(n, 2, len(values))
		want := counts(l)
		for _, r := range append(rowsOf(values, 1), rowsOf(values, 2)...) {
			if got := bag.Times(l, r); got != want[key(r)] {
				t.Errorf("%v comes %d times in %v", r, got, l)
			}
		}
	}
}

// P9.3

// alike tells by the calls of the package whether each row is in both as often.
func alike(a, b []api.Row) bool {
	return !slices.ContainsFunc(slices.Concat(a, b), func(r api.Row) bool {
		return bag.Times(a, r) != bag.Times(b, r)
	})
}

func TestSameIsAsOften(t *testing.T) {
	lists := listsOf([]api.Row{{}, {null}, {wrong[0]}, ints(1)}, 4)
	var often []map[string]int
	for _, l := range lists {
		often = append(often, counts(l))
	}
	for i, a := range lists {
		for j, b := range lists {
			want := maps.Equal(often[i], often[j])
			if bag.Same(a, b) != want || alike(a, b) != want {
				t.Errorf("Same(%v, %v) is %t", a, b, bag.Same(a, b))
			}
		}
	}
}

// One row in another one's stead makes another bag, wherever it stands; but for one that is the same.
func TestSameOfOneOtherRow(t *testing.T) {
	d := &dice{94}
	for n := range 60 {
		l := d.list(n, 3, len(values))
		for i := range l {
			m := d.mixed(l)
			m[i] = d.list(1, 3, len(values))[0]
			want := maps.Equal(counts(l), counts(m))
			if bag.Same(l, m) != want || bag.Same(m, l) != want || alike(l, m) != want {
				t.Errorf("Same(%v, %v) is %t", l, m, bag.Same(l, m))
			}
			if bag.Same(l, slices.Delete(m, i, i+1)) {
				t.Errorf("%v is the same bag as without one row", l)
			}
		}
	}
}

// What is handed in

func TestWhatIsHandedInStays(t *testing.T) {
	d := &dice{95}
	for n := range 50 {
		l := d.list(n+1, 4, len(values))
		for i, r := range l {
			l[i] = append(r, ints(7, 6)...)[:len(r)]
		}
		l = append(l, ints(5), ints(4))[:n+1]
		m := d.mixed(l)
		beforeL, beforeM := copied(l), copied(m)
		bag.Sorted(l)
		bag.Same(l, m)
		bag.Times(l, m[0])
		bag.Less(l[0], m[0])
		bag.SameRow(l[0], m[0])
		if !identical(copied(l), beforeL) || !identical(copied(m), beforeM) {
			t.Errorf("%v or %v is changed", beforeL, beforeM)
		}
	}
}

// The chapter's example

func TestExample(t *testing.T) {
	a, b := []api.Row{{null}, ints(1)}, []api.Row{ints(1), {null}}
	if !bag.Same(a, b) {
		t.Error("null and then 1, and 1 and then null, are two bags")
	}
	want := []api.Row{{null}, ints(1)}
	if !reflect.DeepEqual(bag.Sorted(a), want) || !reflect.DeepEqual(bag.Sorted(b), want) {
		t.Error("null does not stand ahead of 1")
	}
}
