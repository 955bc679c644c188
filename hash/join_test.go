package hash_test

import (
	"slices"
	"testing"

	"watersmeet/api"
	"watersmeet/hash"
	"watersmeet/nest"
	"watersmeet/sample"
)

// P15.2: Join

// Written out: what an operator of each kind makes, in order.
func TestJoin(t *testing.T) {
	l := tuples(rows(ints(5, 1)), rows(ints(6, 1), nil), rows(api.Row{null, {N: 1}}), rows(ints(7, 1)), rows(ints(5, 2)), nil)
	r := tuples(rows(nil, ints(7, 1)), rows(nil, ints(5, 1)), rows(nil, api.Row{null, {N: 1}}), rows(nil, ints(5, 2)), nil, rows(nil, ints(5, 1), ints(9)))
	pair := func(i, j int) []api.Row {
		return append(slices.Concat(l[i][:1], r[j][1:2]), r[j][2:]...)
	}
	two := []api.Pred{eq(col(1, 1), col(0, 1)), eq(col(0, 0), col(1, 0))}
	mixed := []api.Pred{eq(col(0, 0), col(1, 0)), cmp(api.Lt, col(0, 1), col(1, 1))}
	for _, c := range []struct {
		name string
		kind int
		conj []api.Pred
		want [][]api.Row
	}{
		{"inner", api.Inner, same, tuples(pair(0, 1), pair(0, 3), pair(0, 5), pair(3, 0), pair(4, 1), pair(4, 3), pair(4, 5))},
		{"left", api.Left, same, tuples(pair(0, 1), pair(0, 3), pair(0, 5), l[1], l[2], pair(3, 0), pair(4, 1), pair(4, 3), pair(4, 5), l[5])},
		{"semi", api.Semi, same, tuples(l[0], l[3], l[4])},
		{"anti", api.Anti, same, tuples(l[1], l[2], l[5])},
		{"leaf", api.Leaf, same, nil},
		{"a kind that there is not", 5, same, nil},
		{"inner, two keys", api.Inner, two, tuples(pair(0, 1), pair(0, 5), pair(3, 0), pair(4, 3))},
		{"left, two keys", api.Left, two, tuples(pair(0, 1), pair(0, 5), l[1], l[2], pair(3, 0), pair(4, 3), l[5])},
		{"semi, two keys", api.Semi, two, tuples(l[0], l[3], l[4])},
		{"anti, two keys", api.Anti, two, tuples(l[1], l[2], l[5])},
		{"inner, what is no key holds too", api.Inner, mixed, tuples(pair(0, 3))},
		{"left, what is no key holds too", api.Left, mixed, tuples(pair(0, 3), l[1], l[2], l[3], l[4], l[5])},
		{"semi, what is no key holds too", api.Semi, mixed, tuples(l[0])},
		{"anti, what is no key holds too", api.Anti, mixed, tuples(l[1], l[2], l[3], l[4], l[5])},
	} {
		if got := hash.Join(c.kind, c.conj, l, r, 1, 6); !sample.SameLists(got, c.want) {
			t.Errorf("%s: %v", c.name, got)
		}
	}
}

// Without a key each tuple is held against each one, those of nulls too.
func TestJoinWithoutKeys(t *testing.T) {
	l := tuples(rows(ints(1)), nil, rows(api.Row{null}))
	r := tuples(rows(nil, ints(1)), rows(nil, api.Row{wrong}), nil)
	for _, conj := range [][]api.Pred{
		nil, {}, {{Kind: api.PredTruth, Truth: api.True}}, {not(eq(col(0, 0), col(1, 0)))}, {{Kind: api.PredNull, A: col(1, 0)}},
		{cmp(api.Ge, col(0, 0), col(1, 0))}, {eq(col(0, 0), number(1))}, {{Kind: api.PredOr, Parts: []api.Pred{same[0], {Kind: api.PredNull, A: col(0, 0)}}}},
	} {
		for _, kind := range kinds {
			if got, want := hash.Join(kind, conj, l, r, 1, 2), nest.Join(kind, conj, l, r); !sample.SameLists(got, want) {
				t.Errorf("kind %d, %v: %v, not %v", kind, conj, got, want)
			}
		}
	}
	if got := hash.Join(api.Inner, nil, l, r, 1, 2); len(got) != 9 {
		t.Errorf("%d tuples", len(got))
	}
	if got := hash.Join(api.Inner, same, tuples(rows(ints(1))), r, 0, 0); len(got) != 1 {
		t.Errorf("%d tuples", len(got))
	}
}

// Where there are no tuples on a side.
func TestJoinOfNothing(t *testing.T) {
	one, other := tuples(rows(ints(5)), rows(ints(6))), tuples(rows(nil, ints(5)))
	for _, none := range [][][]api.Row{nil, {}} {
		for _, conj := range [][]api.Pred{nil, same} {
			for _, kind := range kinds {
				if got := hash.Join(kind, conj, none, other, 1, 2); len(got) != 0 {
					t.Errorf("kind %d, nothing on the left: %v", kind, got)
				}
				var want [][]api.Row
				if kind == api.Left || kind == api.Anti {
					want = one
				}
				if got := hash.Join(kind, conj, one, none, 1, 2); !sample.SameLists(got, want) {
					t.Errorf("kind %d, nothing on the right: %v", kind, got)
				}
			}
		}
	}
}

// wide tells t with places up to table, and this row there.
func wide(t []api.Row, table int, row api.Row) []api.Row {
	t = slices.Concat(t, make([]api.Row, max(0, table+1-len(t))))
	t[table] = row
	return t
}

// agree tells whether Join makes what 14's Join makes, and how many tuples it makes.
func agree(t *testing.T, kind int, conj []api.Pred, l, r [][]api.Row, left, right uint64) int {
	got, want := hash.Join(kind, conj, l, r, left, right), nest.Join(kind, conj, l, r)
	if !sample.SameLists(got, want) {
		t.Errorf("Join(%d, %v, %v, %v, %d, %d) is %v, not %v", kind, conj, l, r, left, right, got, want)
	}
	return len(got)
}

// What is made of tuples, predicates and sets of all sorts, those in both sets and in none too, is what 14's Join makes.
func TestJoinsOfAllSorts(t *testing.T) {
	d := &dice{3}
	keyed, made := 0, 0
	for range 6000 {
		conj := d.conj()
		left, right := d.sides()
		l, r := d.list(15, right), d.list(15, left)
		found := len(hash.Keys(conj, left, right))
		if found > 0 {
			keyed++
		}
		for _, kind := range kinds {
			n := agree(t, kind, conj, l, r, left, right)
			if kind == api.Inner && found > 0 {
				made += n
			}
		}
	}
	if keyed < 1500 || made < 400 {
		t.Errorf("%d joins have keys, and make %d tuples", keyed, made)
	}
}

// Of keys alone, with lists that are long enough for many that match.
func TestJoinsByKeys(t *testing.T) {
	d := &dice{4}
	made := 0
	for range 400 {
		left := 1 + uint64(d.below(62))
		right := 63 &^ left
		side := func(s uint64) api.Term {
			for {
				if i := d.below(6); s>>i&1 == 1 {
					return col(i, d.below(2))
				}
			}
		}
		var conj []api.Pred
		for range 1 + d.below(2) {
			a, b := side(left), side(right)
			if d.below(2) == 0 {
				a, b = b, a
			}
			conj = append(conj, eq(a, b))
		}
		l, r := d.list(30, right), d.list(30, left)
		for kind := range 6 {
			made += agree(t, kind, conj, l, r, left, right)
		}
	}
	if made < 10000 {
		t.Errorf("%d tuples", made)
	}
}

// Each two tables of a set may be the two of a key, and rows of tables that are in no set are of no matter.
func TestJoinsOfEachTable(t *testing.T) {
	l, r := tuples(ints1(1), ints1(2), ints1(3)), tuples(ints1(2), ints1(3), ints1(2))
	for i := range 64 {
		for j := range 64 {
			if i == j {
				continue
			}
			var a, b [][]api.Row
			for k := range l {
				a = append(a, wide(wide(l[k][:0], i, l[k][0]), 70, ints(7)))
				b = append(b, wide(wide(r[k][:0], j, r[k][0]), 66, ints(7)))
			}
			conj := []api.Pred{eq(col(j, 0), col(i, 0)), eq(col(70, 0), col(66, 0))}
			if n := agree(t, api.Inner, conj, a, b, 1<<i, 1<<j); n != 3 {
				t.Errorf("%d, %d: %d tuples", i, j, n)
			}
			agree(t, api.Left, conj, a, b, every&^(1<<j), 1<<j)
		}
	}
}

// ints1 tells the tuple of the table 0 alone that has this number.
func ints1(n int64) []api.Row {
	return rows(ints(n))
}

// Values that are written alike when they stand side by side are other values.
func TestJoinsOfValuesSideBySide(t *testing.T) {
	l := tuples(rows(ints(1, 12)), rows(ints(11, 2)), rows(ints(-1, 1)), rows(ints(most, least)))
	r := tuples(rows(nil, ints(11, 2)), rows(nil, ints(1, 12)), rows(nil, ints(1, -1)), rows(nil, ints(least, most)), rows(nil, ints(most, least)))
	conj := []api.Pred{eq(col(0, 0), col(1, 0)), eq(col(0, 1), col(1, 1))}
	want := tuples(rows(l[0][0], r[1][1]), rows(l[1][0], r[0][1]), rows(l[3][0], r[4][1]))
	if got := hash.Join(api.Inner, conj, l, r, 1, 2); !sample.SameLists(got, want) {
		t.Error(got)
	}
}

// Where a side has rows of the other one's tables nothing is promised but that it ends.
func TestJoinsThatAreNotPromised(t *testing.T) {
	d := &dice{5}
	for range 3000 {
		conj, l, r := d.conj(), d.list(5, 0), d.list(5, 0)
		for _, kind := range kinds[:6] {
			left, right := d.sides()
			hash.Join(kind, conj, l, r, left, right)
			hash.Join(kind, conj, l, r, every, every)
		}
	}
}

// P15.3: nulls

// What each null there is makes of a key: nothing matches it, neither a number nor another null.
func TestNulls(t *testing.T) {
	nulls := []api.Row{{null, {N: 1}}, {wrong, {N: 1}}, {{N: 1}, null}, {{N: 1}, wrong}, {null, null}, {wrong, wrong}, {null, wrong}, {{N: 1}}, {}, nil}
	right := []api.Row{ints(1, 1), ints(0, 1), ints(1, 0), ints(0, 0)}
	conj := []api.Pred{eq(col(0, 0), col(1, 0)), eq(col(1, 1), col(0, 1))}
	for _, a := range nulls {
		for _, b := range slices.Concat(nulls, right) {
			for _, c := range [][2]api.Row{{a, b}, {b, a}} {
				l, r := tuples(rows(c[0])), tuples(rows(nil, c[1]), rows(nil, c[1]))
				for kind, want := range map[int][][]api.Row{api.Inner: nil, api.Left: l, api.Semi: nil, api.Anti: l} {
					if got := hash.Join(kind, conj, l, r, 1, 2); !sample.SameLists(got, want) {
						t.Errorf("kind %d of %v and %v: %v", kind, l, r, got)
					}
				}
			}
		}
	}
}

// A null among tuples that match keeps none of them from matching.
func TestNullsAmongOthers(t *testing.T) {
	l := tuples(rows(api.Row{null}), rows(ints(1)), nil, rows(api.Row{wrong}), rows(ints(1)))
	r := tuples(rows(nil, api.Row{null}), rows(nil, ints(1)), nil, rows(nil, api.Row{wrong}))
	one := rows(ints(1), ints(1))
	for kind, want := range map[int][][]api.Row{
		api.Inner: tuples(one, one), api.Left: tuples(l[0], one, l[2], l[3], one), api.Semi: tuples(l[1], l[4]), api.Anti: tuples(l[0], l[2], l[3]),
	} {
		if got := hash.Join(kind, same, l, r, 1, 2); !sample.SameLists(got, want) {
			t.Errorf("kind %d: %v", kind, got)
		}
	}
}

// A null in what is no key is of no matter.
func TestNullsBesideKeys(t *testing.T) {
	l, r := tuples(rows(api.Row{{N: 1}, null})), tuples(rows(nil, api.Row{{N: 1}, null}))
	conj := []api.Pred{same[0], {Kind: api.PredNull, A: col(0, 1)}, {Kind: api.PredNull, A: col(1, 1)}}
	if got := hash.Join(api.Inner, conj, l, r, 1, 2); !sample.SameLists(got, tuples(rows(l[0][0], r[0][1]))) {
		t.Error(got)
	}
}

// Of any sides that are apart: a tuple whose key is none is told alone, by an outer and an anti join, and by no other one.
func TestNullsOfAllSorts(t *testing.T) {
	d := &dice{6}
	none := 0
	for range 3000 {
		conj := d.conj()
		left, right := d.sides()
		keys := hash.Keys(conj, left, right)
		r := d.list(6, left)
		for _, tuple := range d.list(6, right) {
			var terms []api.Term
			for _, key := range keys {
				terms = append(terms, key[0])
			}
			if _, ok := hash.Key(terms, tuple); ok {
				continue
			}
			none++
			for kind, want := range map[int][][]api.Row{api.Inner: nil, api.Left: tuples(tuple), api.Semi: nil, api.Anti: tuples(tuple)} {
				if got := hash.Join(kind, conj, tuples(tuple), r, left, right); !sample.SameLists(got, want) {
					t.Errorf("kind %d of %v, %v and %v: %v", kind, conj, tuple, r, got)
				}
			}
		}
	}
	if none < 1000 {
		t.Errorf("%d tuples have no key", none)
	}
}
