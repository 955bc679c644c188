package logic_test

import (
	"math"
	"slices"
	"testing"

	"watersmeet/api"
	"watersmeet/logic"
)

// wrong are numbers that are no truth; some of them would be truths if they were cut to fewer digits.
var wrong = []int{-1, -2, 3, 4, 7, 127, 128, 255, 256, 258, 1 << 32, 1<<32 + 2, math.MaxInt, math.MinInt, math.MinInt + 2}

// all are the three truths, and then numbers that are none.
var all = append([]int{api.False, api.Unknown, api.True}, wrong...)

// counts tells what t counts as.
func counts(t int) int {
	if t < api.False || t > api.True {
		return api.Unknown
	}
	return t
}

// The truths rise from False by Unknown to True: And is the least of what all count as, Or the greatest, and Not turns them round.

func slowAnd(l []int) int {
	least := api.True
	for _, t := range l {
		least = min(least, counts(t))
	}
	return least
}

func slowOr(l []int) int {
	most := api.False
	for _, t := range l {
		most = max(most, counts(t))
	}
	return most
}

func slowNot(t int) int {
	return api.True - counts(t)
}

// lists tells all lists of n of these numbers.
func lists(of []int, n int) [][]int {
	if n == 0 {
		return [][]int{nil}
	}
	var told [][]int
	for _, l := range lists(of, n-1) {
		for _, t := range of {
			told = append(told, append(slices.Clone(l), t))
		}
	}
	return told
}

// many tells lists of all sorts: all short ones, and long ones where one alone is another one.
func many() [][]int {
	var told [][]int
	for n := range 4 {
		told = append(told, lists(all, n)...)
	}
	for n := 4; n <= 7; n++ {
		told = append(told, lists([]int{api.False, api.Unknown, api.True}, n)...)
	}
	for _, t := range all {
		for _, u := range all {
			for _, at := range []int{0, 1, 500, 998, 999} {
				l := slices.Repeat([]int{t}, 1000)
				l[at] = u
				told = append(told, l)
			}
		}
	}
	return told
}

// P4.1

func TestRight(t *testing.T) {
	for n := -300; n <= 300; n++ {
		if got := logic.Right(n); got != (0 <= n && n <= 2) {
			t.Errorf("Right(%d) is %v", n, got)
		}
	}
	for _, n := range wrong {
		if logic.Right(n) {
			t.Errorf("Right(%d)", n)
		}
	}
}

func TestNot(t *testing.T) {
	for _, c := range [][2]int{{api.True, api.False}, {api.False, api.True}, {api.Unknown, api.Unknown}} {
		if got := logic.Not(c[0]); got != c[1] {
			t.Errorf("Not(%d) is %d, not %d", c[0], got, c[1])
		}
	}
	for _, n := range wrong {
		if got := logic.Not(n); got != api.Unknown {
			t.Errorf("Not(%d) is %d", n, got)
		}
	}
}

func TestAndAndOr(t *testing.T) {
	const f, u, tr = api.False, api.Unknown, api.True
	for _, c := range []struct {
		l       []int
		and, or int
	}{
		{nil, tr, f},
		{[]int{}, tr, f},
		{[]int{f}, f, f},
		{[]int{u}, u, u},
		{[]int{tr}, tr, tr},
		{[]int{tr, u}, u, tr},
		{[]int{u, tr}, u, tr},
		{[]int{f, u}, f, u},
		{[]int{u, f}, f, u},
		{[]int{f, tr}, f, tr},
		{[]int{tr, f}, f, tr},
		{[]int{u, u}, u, u},
		{[]int{u, tr, f}, f, tr},
		{[]int{tr, tr, tr}, tr, tr},
		{[]int{f, f, f}, f, f},
		{[]int{7}, u, u},
		{[]int{-1}, u, u},
		{[]int{tr, 7}, u, tr},
		{[]int{f, 7}, f, u},
		{[]int{3, -1}, u, u},
		{[]int{math.MinInt, f, math.MaxInt}, f, u},
		{[]int{math.MinInt, tr, math.MaxInt}, u, tr},
	} {
		if got := logic.And(c.l...); got != c.and {
			t.Errorf("And(%v) is %d, not %d", c.l, got, c.and)
		}
		if got := logic.Or(c.l...); got != c.or {
			t.Errorf("Or(%v) is %d, not %d", c.l, got, c.or)
		}
	}
}

func TestAndAndOrOfMany(t *testing.T) {
	for _, l := range many() {
		if got, want := logic.And(l...), slowAnd(l); got != want {
			t.Errorf("And(%v) is %d, not %d", l, got, want)
		}
		if got, want := logic.Or(l...), slowOr(l); got != want {
			t.Errorf("Or(%v) is %d, not %d", l, got, want)
		}
	}
}

func TestOf(t *testing.T) {
	if got := logic.Of(true); got != api.True {
		t.Errorf("Of(true) is %d", got)
	}
	if got := logic.Of(false); got != api.False {
		t.Errorf("Of(false) is %d", got)
	}
}

func TestLeavesWhatIsHandedIn(t *testing.T) {
	room := []int{2, 7, 0, 1, -1, 2, 0}
	want := slices.Clone(room)
	logic.And(room[:4]...)
	logic.Or(room[:4]...)
	if !slices.Equal(room, want) {
		t.Errorf("what was handed in is changed to %v", room)
	}
}

// P4.2

func TestNotOfAnd(t *testing.T) {
	for _, l := range many() {
		nots := make([]int, len(l))
		for at, n := range l {
			nots[at] = logic.Not(n)
			if nots[at] != slowNot(n) {
				t.Fatalf("Not(%d) is %d", n, nots[at])
			}
		}
		if got, want := logic.Not(logic.And(l...)), logic.Or(nots...); got != want {
			t.Errorf("Not of And(%v) is %d, Or of each one's Not %d", l, got, want)
		}
		if got, want := logic.Not(logic.Or(l...)), logic.And(nots...); got != want {
			t.Errorf("Not of Or(%v) is %d, And of each one's Not %d", l, got, want)
		}
	}
}

// The chapter's examples.

func TestExamples(t *testing.T) {
	if got := logic.And(api.True, api.Unknown); got != api.Unknown {
		t.Errorf("And(True, Unknown) is %d", got)
	}
	if got := logic.Or(api.True, api.Unknown); got != api.True {
		t.Errorf("Or(True, Unknown) is %d", got)
	}
}
