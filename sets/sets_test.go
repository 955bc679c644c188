package sets_test

import (
	"iter"
	"math"
	"slices"
	"testing"

	"watersmeet/sets"
)

const (
	full = uint64(math.MaxUint64)
	top  = uint64(1) << 63
)

// outside are numbers that no set has; some of them would be members if they were cut to fewer digits.
var outside = []int{-1, -63, -64, math.MinInt, 64, 65, 127, 128, 1 << 32, math.MaxInt - 63, math.MaxInt}

// some are sets of all sorts: the edges, each single member, each run from 0 on, and sets without a pattern.
func some() []uint64 {
	l := []uint64{0, 5, 9, top | 1, top | 6, full, full &^ 1, full >> 1}
	for i := range 64 {
		l = append(l, 1<<i, 1<<i-1, full&^(1<<i))
	}
	word := uint64(1)
	for range 200 {
		word = word*6364136223846793005 + 1442695040888963407
		l = append(l, word, word>>32)
	}
	return l
}

// members tells the members of s as its words say: the digits that are 1.
func members(s uint64) []int {
	var l []int
	for i := 0; s > 0; i++ {
		if s%2 == 1 {
			l = append(l, i)
		}
		s /= 2
	}
	return l
}

// parts gathers a tour, but no more than most sets.
func parts(tour iter.Seq[uint64], most int) []uint64 {
	var l []uint64
	for p := range tour {
		l = append(l, p)
		if len(l) == most {
			break
		}
	}
	return l
}

// slowParts tells all sets in s but the empty one by trying all numbers up to s.
func slowParts(s uint64) []uint64 {
	var l []uint64
	for p := uint64(1); p <= s; p++ {
		if p|s == s {
			l = append(l, p)
		}
	}
	return l
}

// P1.1

func TestOf(t *testing.T) {
	for _, c := range []struct {
		l    []int
		want uint64
	}{
		{nil, 0},
		{[]int{}, 0},
		{[]int{0, 3}, 9},
		{[]int{3, 0}, 9},
		{[]int{0}, 1},
		{[]int{63}, top},
		{[]int{63, 0}, top | 1},
		{[]int{5, 5}, 32},
		{[]int{5, 0, 5, 0, 5}, 33},
		{[]int{-1, 2, 64}, 4},
		{[]int{64, -1}, 0},
	} {
		if got := sets.Of(c.l...); got != c.want {
			t.Errorf("Of(%v) is %d, not %d", c.l, got, c.want)
		}
	}
}

func TestOfSingle(t *testing.T) {
	word := uint64(1)
	for i := range 64 {
		if got := sets.Of(i); got != word {
			t.Errorf("Of(%d) is %d, not %d", i, got, word)
		}
		word *= 2
	}
}

func TestOfPassesOver(t *testing.T) {
	for _, i := range outside {
		if got := sets.Of(i); got != 0 {
			t.Errorf("Of(%d) is %d", i, got)
		}
		if got := sets.Of(7, i, 9); got != 1<<7|1<<9 {
			t.Errorf("Of(7, %d, 9) is %d", i, got)
		}
	}
	if got := sets.Of(outside...); got != 0 {
		t.Errorf("Of what no set has is %d", got)
	}
}

func TestOfLeavesWhatIsHandedIn(t *testing.T) {
	room := []int{9, 64, 9, 1, -7, -7}
	sets.Of(room[:4]...)
	if !slices.Equal(room, []int{9, 64, 9, 1, -7, -7}) {
		t.Errorf("Of changed what it was handed to %v", room)
	}
}

func TestList(t *testing.T) {
	for _, c := range []struct {
		s    uint64
		want []int
	}{
		{0, nil},
		{9, []int{0, 3}},
		{1, []int{0}},
		{top, []int{63}},
		{top | 5, []int{0, 2, 63}},
	} {
		if got := sets.List(c.s); !slices.Equal(got, c.want) {
			t.Errorf("List(%d) is %v, not %v", c.s, got, c.want)
		}
	}
	l := sets.List(full)
	if len(l) != 64 {
		t.Fatalf("the full set has %d members", len(l))
	}
	for at, i := range l {
		if at != i {
			t.Errorf("place %d of the full set is %d", at, i)
		}
	}
}

func TestListAndOf(t *testing.T) {
	for _, s := range some() {
		l := sets.List(s)
		if !slices.Equal(l, members(s)) {
			t.Errorf("List(%d) is %v", s, l)
		}
		if got := sets.Of(l...); got != s {
			t.Errorf("Of(List(%d)) is %d", s, got)
		}
		slices.Reverse(l)
		if got := sets.Of(append(l, l...)...); got != s {
			t.Errorf("Of the members of %d, falling and twice, is %d", s, got)
		}
	}
}

func TestListIsNew(t *testing.T) {
	a, b := sets.List(7), sets.List(7)
	a[0] = 99
	a = append(a[:1], 99)
	if !slices.Equal(b, []int{0, 1, 2}) || !slices.Equal(sets.List(7), b) {
		t.Errorf("lists share memory: %v, %v", a, b)
	}
}

func TestHas(t *testing.T) {
	for _, s := range some() {
		l := members(s)
		for i := range 64 {
			if got := sets.Has(s, i); got != slices.Contains(l, i) {
				t.Errorf("Has(%d, %d) is %v", s, i, got)
			}
		}
		for _, i := range outside {
			if sets.Has(s, i) {
				t.Errorf("%d has %d", s, i)
			}
		}
	}
}

// P1.2

func TestIn(t *testing.T) {
	for _, c := range []struct {
		a, b uint64
		want bool
	}{
		{0, 0, true},
		{0, 1, true},
		{1, 0, false},
		{1, 3, true},
		{3, 1, false},
		{1, 2, false},
		{2, 1, false},
		{5, 6, false},
		{9, 9, true},
		{0, full, true},
		{full, 0, false},
		{full, full, true},
		{top, full, true},
		{full, top, false},
		{top, top - 1, false},
		{full >> 1, full, true},
		{full, full >> 1, false},
	} {
		if got := sets.In(c.a, c.b); got != c.want {
			t.Errorf("In(%d, %d) is %v", c.a, c.b, got)
		}
	}
}

func TestInByMembers(t *testing.T) {
	l := some()
	for at, a := range l {
		b := l[len(l)-1-at]
		for _, c := range [][2]uint64{{a, b}, {a & b, b}, {a, a | b}, {a | b, b}} {
			want := true
			for _, i := range members(c[0]) {
				want = want && slices.Contains(members(c[1]), i)
			}
			if got := sets.In(c[0], c[1]); got != want {
				t.Errorf("In(%d, %d) is %v", c[0], c[1], got)
			}
		}
	}
}

func TestCountAndMin(t *testing.T) {
	for _, c := range []struct {
		s          uint64
		count, min int
	}{
		{0, 0, -1},
		{1, 1, 0},
		{9, 2, 0},
		{6, 2, 1},
		{top, 1, 63},
		{top | 1<<62, 2, 62},
		{full, 64, 0},
	} {
		if got := sets.Count(c.s); got != c.count {
			t.Errorf("Count(%d) is %d", c.s, got)
		}
		if got := sets.Min(c.s); got != c.min {
			t.Errorf("Min(%d) is %d", c.s, got)
		}
	}
	for _, s := range some() {
		l := members(s)
		if got := sets.Count(s); got != len(l) {
			t.Errorf("Count(%d) is %d", s, got)
		}
		if s != 0 && sets.Min(s) != l[0] {
			t.Errorf("Min(%d) is %d", s, sets.Min(s))
		}
	}
}

func TestBelow(t *testing.T) {
	if got := sets.Below(2); got != 7 {
		t.Errorf("Below(2) is %d", got)
	}
	want := uint64(0)
	for i := range 64 {
		want = want*2 + 1
		if got := sets.Below(i); got != want {
			t.Errorf("Below(%d) is %d, not %d", i, got, want)
		}
	}
	for _, i := range outside {
		want := uint64(0)
		if i > 0 {
			want = full
		}
		if got := sets.Below(i); got != want {
			t.Errorf("Below(%d) is %d, not %d", i, got, want)
		}
	}
}

// P1.3

func TestParts(t *testing.T) {
	for _, c := range []struct {
		s    uint64
		want []uint64
	}{
		{0, nil},
		{1, []uint64{1}},
		{9, []uint64{1, 8, 9}},
		{6, []uint64{2, 4, 6}},
		{7, []uint64{1, 2, 3, 4, 5, 6, 7}},
		{top, []uint64{top}},
		{top | 1, []uint64{1, top, top | 1}},
		{top | 6, []uint64{2, 4, 6, top, top | 2, top | 4, top | 6}},
	} {
		if got := parts(sets.Parts(c.s), 99); !slices.Equal(got, c.want) {
			t.Errorf("Parts of %d: %v, not %v", c.s, got, c.want)
		}
	}
}

func TestPartsByTrying(t *testing.T) {
	for s := range uint64(1 << 9) {
		want := slowParts(s)
		if got := parts(sets.Parts(s), 1<<10); !slices.Equal(got, want) {
			t.Errorf("Parts of %d: %v, not %v", s, got, want)
		}
		high := parts(sets.Parts(s<<55), 1<<10)
		for at := range want {
			want[at] <<= 55
		}
		if !slices.Equal(high, want) {
			t.Errorf("Parts of %d: %v, not %v", s<<55, high, want)
		}
	}
}

func TestPartsLeft(t *testing.T) {
	for _, s := range some() {
		if s == 0 {
			continue
		}
		if got := parts(sets.Parts(s), 1); !slices.Equal(got, []uint64{s & -s}) {
			t.Errorf("the first part of %d: %v", s, got)
		}
	}
	if got := parts(sets.Parts(full), 5); !slices.Equal(got, []uint64{1, 2, 3, 4, 5}) {
		t.Errorf("the first parts of the full set: %v", got)
	}
	if got := parts(sets.Parts(full&^2), 4); !slices.Equal(got, []uint64{1, 4, 5, 8}) {
		t.Errorf("the first parts of all but 1: %v", got)
	}
}

// A tour that is left must not tell anything more, whichever part it is left at.
func TestPartsSilentOnceLeft(t *testing.T) {
	for most := 1; most <= 7; most++ {
		told := 0
		sets.Parts(top | 6)(func(uint64) bool {
			told++
			return told < most
		})
		if told != most {
			t.Errorf("left at %d, told %d", most, told)
		}
	}
}

// Each range over a tour begins anew, and tours within one another do not meet.
func TestPartsAgain(t *testing.T) {
	tour := sets.Parts(11)
	want := []uint64{1, 2, 3, 8, 9, 10, 11}
	if got := parts(tour, 3); !slices.Equal(got, want[:3]) {
		t.Errorf("a tour that is left: %v", got)
	}
	var outer []uint64
	for p := range tour {
		outer = append(outer, p)
		if got := parts(tour, 99); !slices.Equal(got, want) {
			t.Errorf("within another one: %v", got)
		}
	}
	if !slices.Equal(outer, want) {
		t.Errorf("around others: %v", outer)
	}
}

func TestPartsOfManyMembers(t *testing.T) {
	s := uint64(0)
	for i := range 16 {
		s |= 1 << (4*i + 3)
	}
	count, before := 0, uint64(0)
	for p := range sets.Parts(s) {
		if p <= before || p|s != s {
			t.Fatalf("%d comes behind %d", p, before)
		}
		count, before = count+1, p
	}
	if count != 1<<16-1 || before != s {
		t.Errorf("%d parts, the last one %d", count, before)
	}
}

// P1.4

func TestInIsLess(t *testing.T) {
	for _, s := range []uint64{0x1ff, top | 0xff, 0xff << 56, 0x8040201008040201} {
		told := parts(sets.Parts(s), 1<<10)
		for _, a := range append(told, 0) {
			if !sets.In(a, s) {
				t.Errorf("%d is not in %d", a, s)
			}
			if a != s && a >= s {
				t.Errorf("%d is in %d, and not less", a, s)
			}
		}
	}
	l := some()
	for _, a := range l {
		for _, b := range l {
			if sets.In(a, b) && a != b && a >= b {
				t.Errorf("%d is in %d, and not less", a, b)
			}
		}
	}
}
