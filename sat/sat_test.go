package sat_test

import (
	"math"
	"math/big"
	"slices"
	"testing"

	"watersmeet/sat"
)

// edges are the numbers round which what is told turns: those about the powers of 2, and some about the roots of Most.
func edges() []uint64 {
	l := []uint64{0, 3, 5, 10, 6553, 65537 * 3, 6700417, 67280421310721, sat.Most / 3, sat.Most / 5, sat.Most - 2}
	for i := range 64 {
		l = append(l, 1<<i-1, 1<<i, 1<<i+1)
	}
	return append(l, sat.Most-1, sat.Most)
}

// some are the edges, and numbers of all lengths without a pattern.
func some() []uint64 {
	l := edges()
	word := uint64(1)
	for i := range 192 {
		word = word*6364136223846793005 + 1442695040888963407
		l = append(l, word>>(i%64))
	}
	return l
}

func wide(n uint64) *big.Int {
	return new(big.Int).SetUint64(n)
}

// cut tells n, or the greatest number, if n is more.
func cut(n *big.Int) uint64 {
	if n.IsUint64() {
		return n.Uint64()
	}
	return math.MaxUint64
}

func slowAdd(l ...uint64) uint64 {
	s := new(big.Int)
	for _, n := range l {
		s.Add(s, wide(n))
	}
	return cut(s)
}

func slowMul(a, b uint64) uint64 {
	return cut(new(big.Int).Mul(wide(a), wide(b)))
}

func slowShare(a, part uint64) uint64 {
	p := new(big.Int).Mul(wide(a), wide(part))
	return cut(p.Div(p, big.NewInt(65536)))
}

// P2.1

func TestMostAndWhole(t *testing.T) {
	if sat.Most != uint64(math.MaxUint64) {
		t.Error("Most is not the greatest number")
	}
	if sat.Whole != 65536 {
		t.Errorf("Whole is %d", sat.Whole)
	}
}

func TestAdd(t *testing.T) {
	for _, c := range []struct {
		l    []uint64
		want uint64
	}{
		{nil, 0},
		{[]uint64{}, 0},
		{[]uint64{0}, 0},
		{[]uint64{7}, 7},
		{[]uint64{sat.Most}, sat.Most},
		{[]uint64{0, 0, 0}, 0},
		{[]uint64{1, 2, 3, 4}, 10},
		{[]uint64{sat.Most, 1}, sat.Most},
		{[]uint64{1, sat.Most}, sat.Most},
		{[]uint64{sat.Most, 0}, sat.Most},
		{[]uint64{0, sat.Most}, sat.Most},
		{[]uint64{sat.Most, sat.Most}, sat.Most},
		{[]uint64{sat.Most - 1, 1}, sat.Most},
		{[]uint64{sat.Most - 2, 1}, sat.Most - 1},
		{[]uint64{sat.Most - 1, 2}, sat.Most},
		{[]uint64{1 << 63, 1<<63 - 1}, sat.Most},
		{[]uint64{1 << 63, 1 << 63}, sat.Most},
		{[]uint64{1 << 63, 1 << 63, 5}, sat.Most},
		{[]uint64{5, 1 << 63, 1 << 63}, sat.Most},
		{[]uint64{1 << 63, 1 << 63, 1 << 63, 1 << 63}, sat.Most},
		{[]uint64{sat.Most, sat.Most, 2}, sat.Most},
		{[]uint64{sat.Most, 1, sat.Most, 1}, sat.Most},
		{[]uint64{1 << 62, 1 << 62, 1 << 62, 1<<62 - 1}, sat.Most},
		{[]uint64{1 << 62, 1 << 62, 1 << 62, 1<<62 - 2}, sat.Most - 1},
	} {
		if got := sat.Add(c.l...); got != c.want {
			t.Errorf("Add(%v) is %d, not %d", c.l, got, c.want)
		}
	}
	if got := sat.Add(); got != 0 {
		t.Errorf("the sum of none is %d", got)
	}
}

func TestAddByWideNumbers(t *testing.T) {
	l := some()
	for at, a := range l {
		c := l[len(l)-1-at]
		for _, b := range l {
			if got, want := sat.Add(a, b), slowAdd(a, b); got != want {
				t.Fatalf("Add(%d, %d) is %d, not %d", a, b, got, want)
			}
			if got, want := sat.Add(a, b, c), slowAdd(a, b, c); got != want {
				t.Fatalf("Add(%d, %d, %d) is %d, not %d", a, b, c, got, want)
			}
		}
	}
	for most := range len(l) {
		if got, want := sat.Add(l[:most]...), slowAdd(l[:most]...); got != want {
			t.Errorf("Add of the first %d is %d, not %d", most, got, want)
		}
	}
}

func TestAddOfMany(t *testing.T) {
	l := make([]uint64, 1<<16)
	for at := range l {
		l[at] = 1 << 48
	}
	if got := sat.Add(l...); got != sat.Most {
		t.Errorf("2^16 times 2^48 is %d", got)
	}
	l[7]--
	if got := sat.Add(l...); got != sat.Most {
		t.Errorf("2^16 times 2^48, less 1, is %d", got)
	}
	l[9]--
	if got := sat.Add(l...); got != sat.Most-1 {
		t.Errorf("2^16 times 2^48, less 2, is %d", got)
	}
}

func TestAddLeavesWhatIsHandedIn(t *testing.T) {
	room := []uint64{9, sat.Most, 1, 4, 5}
	sat.Add(room[:3]...)
	if !slices.Equal(room, []uint64{9, sat.Most, 1, 4, 5}) {
		t.Errorf("Add changed what it was handed to %v", room)
	}
}

func TestMul(t *testing.T) {
	for _, c := range []struct{ a, b, want uint64 }{
		{0, 0, 0},
		{0, 1, 0},
		{1, 1, 1},
		{3, 5, 15},
		{0, sat.Most, 0},
		{1, sat.Most, sat.Most},
		{2, sat.Most, sat.Most},
		{sat.Most, sat.Most, sat.Most},
		{2, 1<<63 - 1, sat.Most - 1},
		{2, 1 << 63, sat.Most},
		{1 << 32, 1 << 32, sat.Most},
		{1 << 32, 1<<32 - 1, 1<<64 - 1<<32},
		{1<<32 - 1, 1<<32 - 1, 1<<64 - 1<<33 + 1},
		{1<<32 - 1, 1<<32 + 1, sat.Most},
		{1<<32 + 1, 1<<32 + 1, sat.Most},
		{1 << 40, 1 << 40, sat.Most},
		{1 << 31, 1 << 33, sat.Most},
		{1 << 31, 1<<33 - 1, 1<<64 - 1<<31},
		{3, sat.Most / 3, sat.Most},
		{3, sat.Most/3 + 1, sat.Most},
		{5, sat.Most/5 - 1, sat.Most - 5},
		{67280421310721, 274177, sat.Most},
		{6700417, 641, 1<<32 + 1},
		{1<<32 - 5, 1<<32 - 17, 1<<64 - 22<<32 + 85},
	} {
		if got := sat.Mul(c.a, c.b); got != c.want {
			t.Errorf("Mul(%d, %d) is %d, not %d", c.a, c.b, got, c.want)
		}
		if got := sat.Mul(c.b, c.a); got != c.want {
			t.Errorf("Mul(%d, %d) is %d, not %d", c.b, c.a, got, c.want)
		}
	}
}

func TestMulByWideNumbers(t *testing.T) {
	l := some()
	for _, a := range l {
		for _, b := range l {
			if got, want := sat.Mul(a, b), slowMul(a, b); got != want {
				t.Fatalf("Mul(%d, %d) is %d, not %d", a, b, got, want)
			}
		}
	}
}

// The greatest b with which a is no more than Most, and the one behind it, stand on both sides of the edge.
func TestMulAtTheEdge(t *testing.T) {
	for _, a := range some() {
		if a < 2 {
			continue
		}
		b := sat.Most / a
		if got := sat.Mul(a, b); got != a*b {
			t.Errorf("Mul(%d, %d) is %d, not %d", a, b, got, a*b)
		}
		if got := sat.Mul(a, b+1); got != sat.Most {
			t.Errorf("Mul(%d, %d) is %d, not Most", a, b+1, got)
		}
	}
}

// P2.2

func TestShare(t *testing.T) {
	for _, c := range []struct{ a, part, want uint64 }{
		{10, 32768, 5},
		{0, 0, 0},
		{0, sat.Most, 0},
		{sat.Most, 0, 0},
		{100, sat.Whole, 100},
		{100, 2 * sat.Whole, 200},
		{100, 6553, 9},
		{100, 6554, 10},
		{1, 65535, 0},
		{1, 65537, 1},
		{2, 32768, 1},
		{3, 32768, 1},
		{65535, 1, 0},
		{65536, 1, 1},
		{1 << 32, 1 << 32, 1 << 48},
		{1<<32 - 1, 1<<32 + 1, 1<<48 - 1},
		{1 << 40, 1 << 39, 1 << 63},
		{1 << 40, 1 << 40, sat.Most},
		{sat.Most, 1, 1<<48 - 1},
		{sat.Most, 65535, 1<<64 - 1<<48 - 1},
		{sat.Most, sat.Whole, sat.Most},
		{sat.Most, 65537, sat.Most},
		{sat.Most, sat.Most, sat.Most},
		{sat.Most - 1, sat.Whole, sat.Most - 1},
		{sat.Most - 1, 65537, sat.Most},
		{1 << 63, 2*sat.Whole - 1, 1<<64 - 1<<47},
		{1 << 63, 2 * sat.Whole, sat.Most},
	} {
		if got := sat.Share(c.a, c.part); got != c.want {
			t.Errorf("Share(%d, %d) is %d, not %d", c.a, c.part, got, c.want)
		}
	}
}

func TestShareByWideNumbers(t *testing.T) {
	l := some()
	for _, a := range l {
		for _, part := range l {
			if got, want := sat.Share(a, part), slowShare(a, part); got != want {
				t.Fatalf("Share(%d, %d) is %d, not %d", a, part, got, want)
			}
		}
	}
}

func TestShareOfAWhole(t *testing.T) {
	for _, a := range some() {
		if got := sat.Share(a, sat.Whole); got != a {
			t.Errorf("the whole of %d is %d", a, got)
		}
		if got := sat.Share(sat.Whole, a); got != a {
			t.Errorf("%d parts of as many as a whole has are %d", a, got)
		}
	}
}

// For each a, the last part of which the share is less than Most, and those behind it.
func TestShareAtTheEdge(t *testing.T) {
	whole := big.NewInt(sat.Whole)
	for _, a := range some() {
		if a < 1<<32 {
			continue
		}
		first := new(big.Int).Mul(wide(sat.Most), whole)
		part := first.Div(first, wide(a)).Uint64()
		for _, p := range []uint64{part - 1, part, part + 1, part + 2} {
			if got, want := sat.Share(a, p), slowShare(a, p); got != want {
				t.Errorf("Share(%d, %d) is %d, not %d", a, p, got, want)
			}
		}
	}
}

// P2.3

func TestMonotone(t *testing.T) {
	l := some()
	slices.Sort(l)
	for _, c := range []struct {
		name string
		do   func(a, b uint64) uint64
	}{
		{"Add", func(a, b uint64) uint64 { return sat.Add(a, b) }},
		{"Add of three", func(a, b uint64) uint64 { return sat.Add(a, 1<<62, b) }},
		{"Mul", sat.Mul},
		{"Share", sat.Share},
	} {
		for _, b := range l {
			left, right := uint64(0), uint64(0)
			for _, a := range l {
				x, y := c.do(a, b), c.do(b, a)
				if x < left || y < right {
					t.Fatalf("%s of %d, %d falls from %d to %d, or from %d to %d", c.name, a, b, left, x, right, y)
				}
				left, right = x, y
			}
		}
	}
}

func TestAddGrowsWithEachMore(t *testing.T) {
	l := some()
	before := uint64(0)
	for most := range len(l) + 1 {
		got := sat.Add(l[:most]...)
		if got < before {
			t.Fatalf("Add of the first %d falls to %d", most, got)
		}
		before = got
	}
	if before != sat.Most {
		t.Errorf("Add of all is %d", before)
	}
}
