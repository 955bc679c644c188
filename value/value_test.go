package value_test

import (
	"math"
	"math/big"
	"slices"
	"strings"
	"testing"

	"watersmeet/api"
	"watersmeet/value"
)

var (
	null = api.Value{Null: true}
	// These may not be, but count as null.
	wrong = []api.Value{{Null: true, N: 1}, {Null: true, N: -1}, {Null: true, N: math.MaxInt64}, {Null: true, N: math.MinInt64}}
)

func num(n int64) api.Value {
	return api.Value{N: n}
}

// numbers are those at which what is told turns, from the least one on.
func numbers() []int64 {
	l := []int64{math.MinInt64, math.MinInt64 + 1, -1000, -999, -100, -11, -10, -9, -2, -1, 0, 1, 2, 7, 9, 10, 11, 99, 100, 101, 1000, math.MaxInt64 - 1, math.MaxInt64}
	for i := range 62 {
		l = append(l, 1<<i, -1<<i, 1<<i-1, 1-1<<i)
	}
	slices.Sort(l)
	return slices.Compact(l)
}

// values are null, the numbers, and the nulls that may not be.
func values() []api.Value {
	l := []api.Value{null}
	for _, n := range numbers() {
		l = append(l, num(n))
	}
	return append(l, wrong...)
}

// P3.1

func TestRight(t *testing.T) {
	if !value.Right(null) || !value.Right(api.Value{}) {
		t.Error("null and 0 may be")
	}
	for _, n := range numbers() {
		if !value.Right(num(n)) {
			t.Errorf("%d may be", n)
		}
	}
	for _, v := range wrong {
		if value.Right(v) {
			t.Errorf("null with %d may not be", v.N)
		}
	}
}

func TestSame(t *testing.T) {
	for _, a := range values() {
		for _, b := range values() {
			want := a.Null && b.Null || !a.Null && !b.Null && a.N == b.N
			if value.Same(a, b) != want {
				t.Errorf("Same(%v, %v) is %t", a, b, !want)
			}
		}
	}
}

func TestSameOfNullAndNought(t *testing.T) {
	if value.Same(null, num(0)) || value.Same(num(0), null) {
		t.Error("null is not 0")
	}
	// A null with a number is not that number.
	if value.Same(wrong[0], num(1)) || value.Same(num(1), wrong[0]) {
		t.Error("a null with 1 is not 1")
	}
	if !value.Same(wrong[0], null) || !value.Same(null, wrong[0]) || !value.Same(wrong[0], wrong[3]) {
		t.Error("all nulls are the same")
	}
}

func TestLess(t *testing.T) {
	for _, a := range values() {
		for _, b := range values() {
			want := a.Null && !b.Null || !a.Null && !b.Null && big.NewInt(a.N).Cmp(big.NewInt(b.N)) < 0
			if value.Less(a, b) != want {
				t.Errorf("Less(%v, %v) is %t", a, b, !want)
			}
		}
	}
}

func TestLessOfNull(t *testing.T) {
	if !value.Less(null, num(math.MinInt64)) || value.Less(num(math.MinInt64), null) {
		t.Error("null is not ahead of the least number")
	}
	if !value.Less(wrong[2], num(math.MinInt64)) || value.Less(num(math.MinInt64), wrong[3]) {
		t.Error("a null that may not be is not ahead of the least number")
	}
	if value.Less(null, null) || value.Less(wrong[3], null) || value.Less(null, wrong[2]) {
		t.Error("no null is ahead of a null")
	}
}

// so tells whether a number that stands so to another one (below 0: ahead of it) is as op wants it.
func so(op, place int) bool {
	switch op {
	case api.Eq:
		return place == 0
	case api.Ne:
		return place != 0
	case api.Lt:
		return place < 0
	case api.Le:
		return place <= 0
	case api.Gt:
		return place > 0
	}
	return place >= 0
}

func TestCompareNumbers(t *testing.T) {
	for op := api.Eq; op <= api.Ge; op++ {
		for _, a := range numbers() {
			for _, b := range numbers() {
				want := api.False
				if so(op, big.NewInt(a).Cmp(big.NewInt(b))) {
					want = api.True
				}
				if got := value.Compare(op, num(a), num(b)); got != want {
					t.Errorf("Compare(%d, %d, %d) is %d, not %d", op, a, b, got, want)
				}
			}
		}
	}
}

func TestCompareWithNull(t *testing.T) {
	for op := api.Eq; op <= api.Ge; op++ {
		for _, a := range append(wrong, null) {
			for _, b := range values() {
				if got := value.Compare(op, a, b); got != api.Unknown {
					t.Errorf("Compare(%d, %v, %v) is %d", op, a, b, got)
				}
				if got := value.Compare(op, b, a); got != api.Unknown {
					t.Errorf("Compare(%d, %v, %v) is %d", op, b, a, got)
				}
			}
		}
	}
}

func TestCompareByNoOp(t *testing.T) {
	for _, op := range []int{math.MinInt, -7, -6, -1, 0, 7, 8, 9, 256 + 1, 1<<32 + 1, math.MaxInt} {
		for _, a := range []api.Value{num(0), num(1), num(-1), null, wrong[0]} {
			for _, b := range []api.Value{num(0), num(1), num(-1), null, wrong[0]} {
				if got := value.Compare(op, a, b); got != api.Unknown {
					t.Errorf("Compare(%d, %v, %v) is %d", op, a, b, got)
				}
			}
		}
	}
}

func TestExampleOfNulls(t *testing.T) {
	if got := value.Compare(api.Eq, null, null); got != api.Unknown {
		t.Errorf("Compare(Eq, null, null) is %d", got)
	}
}

// P3.2

func TestPrint(t *testing.T) {
	for _, c := range []struct {
		v    api.Value
		want string
	}{
		{null, "\u2205"},
		{null, "\xe2\x88\x85"},
		{wrong[0], "\u2205"},
		{wrong[3], "\u2205"},
		{num(0), "0"},
		{num(7), "7"},
		{num(-7), "-7"},
		{num(10), "10"},
		{num(-1000), "-1000"},
		{num(math.MaxInt64), "9223372036854775807"},
		{num(math.MinInt64), "-9223372036854775808"},
	} {
		if got := value.Print(c.v); got != c.want {
			t.Errorf("Print(%v) is %q, not %q", c.v, got, c.want)
		}
	}
	for _, n := range numbers() {
		if got, want := value.Print(num(n)), big.NewInt(n).String(); got != want {
			t.Errorf("Print(%d) is %q", n, got)
		}
	}
}

func TestParse(t *testing.T) {
	for s, want := range map[string]api.Value{
		"∅":                    null,
		"0":                    num(0),
		"1":                    num(1),
		"9":                    num(9),
		"-1":                   num(-1),
		"-9":                   num(-9),
		"10":                   num(10),
		"-10":                  num(-10),
		"100200300":            num(100200300),
		"9223372036854775806":  num(math.MaxInt64 - 1),
		"9223372036854775807":  num(math.MaxInt64),
		"-9223372036854775807": num(math.MinInt64 + 1),
		"-9223372036854775808": num(math.MinInt64),
	} {
		if got, e := value.Parse(s); got != want || e != api.OK {
			t.Errorf("Parse(%q) is %v, %v", s, got, e)
		}
	}
}

func TestParseOfWrongForms(t *testing.T) {
	for _, s := range []string{
		"", "-", "--", "--1", "-0", "-00", "-07", "-01", "00", "01", "0 ", "000", "+1", "+", "1+", "1-", "1-1", "-1-", "0-",
		" ", " 1", "1 ", "1\n", "\n", "1\x00", "\x00", "a", "1a", "-a", "0x1", "1_0", "1.0", "1e3", ".", "/", ":", "1/", "1:",
		"∅∅", "∅ ", "∅1", "∅-1", "1∅", "-∅", " ∅", "\xe2", "\xe2\x88", "\xe2\x88\x85\x85", "\xe2\x88\x86", "\xff", "1\xff", "\ufffd",
		"é", "١", "１", "1١", "−1", "²", "null", "NULL",
		"09223372036854775808", "-09223372036854775809", "9223372036854775808a", "99999999999999999999-", strings.Repeat("9", 1000) + " ",
	} {
		if got, e := value.Parse(s); got != (api.Value{}) || e != api.ErrForm {
			t.Errorf("Parse(%q) is %v, %v", s, got, e)
		}
	}
}

func TestParseOfTooGreatNumbers(t *testing.T) {
	for _, s := range []string{
		"9223372036854775808", "-9223372036854775809", "9223372036854775810", "-9223372036854775810", "10000000000000000000", "-10000000000000000000",
		"18446744073709551615", "18446744073709551616", "18446744073709551617", "-18446744073709551615", "-18446744073709551617",
		"36893488147419103233", "340282366920938463463374607431768211457", strings.Repeat("9", 1000), "-1" + strings.Repeat("0", 1000),
	} {
		if got, e := value.Parse(s); got != (api.Value{}) || e != api.ErrRange {
			t.Errorf("Parse(%q) is %v, %v", s, got, e)
		}
	}
}

func TestExampleOfANought(t *testing.T) {
	if got, e := value.Parse("-07"); got != (api.Value{}) || e != api.ErrForm {
		t.Errorf("Parse(-07) is %v, %v", got, e)
	}
}

// slowParse tells what Parse does: s is a text, if what it says is printed as s.
func slowParse(s string) (api.Value, api.Errno) {
	if s == "\u2205" {
		return null, api.OK
	}
	n, ok := new(big.Int).SetString(s, 10)
	if !ok || n.String() != s {
		return api.Value{}, api.ErrForm
	}
	if !n.IsInt64() {
		return api.Value{}, api.ErrRange
	}
	return num(n.Int64()), api.OK
}

// texts tells all texts of up to so many of the parts.
func texts(parts []string, most int) []string {
	all, last := []string{""}, []string{""}
	for range most {
		var next []string
		for _, s := range last {
			for _, p := range parts {
				next = append(next, s+p)
			}
		}
		all, last = append(all, next...), next
	}
	return all
}

func TestParseOfAllShortTexts(t *testing.T) {
	l := texts([]string{"0", "1", "9", "-", "+", "∅", "_", " ", "\xe2", "\x85", "٣"}, 4)
	// These are about as long as the greatest numbers.
	for _, s := range texts([]string{"0", "8", "7", "9", "-", "922337203685477580"}, 4) {
		l = append(l, s, "922337203685477580"+s, "-922337203685477580"+s)
	}
	for _, s := range l {
		want, wantErr := slowParse(s)
		if got, e := value.Parse(s); got != want || e != wantErr {
			t.Errorf("Parse(%q) is %v, %v, not %v, %v", s, got, e, want, wantErr)
		}
	}
}

// P3.3

func TestOneOrder(t *testing.T) {
	for i, a := range values() {
		for j, b := range values() {
			n := 0
			for _, is := range []bool{value.Less(a, b), value.Same(a, b), value.Less(b, a)} {
				if is {
					n++
				}
			}
			if n != 1 {
				t.Errorf("%d of ahead, the same and behind hold of %v (%d) and %v (%d)", n, a, i, b, j)
			}
		}
	}
}

func TestOrderGoesOn(t *testing.T) {
	l := values()
	for _, a := range l {
		for _, b := range l {
			if !value.Less(a, b) {
				continue
			}
			for _, c := range l {
				if value.Less(b, c) && !value.Less(a, c) {
					t.Fatalf("%v is ahead of %v, that is ahead of %v", a, b, c)
				}
			}
		}
	}
}

func TestOrderAndCompareAgree(t *testing.T) {
	truth := map[bool]int{false: api.False, true: api.True}
	for _, n := range numbers() {
		for _, m := range numbers() {
			a, b := num(n), num(m)
			if value.Compare(api.Eq, a, b) != truth[value.Same(a, b)] || value.Compare(api.Lt, a, b) != truth[value.Less(a, b)] || value.Compare(api.Ge, a, b) != truth[!value.Less(a, b)] {
				t.Errorf("the order of %d and %d is not what comparing them is", n, m)
			}
		}
	}
}

func TestParseOfPrint(t *testing.T) {
	for _, v := range values() {
		got, e := value.Parse(value.Print(v))
		if !value.Same(got, v) || e != api.OK {
			t.Errorf("Parse of Print of %v is %v, %v", v, got, e)
		}
		if value.Right(v) && got != v || !value.Right(got) {
			t.Errorf("Parse of Print of %v is %v", v, got)
		}
	}
}
