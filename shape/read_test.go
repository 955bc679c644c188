package shape_test

import (
	"fmt"
	"math/big"
	"reflect"
	"strings"
	"testing"
	"unicode/utf8"

	"watersmeet/api"
	"watersmeet/sample"
	"watersmeet/shape"
	"watersmeet/text"
	"watersmeet/tree"
)

// slowLeaf tells the place behind the number at a place, of the leaf of this number, or where and how it is wrong.
func slowLeaf(l []rune, at, leaf int) (int, api.Errno) {
	end := at
	for end < len(l) && strings.ContainsRune("0123456789", l[end]) {
		end++
	}
	n, _ := new(big.Int).SetString("0"+string(l[at:end]), 10)
	switch {
	case end == at:
		return at, api.ErrForm
	case leaf > 64:
		return at, api.ErrLong
	case end > at+1 && l[at] == '0':
		return at + 1, api.ErrForm
	case n.Cmp(big.NewInt(63)) > 0:
		return at, api.ErrRange
	}
	return end, api.OK
}

// slowParse tells the place and the error that Parse tells, by a list of what has yet to come, what comes first at its end:
// a tree (t), an operator's sign (o), a # or none (h), a conjunct (c), more of a list (m), or the rune itself.
func slowParse(s string) (int, api.Errno) {
	var l []rune
	for _, c := range s {
		l = append(l, c)
	}
	at, leaves, conj := 0, 0, 0
	todo := []rune{'t'}
	for len(todo) > 0 {
		goal, c, errno := todo[len(todo)-1], rune(-1), api.OK
		todo = todo[:len(todo)-1]
		if at < len(l) {
			c = l[at]
		}
		switch {
		case goal == 't' && c == '(':
			todo = append(todo, ')', 't', ']', 'm', 'c', '[', 'h', 'o', 't')
			conj = 0
			at++
		case goal == 't':
			leaves++
			at, errno = slowLeaf(l, at, leaves)
		case goal == 'o' && strings.ContainsRune("\u22c8\u27d5\u22c9\u25b7", c):
			at++
		case goal == 'h':
			if c == '#' {
				at++
			}
		case goal == 'c' && conj == 64:
			errno = api.ErrLong
		case goal == 'c':
			conj++
			_, at, errno = text.Take(l, at)
		case goal == 'm':
			if c == ';' {
				todo = append(todo, 'm', 'c')
				at++
			} else {
				conj = 0
			}
		case goal == c:
			at++
		default:
			errno = api.ErrForm
		}
		if errno != api.OK {
			return at, errno
		}
	}
	if at < len(l) {
		return at, api.ErrForm
	}
	return at, api.OK
}

// holdParse holds what Parse tells of s against the slow way; what is read must be a tree whose text is s.
func holdParse(t *testing.T, s string) api.Errno {
	t.Helper()
	wantAt, want := slowParse(s)
	holdAt(t, s, wantAt, want)
	return want
}

// holdAt holds the place and the error that Parse tells of s, and that there is a tree just if there is none.
func holdAt(t *testing.T, s string, wantAt int, want api.Errno) {
	t.Helper()
	x, at, e := shape.Parse(s)
	if at != wantAt || e != want {
		t.Errorf("Parse(%.200q) tells %d, %v, not %d, %v", s, at, e, wantAt, want)
	}
	if e != api.OK && !reflect.DeepEqual(x, api.Tree{}) {
		t.Errorf("Parse(%.200q) tells a tree beside %v", s, e)
	}
	if ok, n := slowRight(x); e == api.OK && (!ok || n > 64 || slowPrint(x) != s || at != utf8.RuneCountInString(s)) {
		t.Errorf("Parse(%.200q) tells %v, %d", s, x, at)
	}
}

// P12.2: right texts

func TestParse(t *testing.T) {
	for _, c := range written {
		x, at, e := shape.Parse(c.want)
		if !tree.Same(x, c.t) || at != utf8.RuneCountInString(c.want) || e != api.OK {
			t.Errorf("Parse(%q) is %v, %d, %v, not %v", c.want, x, at, e, c.t)
		}
	}
	for n := range 64 {
		s := fmt.Sprint(n)
		if x, at, e := shape.Parse(s); !tree.Same(x, leaf(n)) || at != len(s) || e != api.OK {
			t.Errorf("Parse(%q) is %v, %d, %v", s, x, at, e)
		}
	}
}

// P12.2: wrong texts

// wrongs are texts, where they are wrong, and how.
var wrongs = []struct {
	s  string
	at int
	e  api.Errno
}{
	// How a tree begins.
	{"", 0, api.ErrForm}, {" ", 0, api.ErrForm}, {" 0", 0, api.ErrForm}, {"x", 0, api.ErrForm}, {")", 0, api.ErrForm}, {"[", 0, api.ErrForm}, {"#", 0, api.ErrForm}, {"⋈", 0, api.ErrForm}, {"⊤", 0, api.ErrForm}, {";", 0, api.ErrForm},
	{"-1", 0, api.ErrForm}, {"+1", 0, api.ErrForm}, {".", 0, api.ErrForm}, {"\x00", 0, api.ErrForm}, {"/", 0, api.ErrForm}, {":", 0, api.ErrForm}, {"٣", 0, api.ErrForm}, {"１", 0, api.ErrForm}, {"∅", 0, api.ErrForm}, {"'1", 0, api.ErrForm},
	{"(", 1, api.ErrForm}, {"((", 2, api.ErrForm}, {"()", 1, api.ErrForm}, {"(x", 1, api.ErrForm}, {"(⋈[⊤]1)", 1, api.ErrForm}, {"( 0⋈[⊤]1)", 1, api.ErrForm}, {"([⊤]1)", 1, api.ErrForm}, {"(#[⊤]1)", 1, api.ErrForm},
	// Numbers.
	{"64", 0, api.ErrRange}, {"65", 0, api.ErrRange}, {"70", 0, api.ErrRange}, {"100", 0, api.ErrRange}, {"128", 0, api.ErrRange}, {"256", 0, api.ErrRange}, {"630", 0, api.ErrRange}, {"64x", 0, api.ErrRange}, {"64)", 0, api.ErrRange}, {"640", 0, api.ErrRange},
	{"4294967296", 0, api.ErrRange}, {"4294967299", 0, api.ErrRange}, {"9223372036854775807", 0, api.ErrRange}, {"9223372036854775808", 0, api.ErrRange}, {"18446744073709551616", 0, api.ErrRange}, {"18446744073709551617", 0, api.ErrRange}, {"36893488147419103233", 0, api.ErrRange},
	{"00", 1, api.ErrForm}, {"000", 1, api.ErrForm}, {"01", 1, api.ErrForm}, {"063", 1, api.ErrForm}, {"064", 1, api.ErrForm}, {"0100", 1, api.ErrForm}, {"018446744073709551617", 1, api.ErrForm}, {"00x", 1, api.ErrForm}, {"0x", 1, api.ErrForm},
	{"0 ", 1, api.ErrForm}, {"1 ", 1, api.ErrForm}, {"63x", 2, api.ErrForm}, {"1٣", 1, api.ErrForm}, {"1.0", 1, api.ErrForm}, {"0-", 1, api.ErrForm}, {"6\x003", 1, api.ErrForm},
	{"(64", 1, api.ErrRange}, {"(00⋈", 2, api.ErrForm}, {"(99⋈[⊤]1)", 1, api.ErrRange}, {"(0⋈[⊤]64)", 6, api.ErrRange}, {"(0⋈[⊤]00)", 7, api.ErrForm}, {"(0⋈[⊤]063)", 7, api.ErrForm}, {"(12⋈[⊤]164)", 7, api.ErrRange}, {"(64⋈[⊤]065)", 1, api.ErrRange},
	// What stands behind the whole.
	{"0)", 1, api.ErrForm}, {"0(", 1, api.ErrForm}, {"0⋈[⊤]1", 1, api.ErrForm}, {"5\n", 1, api.ErrForm}, {"(0⋈[⊤]1)0", 8, api.ErrForm}, {"(0⋈[⊤]1))", 8, api.ErrForm}, {"(0⋈[⊤]1)⋈[⊤]2", 8, api.ErrForm}, {"(0⋈[⊤]1) ", 8, api.ErrForm}, {"(0⋈[⊤]1)\x00", 8, api.ErrForm},
	// Signs.
	{"(0", 2, api.ErrForm}, {"(0)", 2, api.ErrForm}, {"(0 ⋈[⊤]1)", 2, api.ErrForm}, {"(0[⊤]1)", 2, api.ErrForm}, {"(0#[⊤]1)", 2, api.ErrForm}, {"(0#⋈[⊤]1)", 2, api.ErrForm}, {"(0,1)", 2, api.ErrForm}, {"(0x[⊤]1)", 2, api.ErrForm}, {"(0\x00[⊤]1)", 2, api.ErrForm},
	{"(0⟖[⊤]1)", 2, api.ErrForm}, {"(0⟗[⊤]1)", 2, api.ErrForm}, {"(0⋊[⊤]1)", 2, api.ErrForm}, {"(0⋇[⊤]1)", 2, api.ErrForm}, {"(0▶[⊤]1)", 2, api.ErrForm}, {"(0▹[⊤]1)", 2, api.ErrForm}, {"(0\u0001[⊤]1)", 2, api.ErrForm}, {"(0\u0004[⊤]1)", 2, api.ErrForm}, {"(0>[⊤]1)", 2, api.ErrForm},
	{"(0⋈", 3, api.ErrForm}, {"(0⋈⋈[⊤]1)", 3, api.ErrForm}, {"(0⋈1)", 3, api.ErrForm}, {"(0⋈(⊤)1)", 3, api.ErrForm}, {"(0⋈⊤]1)", 3, api.ErrForm}, {"(0⋈ [⊤]1)", 3, api.ErrForm}, {"(0⋈]", 3, api.ErrForm}, {"(0⋈)", 3, api.ErrForm},
	{"(0⟕#", 4, api.ErrForm}, {"(0⟕##[⊤]1)", 4, api.ErrForm}, {"(0⟕#1)", 4, api.ErrForm}, {"(0⟕# [⊤]1)", 4, api.ErrForm}, {"(0⟕[#⊤]1)", 4, api.ErrForm}, {"(0⟕[⊤]#1)", 6, api.ErrForm},
	// Lists.
	{"(0⋉[", 4, api.ErrForm}, {"(0⋉[]1)", 4, api.ErrForm}, {"(0⋉[;⊤]1)", 4, api.ErrForm}, {"(0⋉[ ⊤]1)", 4, api.ErrForm}, {"(0⋉[[⊤]]1)", 4, api.ErrForm}, {"(0⋉[0]1)", 4, api.ErrForm}, {"(0⋉[(0⋈[⊤]1)]1)", 4, api.ErrForm},
	{"(0⋉[⊤", 5, api.ErrForm}, {"(0⋉[⊤)", 5, api.ErrForm}, {"(0⋉[⊤⊤]1)", 5, api.ErrForm}, {"(0⋉[⊤,⊤]1)", 5, api.ErrForm}, {"(0⋉[⊤ ]1)", 5, api.ErrForm}, {"(0⋉[⊤1)", 5, api.ErrForm}, {"(0⋉[⊤[⊤]1)", 5, api.ErrForm},
	{"(0⋉[⊤;", 6, api.ErrForm}, {"(0⋉[⊤;]1)", 6, api.ErrForm}, {"(0⋉[⊤;;⊤]1)", 6, api.ErrForm}, {"(0⋉[⊤; ⊤]1)", 6, api.ErrForm}, {"(0⋉[⊤;1)", 6, api.ErrForm}, {"(0⋉[⊤;⊤;⊤", 9, api.ErrForm}, {"(0⋉[⊤;⊤;⊤;]1)", 10, api.ErrForm},
	// Conjuncts.
	{"(0▷[=0.0,0.9]1)", 11, api.ErrRange}, {"(0▷[=64.0,0.0]1)", 5, api.ErrRange}, {"(0▷[=0.0]1)", 8, api.ErrForm}, {"(0▷[=0.0,1.00]1)", 12, api.ErrForm}, {"(0▷[∅'-0]1)", 7, api.ErrForm}, {"(0▷[∅'9223372036854775808]1)", 6, api.ErrRange},
	{"(0▷[¬¬¬¬⊤]1)", 8, api.ErrLong}, {"(0▷[¬¬¬¬]1)", 8, api.ErrLong}, {"(0▷[¬¬¬∧(⊤)]1)", 9, api.ErrLong}, {"(0▷[∧(⊤;⊤;⊤;⊤;⊤)]1)", 14, api.ErrLong}, {"(0▷[⊤;¬¬¬¬⊤]1)", 10, api.ErrLong}, {"(0▷[⊤;∧(⊤]1)", 9, api.ErrForm}, {"(0▷[⊤;∅1.4]1)", 9, api.ErrRange}, {"(0▷[¬]1)", 5, api.ErrForm},
	{"((0▷[⊤]1)⋈[∅1.4]2)", 14, api.ErrRange}, {"(0⋈[⊤](0▷[¬¬¬¬⊤]1))", 14, api.ErrLong}, {"(0▷[∧()", 7, api.ErrForm}, {"(0▷[∧(]1)", 6, api.ErrForm},
	// What stands behind a list.
	{"(0⋈[⊤]", 6, api.ErrForm}, {"(0⋈[⊤])", 6, api.ErrForm}, {"(0⋈[⊤]]1)", 6, api.ErrForm}, {"(0⋈[⊤][⊤]1)", 6, api.ErrForm}, {"(0⋈[⊤];1)", 6, api.ErrForm}, {"(0⋈[⊤] 1)", 6, api.ErrForm}, {"(0⋈[⊤]x)", 6, api.ErrForm}, {"(0⋈[⊤]⋈[⊤]1)", 6, api.ErrForm}, {"(0⋈[⊤](", 7, api.ErrForm}, {"(0⋈[⊤]()", 7, api.ErrForm},
	{"(0⋈[⊤]1", 7, api.ErrForm}, {"(0⋈[⊤]1]", 7, api.ErrForm}, {"(0⋈[⊤]1(", 7, api.ErrForm}, {"(0⋈[⊤]1⋈[⊤]2)", 7, api.ErrForm}, {"(0⋈[⊤]1 )", 7, api.ErrForm}, {"(0⋈[⊤]12", 8, api.ErrForm}, {"(0⋈[⊤]12x", 8, api.ErrForm}, {"(0⋈[⊤]1;", 7, api.ErrForm},
	// Trees within trees.
	{"((0⋈[⊤]1)", 9, api.ErrForm}, {"((0⋈[⊤]1))", 9, api.ErrForm}, {"((0))", 3, api.ErrForm}, {"((0⋈[⊤]1)⋈[⊤]", 13, api.ErrForm}, {"((0⋈[⊤]1)⋈[⊤]2", 14, api.ErrForm}, {"(0⋈[⊤](1⋈[⊤]2)", 14, api.ErrForm}, {"(0⋈[⊤](1⋈[⊤]2", 13, api.ErrForm}, {"(0⋈[⊤](1⋈[⊤]2)))", 15, api.ErrForm}, {"(0⋈[⊤](1))", 8, api.ErrForm}, {"((0⋈[⊤]1⋈[⊤]2)", 8, api.ErrForm},
}

func TestParseOfWrongTexts(t *testing.T) {
	for _, c := range wrongs {
		holdAt(t, c.s, c.at, c.e)
		if at, e := slowParse(c.s); at != c.at || e != c.e {
			t.Errorf("the slow way tells %d, %v of %q, not %d, %v", at, e, c.s, c.at, c.e)
		}
	}
}

// A byte that is no rune's is one by itself, which no text has; places are those of runes.
func TestParseOfBytesThatAreNoRunes(t *testing.T) {
	for s, at := range map[string]int{
		"\xff": 0, "\ufffd": 0, "\xe2": 0, "\xe2\x8b": 0, "0\xff": 1, "(\xff": 1, "(0\xe2\x8b": 2, "(0\xe2\x8b\xe2\x8b\x88[⊤]1)": 2, "(0⋈\x88[⊤]1)": 3, "(0⋈[\xe2\x8a]1)": 4, "(0⋈[⊤\xa4]1)": 5, "(0⋈[⊤]\xff1)": 6, "(0⋈[⊤]1\xff)": 7,
		"(0⋈[⊤]1)\xff": 8, "\xc0\xa80⋈[⊤]1)": 0, "(0⋈\xc1\x9b⊤]1)": 3, "(0\xed\xa0\x80[⊤]1)": 2, "(0⋈[⊤;\xff\xff\xff]1)": 6, "((0⟕[⊤]1)⋈[⊤]\xe2\x9f": 13,
	} {
		holdAt(t, s, at, api.ErrForm)
	}
}

// texts goes through all texts of up to so many of the parts behind a beginning.
func texts(begin string, parts []string, most int, each func(string)) {
	each(begin)
	if most == 0 {
		return
	}
	for _, part := range parts {
		texts(begin+part, parts, most-1, each)
	}
}

func TestParseOfAllShortTexts(t *testing.T) {
	count := map[api.Errno]int{}
	each := func(s string) { count[holdParse(t, s)]++ }
	texts("", strings.Split("(0⋈#[⊤;]1)x", ""), 4, each)
	texts("", []string{"(", "0", "⟕", "[⊤]", ")", "#[?;⊥]"}, 6, each)
	texts("(", []string{"(0", "(1▷", "[⊤]1)", "⋈", "#[⊤]", "2)", "3"}, 5, each)
	for _, begin := range []string{"(0", "(0⋉", "(0⋉#", "(0⋉[", "(0⋉[⊤", "(0⋉[⊤;", "(0⋉[⊤]", "(0⋉[⊤](1", "(0⋉[⊤](1▷[⊤]2", "(0⋉[⊤]1)", "((0⋉[⊤]1)", "((0⋉[⊤]1)⟕", "(6", "(0⋉[⊤]6"} {
		texts(begin, strings.Split("⋈⟕⋉▷#[⊤;](034)", ""), 3, each)
	}
	for _, begin := range []string{"", "6", "(", "(6", "(0⋉[⊤]", "(0⋉[⊤]6"} {
		texts(begin, strings.Split("0123456789", ""), 3, each)
	}
	for _, e := range []api.Errno{api.OK, api.ErrForm, api.ErrRange} {
		if count[e] < 100 {
			t.Errorf("%v comes %d times", e, count[e])
		}
	}
}

// One rune changed, put in, or taken out of a text, at each place of it.
func TestParseOfChangedTexts(t *testing.T) {
	runes := []rune("⋈⟕⋉▷#[];()⊤⊥?=∅∧¬',.-0123456789 x\ufffd")
	d := &dice{16}
	count := map[api.Errno]int{}
	for _, x := range some()[:100] {
		l := []rune(slowPrint(x))
		for at := range len(l) + 1 {
			c := string(runes[d.below(len(runes))])
			count[holdParse(t, string(l[:at])+c+string(l[at:]))]++
			count[holdParse(t, string(l[:at]))]++
			if at < len(l) {
				count[holdParse(t, string(l[:at])+c+string(l[at+1:]))]++
				count[holdParse(t, string(l[:at])+string(l[at+1:]))]++
				count[holdParse(t, string(l[:at+1])+string(l[at:]))]++
			}
		}
	}
	for _, e := range []api.Errno{api.OK, api.ErrForm, api.ErrRange, api.ErrLong} {
		if count[e] == 0 {
			t.Errorf("%v does not come", e)
		}
	}
}

// Parts of texts in no order at all.
func TestParseOfAnyTexts(t *testing.T) {
	d := &dice{17}
	parts := []string{"(", "((", "0", "63", "64", "00", "⋈", "⟕", "⋉", "▷", "#", "[", "[⊤]", "[⊤;∅0.0]", "#[?]", ";", "]", ")", "))", "1)", "(0⋈[⊤]1)", "(2▷", "⊤", "=0.0,1.0", "¬", "\xff"}
	for range 50000 {
		var s strings.Builder
		for range d.below(12) {
			s.WriteString(parts[d.below(len(parts))])
		}
		holdParse(t, s.String())
	}
}

// P12.2: limits

// A list may have 64 conjuncts; where one more would begin it is too long, whatever stands there.
func TestParseOfLongLists(t *testing.T) {
	for begin, end := range map[string]string{
		"(0⋈[":              "]1)",
		"(0▷#[":             "]1)",
		"((5⋈[⊤;⊤]6)⟕[":     "](1⋉[⊤]2))",
		"(0⋈[⊤;⊤](5⋉[":      "]1))",
		"((0⟕[⊤;⊤;⊤;⊤]1)⟕[": "]2)",
	} {
		for _, p := range []string{"⊤", "=0.0,1.0", "∧(⊤;⊤)"} {
			for n := 1; n <= 64; n++ {
				s := begin + strings.Repeat(p+";", n-1) + p + end
				holdAt(t, s, utf8.RuneCountInString(s), api.OK)
			}
			full := begin + strings.Repeat(p+";", 63) + p
			at := utf8.RuneCountInString(full)
			for _, more := range []string{p + end, p, "", end, ";", "x", ")", "=64.0,1.0]", "\xff", " ", "0", strings.Repeat(p+";", 100)} {
				holdAt(t, full+";"+more, at+1, api.ErrLong)
			}
			holdAt(t, full, at, api.ErrForm)
			holdAt(t, full+p+end, at, api.ErrForm)
		}
	}
}

// Each operator may have as many conjuncts, whatever the others have.
func TestParseOfManyLongLists(t *testing.T) {
	list := "[" + strings.Repeat("⊤;", 63) + "⊤]"
	s := strings.Repeat("(", 63) + "0" + strings.Repeat("⋈"+list+"1)", 63)
	holdAt(t, s, utf8.RuneCountInString(s), api.OK)
	s = strings.Repeat("(0⋈"+list, 63) + "0" + strings.Repeat(")", 63)
	holdAt(t, s, utf8.RuneCountInString(s), api.OK)
}

// forms tells the texts of so many leaves: one by one on the left, on the right, and on both sides.
func forms(n int) []string {
	return []string{
		strings.Repeat("(", n-1) + "11" + strings.Repeat("⋈[⊤]1)", n-1),
		strings.Repeat("(1⟕[⊤]", n-1) + "11" + strings.Repeat(")", n-1),
		slowPrint(even(n)),
		slowPrint((&dice{uint64(n)}).on(n)),
	}
}

// leafAt tells the place of the first rune of the leaf of this number.
func leafAt(s string, n int) int {
	at, list, number := 0, false, false
	for _, c := range s {
		digit := c >= '0' && c <= '9'
		list = c == '[' || list && c != ']'
		if digit && !number && !list {
			n--
		}
		if n < 0 {
			return at
		}
		number = digit
		at++
	}
	return -1
}

func TestParseOfManyLeaves(t *testing.T) {
	for n := 1; n <= 130; n++ {
		for _, s := range forms(n) {
			if n <= 64 {
				holdAt(t, s, utf8.RuneCountInString(s), api.OK)
			} else {
				holdAt(t, s, leafAt(s, 64), api.ErrLong)
			}
		}
	}
}

// Where the 65th leaf would begin its first rune is too much, whatever number it begins; any other rune is wrong as ever.
func TestParseOfOneMoreLeaf(t *testing.T) {
	for _, begin := range []string{
		strings.Repeat("(", 64) + "1" + strings.Repeat("⋈[⊤]1)", 63) + "⋈[⊤]",
		strings.Repeat("(1⟕[⊤]", 64),
		"(" + slowPrint(even(64)) + "▷#[⊤;?]",
		"(" + slowPrint(even(32)) + "▷#[⊤;?](" + slowPrint(even(32)) + "⋈[⊤]",
	} {
		at := utf8.RuneCountInString(begin)
		for more, want := range map[string]api.Errno{
			"0": api.ErrLong, "1)": api.ErrLong, "63": api.ErrLong, "64": api.ErrLong, "00": api.ErrLong, "01)": api.ErrLong, "999999999999999999999": api.ErrLong, "5x": api.ErrLong,
			"": api.ErrForm, "x": api.ErrForm, ")": api.ErrForm, "⊤": api.ErrForm, "-1": api.ErrForm, "\xff": api.ErrForm, "[": api.ErrForm,
		} {
			holdAt(t, begin+more, at, want)
		}
		holdAt(t, begin+"(", at+1, api.ErrForm)
		holdAt(t, begin+"((0", at+2, api.ErrLong)
		holdAt(t, begin+"()", at+1, api.ErrForm)
	}
	// Of the 64th one all is as ever.
	begin := strings.Repeat("(", 63) + "1" + strings.Repeat("⋈[⊤]1)", 62) + "⋈[⊤]"
	at := utf8.RuneCountInString(begin)
	holdAt(t, begin+"63)", at+3, api.OK)
	holdAt(t, begin+"64)", at, api.ErrRange)
	holdAt(t, begin+"00)", at+1, api.ErrForm)
	holdAt(t, begin+"0x", at+1, api.ErrForm)
	// What is wrong ahead of it is told first.
	begin = strings.Repeat("(", 64) + "1" + strings.Repeat("⋈[⊤]1)", 62) + "⋈[⊤]"
	holdAt(t, begin+"64)⋈[⊤]1)", at+1, api.ErrRange)
	holdAt(t, begin+"1)⋈[]1)", at+5, api.ErrForm)
	holdAt(t, begin+"1)⋈[∅0.4]1)", at+8, api.ErrRange)
}

// However much stands in a text, it is read, and the first thing that is wrong is told.
func TestParseOfGreatTexts(t *testing.T) {
	holdAt(t, strings.Repeat("(", many), many, api.ErrForm)
	holdAt(t, strings.Repeat("(", 100*many), 100*many, api.ErrForm)
	holdAt(t, strings.Repeat("(", many)+"64", many, api.ErrRange)
	holdAt(t, strings.Repeat("(", many)+"0", many+1, api.ErrForm)
	holdAt(t, strings.Repeat("(", many)+"0"+strings.Repeat("⋈[⊤]1)", many), many+1+63*6+4, api.ErrLong)
	holdAt(t, strings.Repeat("(0⋈[⊤]", many), 64*6+1, api.ErrLong)
	holdAt(t, strings.Repeat("(0⋈[⊤]((((((((1⋈[⊤]", many), 32*19+1, api.ErrLong)
	holdAt(t, strings.Repeat("0", 16*many), 1, api.ErrForm)
	holdAt(t, strings.Repeat("9", 16*many), 0, api.ErrRange)
	holdAt(t, "1"+strings.Repeat("0", 16*many)+"x", 0, api.ErrRange)
	holdAt(t, "0"+strings.Repeat("⊤", 16*many), 1, api.ErrForm)
	holdAt(t, "(0⋈["+strings.Repeat("⊤;", 16*many), 4+2*64, api.ErrLong)
	holdAt(t, "(0⋈["+strings.Repeat("¬", 16*many), 8, api.ErrLong)
	holdAt(t, "(0⋈[∅"+strings.Repeat("9", 16*many), 5, api.ErrRange)
}

// What is handed out is new memory each time, and no two lists in it share any.
func TestParseSharesNothing(t *testing.T) {
	part := "(0⋈[∧(⊤;⊤);⊤]1)"
	s := "(" + part + "⟕[∧(⊤;⊤);⊤](" + part + "▷[∧(⊤;⊤);⊤]" + part + "))"
	x, _, _ := shape.Parse(s)
	for at := range sample.Within(&x) {
		y, _, _ := shape.Parse(s)
		l := sample.Within(&y)
		before := tree.Copy(y)
		one := l[at]
		kept := slowPrint(*one)
		sample.Spoil(*one)
		mended, _, _ := shape.Parse(kept)
		*one = mended
		if !tree.Same(y, before) {
			t.Errorf("the tree at %d shares memory with one around or beside it", at)
		}
	}
	if slowPrint(x) != s {
		t.Error("a tree shares memory with one of the same text")
	}
	if again, _, _ := shape.Parse(s); slowPrint(again) != s {
		t.Error("a text is read as another tree when it is read again")
	}
}

// P12.3

func TestBack(t *testing.T) {
	for i, x := range some() {
		s, e := shape.Print(x)
		y, n, f := shape.Parse(s)
		if e != api.OK || f != api.OK || n != utf8.RuneCountInString(s) || !tree.Same(x, y) {
			t.Errorf("the tree %d comes back as %v, %d, %v", i, y, n, f)
		}
	}
	for _, x := range []api.Tree{chain(64, 0, times(64, yes)...), chain(64, 1, times(64, not(yes))...), even(64)} {
		s, _ := shape.Print(x)
		if y, _, e := shape.Parse(s); e != api.OK || !tree.Same(x, y) {
			t.Errorf("a great tree does not come back: %v", e)
		}
	}
}

// The chapter's example

func TestExample(t *testing.T) {
	want := on(api.Left, leaf(0), leaf(1), eq(col(0, 0), col(1, 0)))
	x, n, e := shape.Parse("(0⟕[=0.0,1.0]1)")
	if !tree.Same(x, want) || n != 15 || e != api.OK {
		t.Errorf("the example is %v, %d, %v", x, n, e)
	}
	if s, e := shape.Print(want); s != "(0⟕[=0.0,1.0]1)" || e != api.OK {
		t.Errorf("the text of the example is %q, %v", s, e)
	}
}
