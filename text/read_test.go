package text_test

import (
	"math"
	"math/big"
	"reflect"
	"slices"
	"strings"
	"testing"
	"unicode/utf8"

	"watersmeet/api"
	"watersmeet/pred"
	"watersmeet/text"
)

// goal is what has yet to come: a predicate at the depth n ('p'), a term ('t'), a number below n ('n'), a value ('v'),
// more of a list of which n have come, each at the depth deep (';'), the beginning of one ('('), or the sign n alone ('s').
type goal struct {
	what    rune
	n, deep int
}

// goalsOf tells what has to come behind the sign that begins a predicate at this depth, what comes first at the end; nil and false, if none begins so.
func goalsOf(c rune, depth int) ([]goal, bool) {
	switch c {
	case '\u22a5', '?', '\u22a4':
		return nil, true
	case '=', '\u2260', '<', '\u2264', '>', '\u2265':
		return []goal{{what: 't'}, {what: 's', n: ','}, {what: 't'}}, true
	case '\u2205':
		return []goal{{what: 't'}}, true
	case '\u2227', '\u2228':
		return []goal{{what: '(', deep: depth + 1}, {what: 's', n: '('}}, true
	case '\u00ac':
		return []goal{{what: 'p', n: depth + 1}}, true
	}
	return nil, false
}

// slowDigits tells the place behind the digits at a place, or where and how they are wrong, and the number.
func slowDigits(l []rune, at int) (int, *big.Int, api.Errno) {
	end := at
	for end < len(l) && strings.ContainsRune("0123456789", l[end]) {
		end++
	}
	if end == at {
		return at, nil, api.ErrForm
	}
	if end > at+1 && l[at] == '0' {
		return at + 1, nil, api.ErrForm
	}
	n, _ := new(big.Int).SetString(string(l[at:end]), 10)
	return end, n, api.OK
}

// slowNumber tells the place behind the number or the value, whichever has to come, or where and how it is wrong.
func slowNumber(l []rune, at int, g goal) (int, api.Errno) {
	if g.what == 'v' && at < len(l) && l[at] == '\u2205' {
		return at + 1, api.OK
	}
	from := at
	minus := g.what == 'v' && at < len(l) && l[at] == '-'
	if minus {
		from++
	}
	end, n, e := slowDigits(l, from)
	if e != api.OK {
		return end, e
	}
	if minus {
		n.Neg(n)
	}
	switch {
	case minus && n.Sign() == 0:
		return from, api.ErrForm
	case g.what == 'v' && !n.IsInt64() || g.what == 'n' && n.Cmp(big.NewInt(int64(g.n))) >= 0:
		return at, api.ErrRange
	}
	return end, api.OK
}

// slowTake tells the place and the error that Take tells, by a list of what has yet to come.
func slowTake(l []rune, at int) (int, api.Errno) {
	if at < 0 || at > len(l) {
		return 0, api.ErrRange
	}
	todo := []goal{{what: 'p', n: 1}}
	for len(todo) > 0 {
		g := todo[len(todo)-1]
		todo = todo[:len(todo)-1]
		c := rune(0)
		if at < len(l) {
			c = l[at]
		}
		switch g.what {
		case 'p':
			if g.n == 5 {
				return at, api.ErrLong
			}
			more, ok := goalsOf(c, g.n)
			if !ok {
				return at, api.ErrForm
			}
			at, todo = at+1, append(todo, more...)
		case 's':
			if c != rune(g.n) {
				return at, api.ErrForm
			}
			at++
		case '(':
			if c == ')' {
				at++
			} else {
				todo = append(todo, goal{';', 1, g.deep}, goal{what: 'p', n: g.deep})
			}
		case ';':
			switch {
			case c != ')' && c != ';':
				return at, api.ErrForm
			case c == ';' && g.n == 4:
				return at + 1, api.ErrLong
			case c == ';':
				todo = append(todo, goal{';', g.n + 1, g.deep}, goal{what: 'p', n: g.deep})
			}
			at++
		case 't':
			if c == '\'' {
				at, todo = at+1, append(todo, goal{what: 'v'})
			} else {
				todo = append(todo, goal{what: 'n', n: 4}, goal{what: 's', n: '.'}, goal{what: 'n', n: 64})
			}
		case 'n', 'v':
			end, e := slowNumber(l, at, g)
			if e != api.OK {
				return end, e
			}
			at = end
		}
	}
	return at, api.OK
}

// slowParse tells the place and the error that Parse tells.
func slowParse(s string) (int, api.Errno) {
	var l []rune
	for _, c := range s {
		l = append(l, c)
	}
	at, e := slowTake(l, 0)
	if e == api.OK && at < len(l) {
		e = api.ErrForm
	}
	return at, e
}

// holdParse holds what Parse tells of s against the slow way; what is read must be a predicate whose text is s.
func holdParse(t *testing.T, s string) api.Errno {
	t.Helper()
	wantAt, wantErr := slowParse(s)
	p, at, e := text.Parse(s)
	if at != wantAt || e != wantErr {
		t.Errorf("Parse(%q) tells %d, %v, not %d, %v", s, at, e, wantAt, wantErr)
	}
	if e != api.OK && !reflect.DeepEqual(p, api.Pred{}) {
		t.Errorf("Parse(%q) tells %v beside %v", s, p, e)
	}
	if e == api.OK && (!pred.Right(p) || slowPred(p) != s) {
		t.Errorf("Parse(%q) tells %v", s, p)
	}
	return e
}

// wrongs are texts, where they are wrong, and how.
var wrongs = []struct {
	s  string
	at int
	e  api.Errno
}{
	// How a predicate begins.
	{"", 0, api.ErrForm}, {"x", 0, api.ErrForm}, {" ", 0, api.ErrForm}, {" ⊤", 0, api.ErrForm}, {"0", 0, api.ErrForm}, {"0.0", 0, api.ErrForm}, {"'1", 0, api.ErrForm},
	{"(", 0, api.ErrForm}, {")", 0, api.ErrForm}, {";", 0, api.ErrForm}, {"(⊤)", 0, api.ErrForm}, {"\x00", 0, api.ErrForm}, {"!", 0, api.ErrForm}, {"∃", 0, api.ErrForm},
	// What stands behind it.
	{"⊤⊤", 1, api.ErrForm}, {"? ", 1, api.ErrForm}, {"⊥\n", 1, api.ErrForm}, {"∧())", 3, api.ErrForm}, {"=0.0,0.0,", 8, api.ErrForm}, {"∅0.0.", 4, api.ErrForm}, {"∅'∅∅", 3, api.ErrForm},
	{"∅'∅1", 3, api.ErrForm}, {"∅'1-", 3, api.ErrForm}, {"¬⊤;", 2, api.ErrForm}, {"∅'5∅", 3, api.ErrForm}, {"⊤\x00", 1, api.ErrForm}, {"⊤\xff", 1, api.ErrForm},
	// Terms.
	{"=", 1, api.ErrForm}, {"∅", 1, api.ErrForm}, {"∅∅", 1, api.ErrForm}, {"∅-1", 1, api.ErrForm}, {"=0", 2, api.ErrForm}, {"=0.", 3, api.ErrForm}, {"=0.0", 4, api.ErrForm}, {"=0.0,", 5, api.ErrForm},
	{"=0.0;0.0", 4, api.ErrForm}, {"=0,0.0", 2, api.ErrForm}, {"=.0,0.0", 1, api.ErrForm}, {"=,", 1, api.ErrForm}, {"=0.0,,", 5, api.ErrForm}, {"=0..0", 3, api.ErrForm}, {"=0.-1", 3, api.ErrForm},
	{"=0 .0", 2, api.ErrForm}, {"=0.0, 0.0", 5, api.ErrForm}, {"=x", 1, api.ErrForm}, {"=0.0=0.0", 4, api.ErrForm}, {"∅+1.0", 1, api.ErrForm}, {"∅(0.0)", 1, api.ErrForm},
	// Tables and columns.
	{"=64.0,0.0", 1, api.ErrRange}, {"=0.4,0.0", 3, api.ErrRange}, {"=0.0,64.0", 5, api.ErrRange}, {"=0.0,63.4", 8, api.ErrRange}, {"∅100.0", 1, api.ErrRange}, {"∅0.10", 3, api.ErrRange}, {"∅0.9", 3, api.ErrRange},
	{"∅64", 1, api.ErrRange}, {"∅64x", 1, api.ErrRange}, {"∅64.4", 1, api.ErrRange}, {"∅640.00", 1, api.ErrRange}, {"∅18446744073709551616.0", 1, api.ErrRange}, {"∅0.18446744073709551617", 3, api.ErrRange},
	{"∅9223372036854775808.0", 1, api.ErrRange}, {"∅4294967296.0", 1, api.ErrRange}, {"∅0.256", 3, api.ErrRange},
	{"=00.0,0.0", 2, api.ErrForm}, {"∅01.0", 2, api.ErrForm}, {"∅0.00", 4, api.ErrForm}, {"∅0.03", 4, api.ErrForm}, {"∅064.0", 2, api.ErrForm}, {"∅0.04", 4, api.ErrForm}, {"∅00", 2, api.ErrForm}, {"∅099999999999999999999.0", 2, api.ErrForm},
	{"∅٣.0", 1, api.ErrForm}, {"∅1٣.0", 2, api.ErrForm}, {"∅１.0", 1, api.ErrForm}, {"∅/.0", 1, api.ErrForm}, {"∅:.0", 1, api.ErrForm},
	// Values.
	{"∅'", 2, api.ErrForm}, {"∅''1", 2, api.ErrForm}, {"∅'x", 2, api.ErrForm}, {"∅'+1", 2, api.ErrForm}, {"∅'.", 2, api.ErrForm}, {"∅'-", 3, api.ErrForm}, {"∅'--1", 3, api.ErrForm}, {"∅'-x", 3, api.ErrForm}, {"∅'-∅", 3, api.ErrForm},
	{"∅'-0", 3, api.ErrForm}, {"∅'-0x", 3, api.ErrForm}, {"∅'-0.0", 3, api.ErrForm}, {"∅'-01", 4, api.ErrForm}, {"∅'-00", 4, api.ErrForm}, {"∅'00", 3, api.ErrForm}, {"∅'01", 3, api.ErrForm}, {"∅'1.0", 3, api.ErrForm},
	{"∅'9223372036854775808", 2, api.ErrRange}, {"∅'-9223372036854775809", 2, api.ErrRange}, {"∅'18446744073709551616", 2, api.ErrRange}, {"∅'-18446744073709551617", 2, api.ErrRange}, {"∅'99999999999999999999x", 2, api.ErrRange},
	{"∅'09223372036854775808", 3, api.ErrForm}, {"∅'-09223372036854775809", 4, api.ErrForm}, {"='1,'9223372036854775808", 5, api.ErrRange}, {"='9223372036854775808", 2, api.ErrRange},
	// Parts.
	{"∧", 1, api.ErrForm}, {"∨", 1, api.ErrForm}, {"∧⊤", 1, api.ErrForm}, {"∧(", 2, api.ErrForm}, {"∧(;", 2, api.ErrForm}, {"∧(⊤", 3, api.ErrForm}, {"∧(⊤⊤)", 3, api.ErrForm}, {"∧(⊤,⊤)", 3, api.ErrForm}, {"∧(⊤;", 4, api.ErrForm},
	{"∧(⊤;)", 4, api.ErrForm}, {"∧(⊤;;⊤)", 4, api.ErrForm}, {"∨(⊤;∧(⊤)", 8, api.ErrForm}, {"∧[⊤]", 1, api.ErrForm}, {"∧( )", 2, api.ErrForm}, {"∧(⊤;⊤;⊤;⊤", 9, api.ErrForm}, {"¬", 1, api.ErrForm}, {"¬)", 1, api.ErrForm}, {"¬¬¬", 3, api.ErrForm}, {"¬(⊤)", 1, api.ErrForm},
	{"∧()⊤", 3, api.ErrForm}, {"∧(=64.0", 3, api.ErrRange}, {"¬∧(⊤;∨(∅0.4;⊤))", 10, api.ErrRange},
	// Too many Parts, whatever stands there.
	{"∧(⊤;⊤;⊤;⊤;⊤)", 10, api.ErrLong}, {"∨(⊤;⊤;⊤;⊤;", 10, api.ErrLong}, {"∧(⊤;⊤;⊤;⊤;)", 10, api.ErrLong}, {"∧(⊤;⊤;⊤;⊤;x", 10, api.ErrLong}, {"∧(⊤;⊤;⊤;⊤;;", 10, api.ErrLong}, {"∧(⊤;⊤;⊤;⊤;=64.0", 10, api.ErrLong},
	{"∨(⊤;∧(⊤;⊤;⊤;⊤;⊤))", 14, api.ErrLong}, {"¬∨(?;?;?;?;?)", 11, api.ErrLong},
	// Too deep, whatever stands there.
	{"¬¬¬¬⊤", 4, api.ErrLong}, {"¬¬¬¬", 4, api.ErrLong}, {"¬¬¬¬x", 4, api.ErrLong}, {"¬¬¬¬¬", 4, api.ErrLong}, {"¬¬¬¬)", 4, api.ErrLong}, {"¬¬¬∧(⊤)", 5, api.ErrLong}, {"¬¬¬∧(x", 5, api.ErrLong}, {"¬¬¬∧(;", 5, api.ErrLong}, {"¬¬¬∧(", 5, api.ErrLong},
	{"∧(∧(∧(∧(⊤))))", 8, api.ErrLong}, {"∨(⊤;∨(⊤;¬∧(⊤)))", 11, api.ErrLong}, {"∧(∧(∧(¬⊤)))", 7, api.ErrLong}, {"¬¬¬∧", 4, api.ErrForm}, {"¬¬¬∧[", 4, api.ErrForm}, {"∧(∧(∧(∧();⊤;∨(⊤))))", 14, api.ErrLong},
}

// P8.2: Parse

func TestParse(t *testing.T) {
	a, b := col(0, 0), col(1, 3)
	for s, want := range map[string]api.Pred{
		"\u22a5":                           truthFalse,
		"?":                                truthUnknown,
		"\u22a4":                           truthTrue,
		"=0.0,1.3":                         cmp(api.Eq, a, b),
		"\u22600.0,1.3":                    cmp(api.Ne, a, b),
		"<0.0,1.3":                         cmp(api.Lt, a, b),
		"\u22640.0,1.3":                    cmp(api.Le, a, b),
		">0.0,1.3":                         cmp(api.Gt, a, b),
		"\u22650.0,1.3":                    cmp(api.Ge, a, b),
		"=1.3,0.0":                         cmp(api.Eq, b, a),
		"=63.3,62.2":                       cmp(api.Eq, col(63, 3), col(62, 2)),
		"<'-10,'\u2205":                    cmp(api.Lt, val(num(-10)), val(null)),
		">'0,10.2":                         cmp(api.Gt, val(num(0)), col(10, 2)),
		"\u22051.3":                        isNull(b),
		"\u2205'\u2205":                    isNull(val(null)),
		"\u2205'9223372036854775807":       isNull(val(num(math.MaxInt64))),
		"\u2205'-9223372036854775808":      isNull(val(num(math.MinInt64))),
		"\u2227()":                         and(),
		"\u2228()":                         or(),
		"\u2228(?)":                        or(truthUnknown),
		"\u2227(\u22a4;\u22a5;?;\u2227())": and(truthTrue, truthFalse, truthUnknown, and()),
		"\u00ac\u22a4":                     not(truthTrue),
		"\u00ac\u00ac\u00ac?":              not(not(not(truthUnknown))),
		"\u00ac\u00ac\u00ac\u2227()":       not(not(not(and()))),
		"\u2228(\u2228(\u2228(\u2228())))": or(or(or(or()))),
	} {
		p, at, e := text.Parse(s)
		if !pred.Same(p, want) || at != utf8.RuneCountInString(s) || e != api.OK {
			t.Errorf("Parse(%q) is %v, %d, %v, not %v", s, p, at, e, want)
		}
	}
}

func TestParseOfWrongTexts(t *testing.T) {
	for _, c := range wrongs {
		p, at, e := text.Parse(c.s)
		if at != c.at || e != c.e || !reflect.DeepEqual(p, api.Pred{}) {
			t.Errorf("Parse(%q) is %v, %d, %v, not %d, %v", c.s, p, at, e, c.at, c.e)
		}
		if at, e := slowParse(c.s); at != c.at || e != c.e {
			t.Errorf("the slow way tells %d, %v of %q, not %d, %v", at, e, c.s, c.at, c.e)
		}
	}
}

// A byte that is no rune's is one by itself, which no text has; places are those of runes.
func TestParseOfBytesThatAreNoRunes(t *testing.T) {
	for _, c := range []struct {
		s  string
		at int
	}{
		{"\xff", 0}, {"\ufffd", 0}, {"\xe2", 0}, {"\xe2\x8a", 0}, {"\xe2\x8a\xa4\xa4", 1}, {"\xe2\x8a\xe2\x8a\xa4", 0}, {"¬\xff", 1}, {"¬\xc2", 1}, {"¬¬\xe2\x8a", 2}, {"=0.0,\xff", 5}, {"≠0.0\xe2\x88,", 4},
		{"∧(⊤\xff\xff)", 3}, {"∅'\xe2\x88", 2}, {"∅'\xe2\x88\x85\x85", 3}, {"\xc0\xbd0.0,0.0", 0}, {"=0\xc0\xae0,0.0", 2}, {"\xed\xa0\x80", 0}, {"∅1.1\xed\xa0\x80", 4},
	} {
		p, at, e := text.Parse(c.s)
		if at != c.at || e != api.ErrForm || !reflect.DeepEqual(p, api.Pred{}) {
			t.Errorf("Parse(%q) is %v, %d, %v, not %d", c.s, p, at, e, c.at)
		}
	}
}

// texts goes through all texts of up to so many of the runes behind a beginning.
func texts(begin string, runes []rune, most int, each func(string)) {
	each(begin)
	if most == 0 {
		return
	}
	for _, c := range runes {
		texts(begin+string(c), runes, most-1, each)
	}
}

func TestParseOfAllShortTexts(t *testing.T) {
	count := map[api.Errno]int{}
	each := func(s string) { count[holdParse(t, s)]++ }
	texts("", []rune("⊤=∅∧¬(;)',.-0149"), 4, each)
	for _, begin := range []string{"∧(", "∨(⊤;", "∧(⊤;⊤;⊤;⊤", "∧(⊤;⊤;⊤;⊤;", "¬¬", "¬¬¬", "¬¬¬∧", "¬¬¬∧(", "¬∨(¬", "∧(∧(∧(", "∧(∧(∧(;"} {
		texts(begin, []rune("⊤∧¬(;)x"), 4, each)
	}
	for _, begin := range []string{"∅", "∅6", "∅63", "∅64", "∅'", "∅'-", "∅'922337203685477580", "∅'-922337203685477580", "∅'092233720368547758", "<0.0,", "<0", "<'1", "¬∅"} {
		texts(begin, []rune("0378.',-∅"), 4, each)
	}
	for _, e := range []api.Errno{api.OK, api.ErrForm, api.ErrRange, api.ErrLong} {
		if count[e] == 0 {
			t.Errorf("%v does not come", e)
		}
	}
}

// One rune changed, put in, or taken out of a text, at each place of it.
func TestParseOfChangedTexts(t *testing.T) {
	runes := []rune("⊥?⊤=≠<≤>≥∅∧∨¬();,.'-0123456789 x\ufffd")
	d := &dice{83}
	for _, p := range some()[:300] {
		l := []rune(slowPred(p))
		for at := range len(l) + 1 {
			c := string(runes[d.below(len(runes))])
			holdParse(t, string(l[:at])+c+string(l[at:]))
			holdParse(t, string(l[:at]))
			if at < len(l) {
				holdParse(t, string(l[:at])+c+string(l[at+1:]))
				holdParse(t, string(l[:at])+string(l[at+1:]))
				holdParse(t, string(l[:at+1])+string(l[at:]))
			}
		}
	}
}

// Runes in no order at all.
func TestParseOfAnyTexts(t *testing.T) {
	d := &dice{84}
	parts := []string{"⊤", "?", "=", "≥", "∅", "∧(", "∨(", "∧", "¬", ")", ";", ",", "0.0", "63.3", "'5", "'-5", "'∅", "64", "4", ".", "'", "-", "0", "9223372036854775807", "\xff"}
	for range 50000 {
		var s strings.Builder
		for range d.below(12) {
			s.WriteString(parts[d.below(len(parts))])
		}
		holdParse(t, s.String())
	}
}

// P8.2: Take

func TestTakeOutside(t *testing.T) {
	for _, l := range [][]rune{nil, {}, []rune("⊤"), []rune("⊤⊤⊤⊤⊤")} {
		for _, at := range []int{math.MinInt, math.MinInt + 1, -1 << 32, -2, -1, len(l) + 1, len(l) + 2, 1 << 32, math.MaxInt} {
			p, place, e := text.Take(l, at)
			if place != 0 || e != api.ErrRange || !reflect.DeepEqual(p, api.Pred{}) {
				t.Errorf("Take(%q, %d) is %v, %d, %v", string(l), at, p, place, e)
			}
		}
		if p, place, e := text.Take(l, len(l)); place != len(l) || e != api.ErrForm || !reflect.DeepEqual(p, api.Pred{}) {
			t.Errorf("Take(%q, %d) is %v, %d, %v", string(l), len(l), p, place, e)
		}
	}
}

// What stands in the spare room of a list is not there.
func TestTakeOfSpareRoom(t *testing.T) {
	l := []rune("∅1.12")
	for n, want := range []api.Errno{api.ErrForm, api.ErrForm, api.ErrForm, api.ErrForm, api.OK, api.ErrRange} {
		p, at, e := text.Take(l[:n], 0)
		wantAt := n
		if e == api.ErrRange {
			wantAt = 3
		}
		if at != wantAt || e != want || e == api.OK && !pred.Same(p, isNull(col(1, 1))) {
			t.Errorf("Take of %d runes is %v, %d, %v", n, p, at, e)
		}
	}
	if _, at, e := text.Take(l[:2], 3); at != 0 || e != api.ErrRange {
		t.Errorf("Take behind the last rune is %d, %v", at, e)
	}
}

func TestTake(t *testing.T) {
	for _, c := range []struct {
		s    string
		at   int
		want api.Pred
		end  int
	}{
		{"x⊤y", 1, truthTrue, 2},
		{"⊤⊥?", 0, truthTrue, 1},
		{"⊤⊥?", 1, truthFalse, 2},
		{"⊤⊥?", 2, truthUnknown, 3},
		{"¬¬¬¬⊤", 1, not(not(not(truthTrue))), 5},
		{"¬¬¬¬⊤", 4, truthTrue, 5},
		{"∧(⊤;⊤;⊤;⊤;⊤)", 10, truthTrue, 11},
		{"∧(⊤;⊤)", 2, truthTrue, 3},
		{"(0⟕[=0.0,1.0]1)", 4, cmp(api.Eq, col(0, 0), col(1, 0)), 12},
		{"∅0.3.5", 0, isNull(col(0, 3)), 4},
		{"∅'∅'∅", 0, isNull(val(null)), 3},
		{"∅'∅1.2", 2, isNull(col(1, 2)), 6},
		{"∅'5-5", 0, isNull(val(num(5))), 3},
		{"∅'-5-5", 0, isNull(val(num(-5))), 4},
		{"∧())", 0, and(), 3},
	} {
		p, end, e := text.Take([]rune(c.s), c.at)
		if !pred.Same(p, c.want) || end != c.end || e != api.OK {
			t.Errorf("Take(%q, %d) is %v, %d, %v, not %v, %d", c.s, c.at, p, end, e, c.want, c.end)
		}
	}
}

// Wherever a wrong text stands, it is wrong at the same rune; what may stand behind a predicate is of no matter.
func TestTakeOfWrongTexts(t *testing.T) {
	for _, c := range wrongs {
		for _, ahead := range []string{"", "⊤", "¬¬¬¬", "∧(⊤;⊤;⊤;⊤;", "=0.0,5\ufffd"} {
			from := utf8.RuneCountInString(ahead)
			l := []rune(ahead + c.s)
			wantAt, wantErr := slowTake(l, from)
			p, at, e := text.Take(l, from)
			if at != wantAt || e != wantErr || wantErr != api.OK && (at != from+c.at || e != c.e || !reflect.DeepEqual(p, api.Pred{})) {
				t.Errorf("Take(%q, %d) is %v, %d, %v, not %d, %v", string(l), from, p, at, e, wantAt, wantErr)
			}
		}
	}
}

// At each place of all sorts of texts.
func TestTakeAtEachPlace(t *testing.T) {
	for _, p := range some()[:300] {
		l := []rune(slowPred(p))
		for from := -1; from <= len(l)+1; from++ {
			wantAt, wantErr := slowTake(l, from)
			p, at, e := text.Take(l, from)
			if at != wantAt || e != wantErr || e != api.OK && !reflect.DeepEqual(p, api.Pred{}) {
				t.Errorf("Take(%q, %d) is %v, %d, %v, not %d, %v", string(l), from, p, at, e, wantAt, wantErr)
			}
			if e == api.OK && slowPred(p) != string(l[from:at]) {
				t.Errorf("Take(%q, %d) is %v", string(l), from, p)
			}
		}
	}
}

// Numbers that are no runes, or are runes by their last digits alone, stand for nothing.
func TestTakeOfNumbersThatAreNoRunes(t *testing.T) {
	whole := []rune("∧(=0.0,'-12;∅'∅)")
	for at := range whole {
		for _, c := range []rune{-1, math.MinInt32, math.MaxInt32, 0xd800, 0xdfff, 0x110000, utf8.RuneError, 0, whole[at] | 1<<24, -whole[at], whole[at] | math.MinInt32} {
			l := slices.Clone(whole)
			l[at] = c
			wantAt, wantErr := slowTake(l, 0)
			p, place, e := text.Take(l, 0)
			if wantErr == api.OK || place != wantAt || e != wantErr || !reflect.DeepEqual(p, api.Pred{}) {
				t.Errorf("with %x at %d it is %v, %d, %v, not %d, %v", c, at, p, place, e, wantAt, wantErr)
			}
		}
	}
}

// What is handed in is left alone, and not kept; what is handed out is new, each list of it.
func TestTakeOfMemory(t *testing.T) {
	const s = "∧(∨(⊤;⊥);∨(=0.0,'5;?;⊤);∧(∧();¬?);¬⊥)"
	l := []rune(s)
	first, at, _ := text.Take(l, 0)
	again, _, _ := text.Take(l, 0)
	if string(l) != s || at != len(l) {
		t.Errorf("what was handed in is changed to %q", string(l))
	}
	clear(l)
	want, _, _ := text.Parse(s)
	if slowPred(want) != s {
		t.Fatalf("%q is read as %v", s, want)
	}
	for i := range first.Parts {
		room := first.Parts[i].Parts
		room = room[:cap(room)]
		for j := range room {
			room[j] = api.Pred{Kind: 9}
		}
		first.Parts[i].Parts = nil
		for j, part := range first.Parts {
			if j > i && !pred.Same(part, want.Parts[j]) {
				t.Errorf("the part %d shares with the part %d", j, i)
			}
		}
	}
	if !pred.Same(again, want) {
		t.Errorf("what was handed out is changed to %v", again)
	}
}

// Great texts end, and are wrong where they are.
func TestParseOfGreatTexts(t *testing.T) {
	const many = 1 << 20
	for _, c := range []struct {
		begin, often string
		at           int
		e            api.Errno
	}{
		{"", "⊤", 1, api.ErrForm},
		{"", "¬", 4, api.ErrLong},
		{"", "∧(", 8, api.ErrLong},
		{"∧(", "⊤;", 10, api.ErrLong},
		{"∅", "9", 1, api.ErrRange},
		{"∅0.", "1", 3, api.ErrRange},
		{"∅'", "8", 2, api.ErrRange},
		{"∅'-", "8", 2, api.ErrRange},
		{"∅'", "0", 3, api.ErrForm},
		{"∅'-", "0", 4, api.ErrForm},
		{"∅'1", "\xff", 3, api.ErrForm},
	} {
		s := c.begin + strings.Repeat(c.often, many)
		if _, at, e := text.Parse(s); at != c.at || e != c.e {
			t.Errorf("Parse of %q and many %q is %d, %v, not %d, %v", c.begin, c.often, at, e, c.at, c.e)
		}
	}
	// Reading one predicate does not take as long as the text is.
	l := []rune(strings.Repeat("⊤", many))
	for at := range many {
		if p, end, e := text.Take(l, at); end != at+1 || e != api.OK || p.Kind != api.PredTruth {
			t.Fatalf("Take at %d is %v, %d, %v", at, p, end, e)
		}
	}
}
