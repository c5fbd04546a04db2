package like_test

import (
	"math"
	"slices"
	"strings"
	"testing"
	"unsafe"

	"hopper/api"
	"hopper/like"
)

// The signs that are no bytes.
const (
	one  = 256
	many = 257
)

// signsOf are signs as the words tell them, one behind the other; of an escape
// byte that ends the pattern there are none.
func signsOf(p string, esc int) (signs []int, ok bool) {
	for p != "" {
		x := int(p[0])
		p = p[1:]
		switch {
		case x == esc && p == "":
			return nil, false
		case x == esc:
			x, p = int(p[0]), p[1:]
		case x == '%':
			x = many
		case x == '_':
			x = one
		}
		signs = append(signs, x)
	}
	return signs, true
}

// matches is whether the string matches, reckoned by all the beginnings of it
// that so many signs match.
func matches(signs []int, s string) bool {
	so := make([]bool, len(s)+1)
	so[0] = true
	for _, x := range signs {
		next := make([]bool, len(s)+1)
		for k := range next {
			if x == many {
				next[k] = so[k] || k > 0 && next[k-1]
			} else {
				next[k] = k > 0 && so[k-1] && (x == one || x == int(s[k-1]))
			}
		}
		so = next
	}
	return so[len(s)]
}

// runsOf are the literals of signs, cut out of a string of runes.
func runsOf(signs []int) []string {
	var all []rune
	for _, x := range signs {
		all = append(all, rune(x))
	}
	var runs []string
	for _, field := range strings.FieldsFunc(string(all), func(r rune) bool { return r == one || r == many }) {
		var run []byte
		for _, r := range field {
			run = append(run, byte(r))
		}
		runs = append(runs, string(run))
	}
	return runs
}

// quoted is the string, quoted, as the words tell it.
func quoted(s string, esc byte) string {
	var b []byte
	for _, c := range []byte(s) {
		if slices.Contains([]byte{'%', '_', esc}, c) {
			b = append(b, esc)
		}
		b = append(b, c)
	}
	return string(b)
}

// codes are the signs that say a string's bytes.
func codes(s string) []int {
	var signs []int
	for _, c := range []byte(s) {
		signs = append(signs, int(c))
	}
	return signs
}

// joined are n bytes of a string over and over.
func joined(n int, s string) string {
	return strings.Repeat(s, n/len(s)+1)[:n]
}

// all are all lists of at most n of the items.
func all[T any](n int, items ...T) [][]T {
	l := [][]T{nil}
	from := 0
	for range n {
		to := len(l)
		for _, x := range l[from:to] {
			for _, item := range items {
				l = append(l, append(slices.Clone(x), item))
			}
		}
		from = to
	}
	return l
}

// draws answers a function that draws numbers below n, the same each time for
// one seed.
func draws(seed uint32) func(n int) int {
	return func(n int) int {
		seed = seed*1664525 + 1013904223
		return int(seed>>8) % n
	}
}

// bytes256 are all bytes, rising.
func bytes256() string {
	var b []byte
	for x := range 256 {
		b = append(b, byte(x))
	}
	return string(b)
}

// escapes are escape bytes, and none.
var escapes = []int{-1, 0, 1, '!', '%', '\\', '_', 'a', 0x7f, 0x80, 0xc3, 254, 255}

// strays are numbers that are neither a byte nor -1, some of them with the low
// bits of one.
var strays = []int{
	-2, 256, -3, 257, 256 + '!', '!' - 256, -128, 1<<16 + '!', 1<<32 - 1, 1 << 32, 1<<32 + '!', -1 << 32, -1<<32 - 1, '!' - 1<<32, math.MinInt32, math.MaxInt32, math.MinInt, math.MinInt + '!', math.MaxInt, math.MaxInt - 1,
}

// texts are strings with bytes of all sorts.
var texts = []string{
	"", "a", "b", "ab", "ba", "abc", "aa", "aaa", "!", "!!", "%", "_", "%%", "__", "%_", "_%", "!%", "!_", "%!", "_!", "a%", "%a", "a_", "_a", "a%b_c!d",
	"\x00", "\x00\x00", "\x00%", "\xff", "\xff_", "\xff\xff", "a\xffb\x00c", "\u00e4\u20ac", "\x7f\x80", "\xc3%\xa4", "\\", "\\%", "\\\\", "100%", "snake_case",
}

// parses checks the signs of a pattern.
func parses(t *testing.T, p string, esc int, want []int) {
	t.Helper()
	if signs, e := like.Parse(p, esc); e != api.OK || !slices.Equal(signs, want) {
		t.Errorf("Parse of %.40q (%d bytes), %d: %.40v, %d, not %.40v", p, len(p), esc, signs, e, want)
	}
}

// refuses checks that a pattern is none.
func refuses(t *testing.T, p string, esc int) {
	t.Helper()
	if signs, e := like.Parse(p, esc); e != api.ErrPattern || len(signs) > 0 {
		t.Errorf("Parse of %.40q (%d bytes), %d: %.40v, %d, not ErrPattern alone", p, len(p), esc, signs, e)
	}
}

// parsesAsTold checks a pattern by the words.
func parsesAsTold(t *testing.T, p string, esc int) {
	t.Helper()
	if signs, ok := signsOf(p, esc); ok {
		parses(t, p, esc, signs)
	} else {
		refuses(t, p, esc)
	}
}

// P9.1

func TestParse(t *testing.T) {
	for _, x := range []struct {
		p    string
		esc  int
		want []int
	}{
		{"", -1, nil}, {"", 0, nil}, {"", 255, nil}, {"", '%', nil}, {"", '!', nil},
		{"abc", -1, []int{'a', 'b', 'c'}},
		{"a%c", -1, []int{'a', many, 'c'}},
		{"a_c", -1, []int{'a', one, 'c'}},
		{"%", -1, []int{many}}, {"_", -1, []int{one}}, {"%%", -1, []int{many, many}}, {"_%_", -1, []int{one, many, one}},
		// no escape byte: none of the bytes is one
		{"a!%", -1, []int{'a', '!', many}}, {"\xff", -1, []int{255}}, {"a\xff", -1, []int{'a', 255}}, {"\xff%", -1, []int{255, many}}, {"\\", -1, []int{'\\'}},
		// the escape byte ahead of itself, of "%", of "_", and of any other byte
		{"!!", '!', []int{'!'}}, {"!%", '!', []int{'%'}}, {"!_", '!', []int{'_'}}, {"!a", '!', []int{'a'}}, {"!\x00", '!', []int{0}}, {"!\xff", '!', []int{255}},
		{"!!%", '!', []int{'!', many}}, {"!!!%", '!', []int{'!', '%'}}, {"!!!!", '!', []int{'!', '!'}}, {"!!!_a", '!', []int{'!', '_', 'a'}}, {"a!!", '!', []int{'a', '!'}},
		{"ab%c_d!%", '!', []int{'a', 'b', many, 'c', one, 'd', '%'}}, {"!a!b", '!', []int{'a', 'b'}}, {"%!%%", '!', []int{many, '%', many}}, {"_!__", '!', []int{one, '_', one}},
		// another escape byte
		{"a\\%", '\\', []int{'a', '%'}}, {"a\\%", '!', []int{'a', '\\', many}}, {"a!%", '\\', []int{'a', '!', many}}, {"aa", 'a', []int{'a'}}, {"aba%", 'a', []int{'b', '%'}},
		// an escape byte that is a sign, too
		{"%%", '%', []int{'%'}}, {"%_", '%', []int{'_'}}, {"%a", '%', []int{'a'}}, {"%%_", '%', []int{'%', one}}, {"_%%", '%', []int{one, '%'}}, {"%%%%", '%', []int{'%', '%'}},
		{"__", '_', []int{'_'}}, {"_%", '_', []int{'%'}}, {"_a", '_', []int{'a'}}, {"__%", '_', []int{'_', many}}, {"%__", '_', []int{many, '_'}},
		// the least and the greatest escape byte
		{"\x00%", 0, []int{'%'}}, {"\x00\x00", 0, []int{0}}, {"a\x00_%", 0, []int{'a', '_', many}}, {"\xff%", 0, []int{255, many}},
		{"\xff%", 255, []int{'%'}}, {"\xff\xff", 255, []int{255}}, {"a\xff_%", 255, []int{'a', '_', many}}, {"\x00%", 255, []int{0, many}},
		// bytes, and not points
		{"\u00e4%", -1, []int{0xc3, 0xa4, many}}, {"\u00e4_", 0xc3, []int{0xa4, one}}, {"\x80\xff\x00", -1, []int{0x80, 0xff, 0}}, {"\u20ac", '!', []int{0xe2, 0x82, 0xac}},
	} {
		parses(t, x.p, x.esc, x.want)
	}
}

func TestParseOfEachByte(t *testing.T) {
	for esc := -1; esc < 256; esc++ {
		for x := range 256 {
			c, e := string([]byte{byte(x)}), string([]byte{byte(esc)})
			for _, p := range []string{c, c + c, c + "%", c + "_", "a" + c, e + c, c + e, e + c + e, e + e + c, e + c + c} {
				parsesAsTold(t, p, esc)
			}
		}
	}
}

func TestParseRefusesAnEscapeByteThatEndsThePattern(t *testing.T) {
	for _, esc := range escapes {
		if esc < 0 {
			continue
		}
		e := string([]byte{byte(esc)})
		x := string([]byte{byte(esc) ^ 1}) // another byte
		for _, p := range []string{e, x + e, e + e + e, e + x + e, e + "%" + e, e + e + x + e, e + e + e + e + e, joined(4094, x) + e, joined(4095, x) + e, joined(4095, e)} {
			refuses(t, p, esc)
		}
		for _, p := range []string{e + e, x + e + e, e + x, e + e + e + e, joined(4094, x) + e + e, joined(4094, x) + e + x, joined(4096, e)} {
			signs, _ := signsOf(p, esc)
			parses(t, p, esc, signs)
		}
	}
}

func TestParseRefusesWhatIsNoEscapeByte(t *testing.T) {
	for _, esc := range strays {
		for _, p := range append(slices.Clone(texts), joined(4096, "a"), joined(4097, "a"), "\xfe", "\xfea", "a\xfe", "\x00a", "!a") {
			refuses(t, p, esc)
		}
	}
}

func TestParseOfTheLongestPatterns(t *testing.T) {
	for _, x := range []struct {
		p    string
		want []int
	}{
		{"a", []int{'a'}}, {"%", []int{many}}, {"_", []int{one}}, {"!a", []int{'a'}}, {"!!", []int{'!'}}, {"!%", []int{'%'}}, {"a%", []int{'a', many}}, {"\xff\x00_!_", nil},
	} {
		for _, n := range []int{api.MaxText, api.MaxText - 2} {
			p := joined(n, x.p)
			if x.want != nil {
				parses(t, p, '!', slices.Repeat(x.want, n/len(x.p)))
			}
			parsesAsTold(t, p, '!')
			parsesAsTold(t, p, -1)
		}
		for _, n := range []int{api.MaxText + 1, api.MaxText + 2, 2 * api.MaxText, 1 << 16, 1 << 20} {
			for _, esc := range escapes {
				refuses(t, joined(n, x.p), esc)
			}
		}
	}
}

func TestParseAsTheWordsSay(t *testing.T) {
	for _, p := range all(6, byte('!'), '%', '_', 'a') {
		for _, esc := range []int{-1, '!', '%', '_', 'b'} {
			parsesAsTold(t, string(p), esc)
		}
	}
	next := draws(1)
	for range 5000 {
		var p []byte
		for range next(30) {
			p = append(p, []byte{'%', '_', byte(next(256)), byte(next(4))}[next(4)])
		}
		for _, esc := range append(slices.Clone(escapes), next(256)) {
			parsesAsTold(t, string(p), esc)
		}
	}
}

// P9.2

// says checks whether a string matches.
func says(t *testing.T, signs []int, s string, want bool) {
	t.Helper()
	if got := like.Match(signs, s); got != want {
		t.Errorf("Match of %.60v (%d), %.60q (%d) is %t", signs, len(signs), s, len(s), got)
	}
}

func TestMatch(t *testing.T) {
	for _, x := range []struct {
		signs      []int
		yes, never []string
	}{
		{nil, []string{""}, []string{"a", "\x00", "abc", "%"}},
		{[]int{'a'}, []string{"a"}, []string{"", "b", "A", "aa", "ab", "ba"}},
		{[]int{'a', 'b', 'c'}, []string{"abc"}, []string{"", "a", "ab", "abd", "bbc", "acc", "abcd", "abcc", "xabc"}},
		{[]int{0}, []string{"\x00"}, []string{"", "0", "\x00\x00", "\x01", "\xff"}},
		{[]int{255}, []string{"\xff"}, []string{"", "\xfe", "\xff\xff", "\x00", "\u00ff"}},
		{[]int{0, 255, 0}, []string{"\x00\xff\x00"}, []string{"\x00\xff", "\x00\xff\xff", "\xff\x00\xff", "\x00\x00"}},
		{[]int{'%'}, []string{"%"}, []string{"", "a", "%%"}},
		{[]int{'_'}, []string{"_"}, []string{"", "a", "__"}},
		{[]int{one}, []string{"a", "%", "_", "\x00", "\xff"}, []string{"", "ab", "\u00e4"}},
		{[]int{one, one}, []string{"ab", "\u00e4"}, []string{"", "a", "abc"}},
		{[]int{many}, []string{"", "a", "ab", "\x00\xff", "abcabc"}, nil},
		{[]int{many, many}, []string{"", "a", "ab", "abc"}, nil},
		{[]int{many, many, many, many}, []string{"", "a", "abcabc"}, nil},
		{[]int{one, many}, []string{"a", "ab", "abc"}, []string{""}},
		{[]int{many, one}, []string{"a", "ab", "abc"}, []string{""}},
		{[]int{one, many, one}, []string{"ab", "abc", "abcd"}, []string{"", "a"}},
		{[]int{many, one, many}, []string{"a", "ab", "abc"}, []string{""}},
		{[]int{many, one, many, one, many}, []string{"ab", "abc"}, []string{"", "a"}},
		// at the beginning, at the end, and between
		{[]int{many, 'a'}, []string{"a", "ba", "aa", "aba"}, []string{"", "b", "ab", "aab"}},
		{[]int{'a', many}, []string{"a", "ab", "aa", "abc"}, []string{"", "b", "ba"}},
		{[]int{'a', many, 'c'}, []string{"ac", "abc", "acc", "abcbc", "aac"}, []string{"", "a", "c", "ca", "ab", "acb", "bac"}},
		{[]int{one, 'a'}, []string{"aa", "ba"}, []string{"", "a", "ab", "bba"}},
		{[]int{'a', one}, []string{"aa", "ab"}, []string{"", "a", "ba", "abb"}},
		{[]int{'a', one, 'c'}, []string{"abc", "acc", "aac", "a\xffc"}, []string{"", "ac", "abbc", "abb", "bbc", "abcd"}},
		{[]int{many, 'a', many}, []string{"a", "ba", "ab", "bab", "aa"}, []string{"", "b", "bb"}},
		{[]int{many, 'a', 'b', many}, []string{"ab", "aab", "abb", "xaxabx"}, []string{"", "a", "ba", "axb"}},
		// each takes bytes of its own
		{[]int{'a', many, 'a'}, []string{"aa", "aba", "aaa"}, []string{"a", "", "ab", "aab"}},
		{[]int{many, 'a', 'b', many, 'a', 'b'}, []string{"abab", "xabxab", "ababab"}, []string{"aab", "ab", "abb", "aba"}},
		{[]int{many, 'a', 'b', many, 'b', 'a', many}, []string{"abba", "xabxbax"}, []string{"aba", "bab", "baab"}},
		{[]int{'a', 'b', many, 'b', 'c'}, []string{"abbc", "abxbc"}, []string{"abc", "ab", "bc"}},
		// back, once and more often
		{[]int{many, 'a', 'a', 'b'}, []string{"aab", "aaab", "aaaab", "abaab"}, []string{"ab", "aaba", "aabab", "aaaa"}},
		{[]int{many, 'a', 'b', 'c'}, []string{"abc", "ababc", "abababc", "abcabc"}, []string{"ab", "ababab", "abcab"}},
		{[]int{many, 'a', one, 'b'}, []string{"aab", "aaab", "axaxb", "abb"}, []string{"ab", "axxb", "aaa"}},
		{[]int{'a', many, 'b', many, 'c'}, []string{"abc", "axxbxxbc", "abbcc", "abcbc"}, []string{"ac", "acb", "axxc", "abcb"}},
		{[]int{many, one, 'b'}, []string{"xb", "bb", "xxb", "bbb"}, []string{"b", "", "bx"}},
		{[]int{many, 'a', many, 'a', 'b', many, 'b'}, []string{"aabb", "aaabb", "aababb", "xaxabxb"}, []string{"abb", "aab", "aabba"}},
		{[]int{many, 'n', 'a', 'n', 'a'}, []string{"banana", "nanana"}, []string{"bananas", "nan", "ananab"}},
		{[]int{'m', many, 'i', 's', 's', many, 'i', 'p', one}, []string{"mississipp", "missip\xff"}, []string{"mississippi", "misip_", "mississip"}},
	} {
		for _, s := range x.yes {
			says(t, x.signs, s, true)
		}
		for _, s := range x.never {
			says(t, x.signs, s, false)
		}
	}
}

func TestMatchOfEachByte(t *testing.T) {
	for x := range 256 {
		for y := range 256 {
			s := string([]byte{byte(y)})
			says(t, []int{x}, s, x == y)
			says(t, []int{x, one}, s+"a", x == y)
			says(t, []int{many, x}, "a"+s, x == y)
			says(t, []int{x, many}, s+"a", x == y)
		}
		s := string([]byte{byte(x)})
		for _, signs := range [][]int{{one}, {many}, {x, many}, {many, x}, {many, x, many}, {many, one, many}} {
			says(t, signs, s, true)
		}
		says(t, []int{one, one}, s, false)
		says(t, nil, s, false)
	}
}

func TestMatchAsTheWordsSay(t *testing.T) {
	strs := all(6, byte('a'), 'b')
	for _, signs := range all[int](5, 'a', 'b', one, many) {
		for _, s := range strs {
			says(t, signs, string(s), matches(signs, string(s)))
		}
	}
}

// drawnSigns are signs of few bytes, half of them of the kinds that are none.
func drawnSigns(next func(int) int, most int) []int {
	var signs []int
	for range next(most) {
		signs = append(signs, []int{'a', 'b', 0, 255, one, many, many, 'a'}[next(8)])
	}
	return signs
}

// fitting is a string that the signs match.
func fitting(next func(int) int, signs []int) string {
	var b []byte
	for _, x := range signs {
		switch x {
		case one:
			b = append(b, byte(next(256)))
		case many:
			for range next(6) {
				b = append(b, "ab\x00\xff"[next(4)])
			}
		default:
			b = append(b, byte(x))
		}
	}
	return string(b)
}

// alike are a string, and some that aren't unlike it but for a byte.
func alike(next func(int) int, s string) []string {
	l := []string{s, s + "a", "a" + s}
	if s != "" {
		k, b := next(len(s)), []byte(s)
		b[k] ^= 1
		l = append(l, s[1:], s[:len(s)-1], string(b), s[:k]+s[k+1:], s[:k]+"b"+s[k:])
	}
	return l
}

func TestMatchOfDrawnSigns(t *testing.T) {
	next := draws(2)
	for range 20000 {
		signs := drawnSigns(next, 24)
		for i, s := range alike(next, fitting(next, signs)) {
			want := matches(signs, s)
			if i == 0 && !want {
				t.Fatalf("%v, %q: the test is wrong", signs, s)
			}
			says(t, signs, s, want)
		}
	}
}

func TestMatchOfLongStrings(t *testing.T) {
	next := draws(3)
	as, abs := joined(4096, "a"), joined(4096, "ab")
	for _, x := range []struct {
		p string
		s string
	}{
		{as, as}, {as, as[1:]}, {as[1:], as}, {as[1:] + "b", as}, {as, as[1:] + "b"}, {as[1:] + "_", as}, {as[1:] + "%", as}, {as, as[1:] + "\x00"},
		{"%" + as[1:], as}, {"%" + as[1:], as[1:]}, {"%" + as[1:], as[2:]}, {"%" + as[:2000] + "b", as}, {"%" + as[:2000] + "b", as[1:] + "b"}, {as[:2000] + "%", as}, {as[:2000] + "%" + as[:2000], as}, {as[:2000] + "%" + as[:2000], as[:3999]}, {as[:2000] + "%" + as[:2000], as[:4000]},
		{joined(4096, "%"), as}, {joined(4096, "%"), ""}, {joined(4096, "_"), as}, {joined(4095, "_"), as}, {joined(4096, "_"), as[1:]},
		{joined(4096, "%a"), as}, {joined(4096, "%a"), as[:2048]}, {joined(4096, "%a"), as[:2047]}, {joined(4095, "%a") + "b", as}, {joined(4094, "%a") + "%b", as}, {joined(4094, "%a") + "%b", as[1:] + "b"},
		{joined(4096, "_%"), as}, {joined(4096, "_%"), as[:2048]}, {joined(4096, "_%"), as[:2047]},
		{joined(4096, "%ab"), abs}, {joined(4095, "%ab"), abs}, {joined(4095, "%ab"), joined(2730, "ab")}, {joined(4095, "%ab"), joined(2729, "ab")}, {joined(4095, "%ba"), joined(2730, "ab")}, {joined(4095, "%ba"), joined(2732, "ab")},
		{"%a%a%a%a%a%a%a%a%a%a%a%a%a%a%a%a%b", as}, {"%a%a%a%a%a%a%a%a%a%a%a%a%a%a%a%a%b%", as[:4000] + "b" + as[:95]}, {"%aab%aab%aab%", as}, {"%_a_%_a_%_a_%b", as},
		{"%" + joined(1000, "ab") + "%" + joined(1000, "ab") + "c%", abs}, {"%" + joined(1000, "ab") + "%" + joined(1000, "ab") + "c%", abs[:4000] + "c"},
	} {
		signs, e := like.Parse(x.p, -1)
		if e != api.OK {
			t.Fatal(len(x.p), e)
		}
		says(t, signs, x.s, matches(signs, x.s))
	}
	for range 20 {
		signs := drawnSigns(next, 600)
		for _, s := range alike(next, fitting(next, signs)) {
			says(t, signs, s, matches(signs, s))
		}
	}
}

// P9.3

// hasRuns checks the runs of signs.
func hasRuns(t *testing.T, signs []int, want []string) {
	t.Helper()
	if runs := like.Runs(signs); !slices.Equal(runs, want) {
		t.Errorf("Runs of %.60v: %.60q, not %.60q", signs, runs, want)
	}
}

func TestRuns(t *testing.T) {
	for _, x := range []struct {
		signs []int
		want  []string
	}{
		{nil, nil}, {[]int{}, nil},
		// no literals
		{[]int{one}, nil}, {[]int{many}, nil}, {[]int{one, many, many, one, one}, nil},
		// literals alone
		{[]int{'a'}, []string{"a"}}, {[]int{'a', 'b', 'c'}, []string{"abc"}}, {[]int{0}, []string{"\x00"}}, {[]int{255}, []string{"\xff"}}, {[]int{0, 255, 0x80, '%', '_'}, []string{"\x00\xff\x80%_"}},
		{codes(joined(4096, "a\xff")), []string{joined(4096, "a\xff")}}, {codes(bytes256()), []string{bytes256()}},
		// at the beginning, at the end, at both, and between
		{[]int{'a', 'b', many}, []string{"ab"}}, {[]int{'a', 'b', one}, []string{"ab"}}, {[]int{many, 'a', 'b'}, []string{"ab"}}, {[]int{one, 'a', 'b'}, []string{"ab"}},
		{[]int{'a', many, 'b'}, []string{"a", "b"}}, {[]int{'a', one, 'b'}, []string{"a", "b"}}, {[]int{many, 'a', 'b', many}, []string{"ab"}}, {[]int{one, 'a', one}, []string{"a"}},
		// several between
		{[]int{'a', many, many, 'b'}, []string{"a", "b"}}, {[]int{'a', one, one, one, 'b'}, []string{"a", "b"}}, {[]int{'a', one, many, one, 'b', many, one, 'c', 'd'}, []string{"a", "b", "cd"}},
		{[]int{many, one, many, 'a', one, many, 'b', many, many}, []string{"a", "b"}}, {[]int{one, one, 255, 0, many, many, 0, 255, one, one}, []string{"\xff\x00", "\x00\xff"}},
		// alike ones
		{[]int{'a', many, 'a', one, 'a', 'a'}, []string{"a", "a", "aa"}},
		{[]int{'a', 'b', many, 'c', one, 'd', '%'}, []string{"ab", "c", "d%"}},
	} {
		hasRuns(t, x.signs, x.want)
	}
}

func TestRunsOfEachByte(t *testing.T) {
	for x := range 256 {
		s := string([]byte{byte(x)})
		hasRuns(t, []int{x}, []string{s})
		hasRuns(t, []int{x, many, x, x, one}, []string{s, s + s})
		hasRuns(t, []int{one, x, x, x, many, many, x}, []string{s + s + s, s})
	}
}

func TestRunsAsTheWordsSay(t *testing.T) {
	for _, signs := range all(6, 0, 255, one, many) {
		hasRuns(t, signs, runsOf(signs))
	}
	next := draws(4)
	for range 5000 {
		var signs []int
		for range next(60) {
			signs = append(signs, []int{next(256), next(258), one, many}[next(4)])
		}
		hasRuns(t, signs, runsOf(signs))
	}
}

// quotes checks a string, quoted.
func quotes(t *testing.T, s string, esc int, want string) {
	t.Helper()
	if q := like.Quote(s, esc); q != want {
		t.Errorf("Quote of %.60q, %d: %.60q, not %.60q", s, esc, q, want)
	}
}

func TestQuote(t *testing.T) {
	for _, x := range []struct {
		s    string
		esc  int
		want string
	}{
		{"", '!', ""}, {"", 0, ""}, {"", 255, ""}, {"", '%', ""}, {"", '_', ""},
		{"abc", '!', "abc"}, {"%", '!', "!%"}, {"_", '!', "!_"}, {"!", '!', "!!"}, {"a%b_c!d", '!', "a!%b!_c!!d"}, {"%_!", '!', "!%!_!!"}, {"!%", '!', "!!!%"}, {"%%", '!', "!%!%"}, {"!!", '!', "!!!!"},
		{"a!", '\\', "a!"}, {"\\a%", '\\', "\\\\a\\%"}, {"banana", 'a', "baanaanaa"}, {"a%", 'a', "aaa%"},
		{"%", '%', "%%"}, {"_", '%', "%_"}, {"!", '%', "!"}, {"a%b_c", '%', "a%%b%_c"},
		{"%", '_', "_%"}, {"_", '_', "__"}, {"!", '_', "!"}, {"a%b_c", '_', "a_%b__c"},
		{"\x00", 0, "\x00\x00"}, {"%_", 0, "\x00%\x00_"}, {"\xff0", 0, "\xff0"},
		{"\xff", 255, "\xff\xff"}, {"%_", 255, "\xff%\xff_"}, {"\x00a", 255, "\x00a"},
		{"\u00e4", 0xc3, "\xc3\xc3\xa4"}, {"\u00e4", 0xa4, "\xc3\xa4\xa4"}, {"\u00e4", 0xe4, "\u00e4"},
	} {
		quotes(t, x.s, x.esc, x.want)
	}
}

func TestQuoteOfEachByte(t *testing.T) {
	for esc := range 256 {
		for x := range 256 {
			s := string([]byte{byte(x)})
			for _, s := range []string{s, s + s, "a" + s + "%"} {
				quotes(t, s, esc, quoted(s, byte(esc)))
			}
		}
		quotes(t, bytes256(), esc, quoted(bytes256(), byte(esc)))
	}
}

func TestQuoteOfLongStrings(t *testing.T) {
	for _, s := range []string{"a", "%", "_", "!", "\x00", "\xff", "a%b_c!d"} {
		for _, n := range []int{4095, 4096, 100000} {
			for _, esc := range escapes[1:] {
				quotes(t, joined(n, s), esc, quoted(joined(n, s), byte(esc)))
			}
		}
	}
}

// P9.4

func TestWhatIsQuotedMatchesItselfAlone(t *testing.T) {
	next := draws(5)
	for _, esc := range escapes[1:] {
		e := string([]byte{byte(esc)})
		l := append(slices.Clone(texts), e, e+e, e+"a", "a"+e, "%"+e, e+"_", bytes256())
		for range 20 {
			var b []byte
			for range next(9) {
				b = append(b, []byte{'%', '_', byte(esc), byte(next(256))}[next(4)])
			}
			l = append(l, string(b))
		}
		for _, s := range l {
			signs, e := like.Parse(like.Quote(s, esc), esc)
			if e != api.OK || !slices.Equal(signs, codes(s)) {
				t.Errorf("%q, quoted by %d, means %v, %d", s, esc, signs, e)
			}
			for _, other := range append(alike(next, s), l...) {
				says(t, signs, other, other == s)
			}
		}
	}
}

func TestTheLongestQuotedMatchesItselfAlone(t *testing.T) {
	next := draws(6)
	for _, s := range []string{joined(4096, "ab"), joined(2048, "%"), joined(2048, "_"), joined(2048, "!"), joined(2730, "a%"), joined(2730, "\x00_"), joined(2730, "!\xff")} {
		signs, e := like.Parse(like.Quote(s, '!'), '!')
		if e != api.OK {
			t.Fatal(len(s), e)
		}
		for _, other := range alike(next, s) {
			says(t, signs, other, other == s)
		}
	}
}

// inOrder says whether a string has the runs in order, apart.
func inOrder(s string, runs []string) bool {
	for _, run := range runs {
		_, rest, ok := strings.Cut(s, run)
		if !ok {
			return false
		}
		s = rest
	}
	return true
}

func TestWhatMatchesHasTheRuns(t *testing.T) {
	count := 0
	check := func(signs []int, s string) {
		if !like.Match(signs, s) {
			return
		}
		count++
		if runs := like.Runs(signs); !inOrder(s, runs) {
			t.Errorf("%v match %q, which hasn't %q", signs, s, runs)
		}
	}
	strs := all(6, byte('a'), 'b')
	for _, signs := range all[int](5, 'a', 'b', one, many) {
		for _, s := range strs {
			check(signs, string(s))
		}
	}
	next := draws(7)
	for range 5000 {
		signs := drawnSigns(next, 40)
		for _, s := range alike(next, fitting(next, signs)) {
			check(signs, s)
		}
	}
	if count < 20000 {
		t.Errorf("but %d matched", count)
	}
}

// P9.5

// apart checks that two strings have no byte where both have it.
func apart(t *testing.T, what, a, b string) {
	t.Helper()
	if a == "" || b == "" {
		return
	}
	at, from := uintptr(unsafe.Pointer(unsafe.StringData(a))), uintptr(unsafe.Pointer(unsafe.StringData(b)))
	if at < from+uintptr(len(b)) && from < at+uintptr(len(a)) {
		t.Errorf("%s: %.40q and %.40q have the same memory", what, a, b)
	}
}

func TestSignsAreNewMemory(t *testing.T) {
	for _, p := range append(slices.Clone(texts), joined(4096, "a%b_")) {
		want, _ := signsOf(p, -1)
		first, _ := like.Parse(p, -1)
		second, _ := like.Parse(p, -1)
		clear(first[:cap(first)])
		third, _ := like.Parse(p, -1)
		if !slices.Equal(second, want) || !slices.Equal(third, want) {
			t.Errorf("signs of %.40q, once others are cleared: %.40v, %.40v", p, second, third)
		}
	}
}

func TestRunsAreNewMemory(t *testing.T) {
	for _, p := range []string{"ab", "abcdefghijkl%mnopqrstuvwxyz_0123456789", "ab%ab%ab", "%aa_aa%", joined(4096, "a long run, and another%")} {
		signs, _ := like.Parse(p, -1)
		want := runsOf(signs)
		runs, again := like.Runs(signs), like.Runs(signs)
		for i, run := range runs {
			for _, other := range slices.Concat(runs[i+1:], again) {
				apart(t, "Runs", run, other)
			}
		}
		clear(again[:cap(again)])
		clear(signs)
		if !slices.Equal(runs, want) {
			t.Errorf("runs of %.40q, once others and the signs are cleared: %.40q", p, runs)
		}
	}
}

func TestQuotedIsNewMemory(t *testing.T) {
	for _, s := range append(slices.Clone(texts), "nothing to be quoted here", joined(4096, "a%b_"), joined(4096, "a")) {
		s = strings.Clone(s)
		q, again := like.Quote(s, '!'), like.Quote(s, '!')
		apart(t, "Quote", q, s)
		apart(t, "Quote", q, again)
	}
}

func TestSignsStay(t *testing.T) {
	next := draws(8)
	for range 2000 {
		signs := drawnSigns(next, 30)
		room := append(slices.Clone(signs), 'x', 'y')
		handed := room[:len(signs)]
		for _, s := range alike(next, fitting(next, signs)) {
			like.Match(handed, s)
		}
		like.Runs(handed)
		if !slices.Equal(room, append(slices.Clone(signs), 'x', 'y')) {
			t.Errorf("%v became %v", signs, room)
		}
	}
}

// P1

func TestWhateverNumbersEnd(t *testing.T) {
	for _, x := range append(slices.Clone(strays), -1, 258) {
		for _, signs := range [][]int{{x}, {x, x}, {'a', x}, {x, 'a'}, {many, x}, {x, many}, {many, x, many, x, 'a'}, {one, x, one}, strays} {
			for _, s := range texts {
				like.Match(signs, s)
			}
			like.Runs(signs)
		}
		for _, s := range texts {
			like.Quote(s, x)
		}
	}
}

func TestLongOnesEnd(t *testing.T) {
	s := joined(1<<20, "ab\x00\xff%_")
	signs := codes(s)
	says(t, signs, s, true)
	says(t, signs, s[1:], false)
	says(t, append(signs, many), s, true)
	says(t, slices.Repeat([]int{many}, 1<<20), s, true)
	says(t, slices.Repeat([]int{many, one}, 1<<20), s, true)
	says(t, slices.Repeat([]int{many, one}, 1<<20+1), s, false)
	hasRuns(t, signs, []string{s})
	hasRuns(t, slices.Repeat([]int{many, one}, 1<<20), nil)
	hasRuns(t, slices.Repeat([]int{'a', one}, 1<<18), slices.Repeat([]string{"a"}, 1<<18))
	quotes(t, s, '!', quoted(s, '!'))
}
