package need_test

import (
	"slices"
	"strings"
	"testing"

	"hopper/api"
	"hopper/need"
)

// says checks what a predicate says of a row, by what is wanted and by the
// words.
func says(t *testing.T, p api.Pred, row []api.Val, want int) {
	t.Helper()
	if !rightOf(p, len(row)) {
		t.Fatalf("%s isn't right for %d columns", told(p), len(row))
	}
	if words := saysOf(p, row); words != want {
		t.Fatalf("Says of %s, %s: the words say %d, not %d", told(p), toldRow(row), words, want)
	}
	if got := need.Says(p, row); got != want {
		t.Errorf("Says of %s, %s is %d, not %d", told(p), toldRow(row), got, want)
	}
}

// saysAsTold checks what a predicate says of a row, by the words.
func saysAsTold(t *testing.T, p api.Pred, row []api.Val) int {
	t.Helper()
	want := saysOf(p, row)
	says(t, p, row, want)
	return want
}

// yesOrNo is what is said of what is so or not.
func yesOrNo(so bool) int {
	if so {
		return api.Yes
	}
	return api.No
}

// texts are strings of all sorts.
var texts = []string{
	"", "a", "A", "b", "B", "ab", "aB", "AB", "Ab", "abc", "ABC", "aa", "ba", "z", "Z", "zz", "@", "[", "_", "`", "{", "%", "!", "0", "\x00", "\x00\x00", "a\x00", "\x7f", "\x80", "\x80\x80", "\xbf", "\xc0", "\xc3", "\xc3\xa4", "\xc3\x84", "a\xc3", "\xe2\x82\xac", "\xe2\x82", "\xef\xbf\xbd", "\xef\xbf\xbf",
	"\xf0\x90\x80\x80", "\xf4\x8f\xbf\xbf", "\xf4\x90\x80\x80", "\xed\xa0\x80", "\xff", "\xff\xff", "a\xff", "A\xff", "aa\xff", strings.Repeat("a", 4095), strings.Repeat("a", 4096), strings.Repeat("a", 4095) + "b", strings.Repeat("A", 4096),
}

// P16.1, Says

func TestSaysOfEachKind(t *testing.T) {
	row := vals("abc")
	for _, x := range []struct {
		kind       int
		yes, never []string
	}{
		{api.PredEq, []string{"abc"}, []string{"", "a", "ab", "abd", "abcd", "ABC", "abb", "xabc"}},
		{api.PredNe, []string{"", "a", "ab", "abd", "abcd", "ABC", "abb"}, []string{"abc"}},
		{api.PredLt, []string{"abd", "abcd", "b", "ac", "abc\x00", "\xff"}, []string{"abc", "", "a", "ab", "abb", "ABC", "abbz"}},
		{api.PredLe, []string{"abd", "abcd", "b", "ac", "abc\x00", "abc"}, []string{"", "a", "ab", "abb", "ABC", "abbz"}},
		{api.PredGt, []string{"", "a", "ab", "abb", "ABC", "abbz", "\x00"}, []string{"abc", "abd", "abcd", "b", "abc\x00"}},
		{api.PredGe, []string{"", "a", "ab", "abb", "ABC", "abbz", "abc"}, []string{"abd", "abcd", "b", "abc\x00"}},
		{api.PredPrefix, []string{"", "a", "ab", "abc"}, []string{"b", "bc", "c", "abcd", "A", "abd", "abcabc", "ac"}},
		{api.PredSuffix, []string{"", "c", "bc", "abc"}, []string{"a", "ab", "b", "xabc", "C", "ac", "abcabc"}},
		{api.PredHas, []string{"", "a", "b", "c", "ab", "bc", "abc"}, []string{"ac", "ba", "abcd", "xabc", "B", "cb", "abcabc", "\x00"}},
		{api.PredLike, []string{"abc", "%", "a%", "%c", "%b%", "a_c", "___", "a%c", "%abc%", "_%_"}, []string{"", "ab", "a", "a%b", "____", "_", "b%", "ABC", "abc_", "%a"}},
		{api.PredNull, nil, []string{""}},
	} {
		for _, s := range x.yes {
			says(t, asked(x.kind, 0, s), row, api.Yes)
			says(t, not(asked(x.kind, 0, s)), row, api.No)
		}
		for _, s := range x.never {
			says(t, asked(x.kind, 0, s), row, api.No)
			says(t, not(asked(x.kind, 0, s)), row, api.Yes)
		}
	}
}

func TestSaysOfNone(t *testing.T) {
	for _, s := range []string{"", "a", "%", "\x00", "\xff", strings.Repeat("a", 4096)} {
		for kind := api.PredEq; kind <= api.PredLike; kind++ {
			says(t, asked(kind, 0, s), []api.Val{none}, api.Unknown)
			says(t, not(asked(kind, 0, s)), []api.Val{none}, api.Unknown)
			for coll := range 3 {
				if comparesOf(kind) {
					says(t, by(kind, coll, s), []api.Val{none}, api.Unknown)
				}
			}
		}
		says(t, asked(api.PredNull, 0, ""), vals(s), api.No)
		says(t, not(asked(api.PredNull, 0, "")), vals(s), api.Yes)
	}
	says(t, asked(api.PredNull, 0, ""), []api.Val{none}, api.Yes)
	says(t, not(asked(api.PredNull, 0, "")), []api.Val{none}, api.No)
}

// The empty string is there, and is itself.
func TestSaysOfTheEmptyString(t *testing.T) {
	for kind := api.PredEq; kind <= api.PredNull; kind++ {
		for _, s := range []string{"", "a", "%", "_"} {
			if kind == api.PredNull && s != "" {
				continue
			}
			empty := s == ""
			want := map[int]bool{1: empty, 2: !empty, 3: !empty, 4: true, 6: empty, 7: empty, 8: empty, 9: empty, 10: empty || s == "%"}[kind]
			says(t, asked(kind, 0, s), vals(""), yesOrNo(want))
		}
	}
}

// Each of several columns, some of which aren't there.
func TestSaysOfColumns(t *testing.T) {
	row := []api.Val{val("a"), none, val("b"), val(""), val("a"), none, val("A"), val("h")}
	for col, v := range row {
		for kind := api.PredEq; kind <= api.PredNull; kind++ {
			for _, s := range []string{"a", "b", ""} {
				p := asked(kind, col, s)
				saysAsTold(t, p, row)
				says(t, p, row, need.Says(asked(kind, 0, s), []api.Val{v}))
			}
		}
		if !v.Null {
			says(t, asked(api.PredEq, col, v.S), row, api.Yes)
		}
	}
	says(t, and(asked(api.PredEq, 0, "a"), asked(api.PredNull, 1, ""), asked(api.PredEq, 2, "b"), asked(api.PredEq, 7, "h")), row, api.Yes)
	says(t, or(asked(api.PredEq, 2, "a"), asked(api.PredNull, 0, ""), asked(api.PredEq, 4, "b")), row, api.No)
	says(t, or(asked(api.PredEq, 2, "a"), asked(api.PredEq, 1, "a"), asked(api.PredEq, 4, "b")), row, api.Unknown)
}

// what each kind says of a value that is less than S, alike, or greater.
var orders = map[int][3]int{
	api.PredEq: {0, 1, 0}, api.PredNe: {1, 0, 1}, api.PredLt: {1, 0, 0}, api.PredLe: {1, 1, 0}, api.PredGt: {0, 0, 1}, api.PredGe: {0, 1, 1},
}

// ordered checks how a and b compare, in both orders, by each kind.
func ordered(t *testing.T, a, b string, coll, want int) {
	t.Helper()
	for kind, wants := range orders {
		says(t, by(kind, coll, b), vals(a), wants[1+want])
		says(t, by(kind, coll, a), vals(b), wants[1-want])
	}
}

func TestSaysHowStringsCompare(t *testing.T) {
	for _, x := range []struct {
		a, b                string
		bytes, fold, points int
	}{
		{"", "", 0, 0, 0}, {"", "a", -1, -1, -1}, {"a", "ab", -1, -1, -1}, {"ab", "b", -1, -1, -1}, {"abc", "abc", 0, 0, 0},
		// letters of both cases
		{"a", "A", 1, 0, 1}, {"aBc", "AbC", 1, 0, 1}, {"B", "a", -1, 1, -1}, {"A", "b", -1, -1, -1}, {"Z", "z", -1, 0, -1}, {"ZZ", "zz\x00", -1, -1, -1}, {"AB", "aa", -1, 1, -1},
		// what stands beside the letters
		{"Z", "_", -1, 1, -1}, {"@", "A", -1, -1, -1}, {"[", "A", 1, -1, 1}, {"[", "{", -1, -1, -1}, {"@", "`", -1, -1, -1}, {"^", "~", -1, -1, -1},
		// letters of other scripts aren't folded
		{"\u00c4", "\u00e4", -1, -1, -1}, {"\u00c4A", "\u00c4a", -1, 0, -1}, {"\u212a", "k", 1, 1, 1},
		// points of one to four bytes
		{"\x7f", "\u0080", -1, -1, -1}, {"\u07ff", "\u0800", -1, -1, -1}, {"\uffff", "\U00010000", -1, -1, -1}, {"\u00e4", "\u20ac", -1, -1, -1}, {"\U0010ffff", "\U00010000", 1, 1, 1},
		// bytes that are no point stand behind all points
		{"\x80", "\u00e4", -1, -1, 1}, {"\x80", "\U0010ffff", -1, -1, 1}, {"\x80", "a", 1, 1, 1}, {"\xff", "\U0010ffff", 1, 1, 1}, {"\x80", "\xff", -1, -1, -1}, {"\x80", "\x80", 0, 0, 0},
		{"\xc3", "\u00e4", -1, -1, 1}, {"\xc3", "\xc3\xff", -1, -1, -1}, {"\xe2\x82", "\u20ac", -1, -1, 1}, {"a\xc3", "a\u00c3", -1, -1, 1}, {"\xed\xa0\x80", "\uffff", -1, -1, 1}, {"\xc0\x80", "\xe2\x82\xac", -1, -1, 1}, {"\xf4\x90\x80\x80", "\U0010ffff", 1, 1, 1},
		{"\ufffd", "\xff", -1, -1, -1}, {"\ufffd", "\x80", 1, 1, -1}, {"a\x80", "A\u00e4", 1, -1, 1}, {"\u00e4\x80", "\u00e4\u00e4", -1, -1, 1},
	} {
		ordered(t, x.a, x.b, api.CollBytes, x.bytes)
		ordered(t, x.a, x.b, api.CollFold, x.fold)
		ordered(t, x.a, x.b, api.CollPoints, x.points)
	}
}

func TestSaysHowEachTwoTextsCompare(t *testing.T) {
	for _, a := range texts {
		for _, b := range texts {
			for coll := range 3 {
				ordered(t, a, b, coll, comparedOf(a, b, coll))
			}
		}
	}
	for x := range 256 {
		for y := range 256 {
			a, b := string([]byte{byte(x)}), string([]byte{byte(y)})
			for coll := range 3 {
				saysAsTold(t, by(api.PredEq, coll, a), vals(b))
				saysAsTold(t, by(api.PredLt, coll, a), vals(b))
			}
		}
	}
}

// Prefix, Suffix and Has go by bytes, whatever these are.
func TestSaysOfParts(t *testing.T) {
	for _, s := range texts {
		row := vals(s)
		for _, kind := range []int{api.PredPrefix, api.PredSuffix, api.PredHas} {
			says(t, asked(kind, 0, ""), row, api.Yes)
			says(t, asked(kind, 0, s), row, api.Yes)
			if len(s) < api.MaxText {
				says(t, asked(kind, 0, s+"a"), row, api.No)
				says(t, asked(kind, 0, "a"+s), row, api.No)
				says(t, asked(kind, 0, s+"\x00"), row, api.No)
			}
			for _, part := range texts {
				saysAsTold(t, asked(kind, 0, part), row)
			}
		}
		for n := range min(len(s), 12) {
			says(t, asked(api.PredPrefix, 0, s[:n]), row, api.Yes)
			says(t, asked(api.PredSuffix, 0, s[n:]), row, api.Yes)
			says(t, asked(api.PredHas, 0, s[n/2:n]), row, api.Yes)
		}
	}
	for _, x := range []struct {
		s, part             string
		prefix, suffix, has bool
	}{
		{"banana", "ana", false, true, true}, {"banana", "ban", true, false, true}, {"banana", "nan", false, false, true}, {"banana", "nab", false, false, false}, {"banana", "na", false, true, true}, {"banana", "anan", false, false, true}, {"banana", "ananan", false, false, false},
		{"aab", "ab", false, true, true}, {"aba", "a", true, true, true}, {"ab", "ba", false, false, false}, {"Ab", "a", false, false, false}, {"\u00e4", "\xc3", true, false, true}, {"\u00e4", "\xa4", false, true, true}, {"a%b_c", "%", false, false, true}, {"abc", "a%", false, false, false}, {"abc", "_", false, false, false}, {"a\x00b", "\x00", false, false, true},
	} {
		says(t, asked(api.PredPrefix, 0, x.part), vals(x.s), yesOrNo(x.prefix))
		says(t, asked(api.PredSuffix, 0, x.part), vals(x.s), yesOrNo(x.suffix))
		says(t, asked(api.PredHas, 0, x.part), vals(x.s), yesOrNo(x.has))
	}
}

func TestSaysOfPatterns(t *testing.T) {
	for _, x := range []struct {
		s          string
		esc        int
		yes, never []string
	}{
		{"", -1, []string{""}, []string{"a", "%"}},
		{"abc", -1, []string{"abc"}, []string{"", "ab", "abcd", "ABC", "aabc"}},
		{"a%c", -1, []string{"ac", "abc", "acc", "a%c", "a\xffc"}, []string{"", "a", "c", "abcd", "xac", "Ac"}},
		{"a_c", -1, []string{"abc", "a_c", "a\xffc"}, []string{"ac", "abbc", "abd"}},
		{"%", -1, []string{"", "a", "abc", "\x00\xff"}, nil},
		{"_", -1, []string{"a", "_", "\xff"}, []string{"", "ab", "\u00e4"}},
		{"__", -1, []string{"ab", "\u00e4"}, []string{"a", "abc"}},
		{"%na%", -1, []string{"banana", "na"}, []string{"nba", "", "n"}},
		{"%ana", -1, []string{"banana", "ana"}, []string{"anan", "bananas"}},
		{"a!", -1, []string{"a!"}, []string{"a", "a!!"}},
		{"_b!c", '!', []string{"Abc", "bbc"}, []string{"bc", "Ab!c", "Abd"}},
		{"100!%", '!', []string{"100%"}, []string{"100", "100!%", "1000", "100!"}},
		{"!%!_!!", '!', []string{"%_!"}, []string{"", "a_!", "%a!", "%_", "!%!_!!"}},
		{"!%%", '!', []string{"%", "%%", "%abc"}, []string{"", "a", "a%"}},
		{"a\x00%b%", 0, []string{"a%b", "a%bcd"}, []string{"a\x00b", "axb", "ab"}},
		{"\xff_\xff\xff_", 255, []string{"_\xffa", "_\xff_"}, []string{"a\xffa", "_\xff", "__a"}},
		{"%%", '%', []string{"%"}, []string{"", "a", "%%"}},
		{"__", '_', []string{"_"}, []string{"", "a", "__"}},
	} {
		for _, s := range x.yes {
			says(t, like(x.s, x.esc), vals(s), api.Yes)
		}
		for _, s := range x.never {
			says(t, like(x.s, x.esc), vals(s), api.No)
		}
	}
	long := strings.Repeat("a", 4095)
	says(t, like(strings.Repeat("a", 4095)+"%", -1), vals(long+"b"), api.Yes)
	says(t, like(strings.Repeat("_", 4096), -1), vals(long+"b"), api.Yes)
	says(t, like(strings.Repeat("_", 4096), -1), vals(long), api.No)
	says(t, like(strings.Repeat("!!", 2048), '!'), vals(strings.Repeat("!", 2048)), api.Yes)
}

// kids are predicates that say No, Yes and Unknown of the row, in this order.
func kids() [3]api.Pred {
	return [3]api.Pred{asked(api.PredEq, 0, "b"), asked(api.PredEq, 0, "a"), asked(api.PredEq, 1, "a")}
}

var kidsRow = []api.Val{val("a"), none}

func TestSaysOfTwoAndThreeKids(t *testing.T) {
	// what And and Or say of what two Kids say; of more it is that of two, over
	// and over
	ands := [3][3]int{{0, 0, 0}, {0, 1, 2}, {0, 2, 2}}
	ors := [3][3]int{{0, 1, 2}, {1, 1, 1}, {2, 1, 2}}
	for a, p := range kids() {
		says(t, p, kidsRow, a)
		says(t, not(p), kidsRow, []int{1, 0, 2}[a])
		says(t, and(p), kidsRow, a)
		says(t, or(p), kidsRow, a)
		for b, q := range kids() {
			says(t, and(p, q), kidsRow, ands[a][b])
			says(t, or(p, q), kidsRow, ors[a][b])
			says(t, not(and(p, q)), kidsRow, []int{1, 0, 2}[ands[a][b]])
			says(t, not(or(p, q)), kidsRow, []int{1, 0, 2}[ors[a][b]])
			for c, r := range kids() {
				says(t, and(p, q, r), kidsRow, ands[ands[a][b]][c])
				says(t, or(p, q, r), kidsRow, ors[ors[a][b]][c])
				says(t, and(p, or(q, r)), kidsRow, ands[a][ors[b][c]])
				says(t, or(and(p, q), r), kidsRow, ors[ands[a][b]][c])
				says(t, and(or(p, q), not(r)), kidsRow, ands[ors[a][b]][[]int{1, 0, 2}[c]])
			}
		}
	}
}

// Of many Kids one says something else, at each place.
func TestSaysOfManyKids(t *testing.T) {
	for n := 2; n <= 16; n++ {
		for a, p := range kids() {
			says(t, and(same(n, p)...), kidsRow, a)
			says(t, or(same(n, p)...), kidsRow, a)
			for _, q := range kids() {
				for at := range n {
					l := same(n, p)
					l[at] = q
					says(t, and(l...), kidsRow, saysOf(and(p, q), kidsRow))
					says(t, or(l...), kidsRow, saysOf(or(p, q), kidsRow))
				}
			}
		}
	}
}

func TestSaysOfDeepOnes(t *testing.T) {
	for a, p := range kids() {
		for times := range 12 {
			says(t, wrap(p, api.PredAnd, times), kidsRow, a)
			says(t, wrap(p, api.PredOr, times), kidsRow, a)
			turned := a
			if times%2 == 1 && a != api.Unknown {
				turned = 1 - a
			}
			says(t, wrap(p, api.PredNot, times), kidsRow, turned)
		}
	}
}

func TestSaysAsTheWordsSay(t *testing.T) {
	next := draws(2)
	var said [3]int
	for range 60000 {
		cols := 1 + next(3)
		p := drawnPred(next, cols, 1+next(5))
		for _, row := range drawnRows(next, 3, cols) {
			said[saysAsTold(t, p, row)]++
		}
	}
	if slices.Min(said[:]) < 10000 {
		t.Errorf("No, Yes, Unknown: %v", said)
	}
}

// Parts of values, so that more of them are found.
func TestSaysOfPartsOfValues(t *testing.T) {
	next := draws(3)
	yes := 0
	for range 40000 {
		row := drawnRow(next, 2)
		p := drawnAsked(next, 2)
		if s := row[p.Col].S; s != "" && p.Kind != api.PredNull {
			from := next(len(s))
			p.S = s[from : from+next(len(s)-from+1)]
			p.Esc = min(0, p.Esc)
			if p.Kind == api.PredLike {
				p.S, p.Esc = "%"+p.S+"%", -1
			}
		}
		yes += saysAsTold(t, p, row) % 2
	}
	if yes < 10000 {
		t.Errorf("but %d are Yes", yes)
	}
}
