package need_test

import (
	"strings"
	"testing"

	"hopper/api"
	"hopper/need"
)

// skips checks whether rows can be skipped, by what is wanted and by the words.
func skips(t *testing.T, p api.Pred, f []api.Filter, want bool) {
	t.Helper()
	if !rightOf(p, len(f)) {
		t.Fatalf("%s isn't right for %d columns", told(p), len(f))
	}
	if words := skipOf(p, f); words != want {
		t.Fatalf("Skip of %s, %s: the words say %t", told(p), toldFilters(f), words)
	}
	if got := need.Skip(p, f); got != want {
		t.Errorf("Skip of %s, %s is %t", told(p), toldFilters(f), got)
	}
}

// skipsAsTold checks whether rows can be skipped, by the words.
func skipsAsTold(t *testing.T, p api.Pred, f []api.Filter) bool {
	t.Helper()
	want := skipOf(p, f)
	skips(t, p, f, want)
	return want
}

// sizes are those of filters: exact, and sets.
var sizes = []int{0, 1, 2, 7, 64, 1000, 65521, 65536}

// P16.2

func TestSkipOfParts(t *testing.T) {
	// filters which tell all the grams of the strings below apart
	for _, bits := range []int{0, 65521, 65536} {
		f := []api.Filter{filter(t, bits, "abcd", "xy", "", "bcdbcd\xff\x00\x00")}
		for _, x := range []struct {
			s    string
			want bool
		}{
			// of fewer than three bytes there are no grams
			{"", false}, {"a", false}, {"z", false}, {"\x00", false}, {"zz", false}, {"xy", false}, {"\xff\xff", false},
			{"abc", false}, {"bcd", false}, {"abcd", false}, {"cdb", false}, {"dbc", false}, {"cd\xff", false}, {"d\xff\x00", false}, {"\xff\x00\x00", false},
			// all grams are there, though no string is
			{"abcdb", false}, {"abcdbcdbcd", false}, {"abcd\xff\x00\x00", false},
			{"abd", true}, {"bce", true}, {"acb", true}, {"cba", true}, {"ABC", true}, {"zzz", true}, {"\x00\x00\x00", true}, {"\xff\xff\xff", true}, {"xyz", true}, {"cdx", true},
			// one gram of several is missing: the first, the last, one between
			{"zabcd", true}, {"abcde", true}, {"abcabc", true}, {"abcxbcd", true}, {"bcdbcda", true}, {"abcd" + strings.Repeat("bcd", 1000) + "bcb", true}, {"abcd" + strings.Repeat("bcd", 1000), false},
		} {
			for _, kind := range []int{api.PredEq, api.PredPrefix, api.PredSuffix, api.PredHas, api.PredLike} {
				skips(t, asked(kind, 0, x.s), f, x.want)
			}
			for _, kind := range []int{api.PredNe, api.PredLt, api.PredLe, api.PredGt, api.PredGe, api.PredNull} {
				skips(t, asked(kind, 0, x.s), f, false)
			}
			for kind := api.PredEq; kind <= api.PredLike; kind++ {
				skips(t, not(asked(kind, 0, x.s)), f, false)
				skips(t, not(not(asked(kind, 0, x.s))), f, false)
			}
		}
	}
}

// Of what compares just Eq by bytes is skipped.
func TestSkipOfEachColl(t *testing.T) {
	for _, bits := range sizes {
		for _, l := range [][]string{nil, {"abc"}, {"xyz", "abcd"}} {
			f := []api.Filter{filter(t, bits, l...)}
			for _, s := range []string{"", "ab", "abc", "ABC", "abx", "abcx", "\xff\xff\xff"} {
				for kind := api.PredEq; kind <= api.PredGe; kind++ {
					for _, coll := range []int{api.CollFold, api.CollPoints} {
						skips(t, by(kind, coll, s), f, false)
					}
					skips(t, by(kind, api.CollBytes, s), f, kind == api.PredEq && missesOf(f[0], s))
				}
			}
		}
	}
}

func TestSkipOfPatterns(t *testing.T) {
	for _, bits := range []int{0, 65521, 65536} {
		f := []api.Filter{filter(t, bits, "abcdef", "a%b_c", "x!yz", "100%")}
		for _, x := range []struct {
			s    string
			esc  int
			want bool
		}{
			// no run
			{"", -1, false}, {"%", -1, false}, {"_", -1, false}, {"%%__%", -1, false}, {"___", -1, false}, {"_%_", '!', false},
			// runs of fewer than three bytes
			{"z", -1, false}, {"zz", -1, false}, {"%zz%", -1, false}, {"zz_zz", -1, false}, {"zz%zz%z", -1, false}, {"_zz_", -1, false}, {"z%z%z%z", -1, false},
			// one run
			{"abc", -1, false}, {"%abc%", -1, false}, {"_bcdef", -1, false}, {"abd%", -1, true}, {"%abd", -1, true}, {"_abd_", -1, true}, {"abcdefg", -1, true}, {"%zabc", -1, true},
			// several runs: none is missing, or one, whichever it is
			{"abc%def", -1, false}, {"%abc%bxd%", -1, true}, {"bxd%abc", -1, true}, {"abc_bcd%cde", -1, false}, {"zbc_bcd%cde", -1, true}, {"abc_bzd%cde", -1, true}, {"abc_bcd%cdz", -1, true}, {"zzz%zzz", -1, true}, {"ab%zzz%c", -1, true}, {"abcdef%def_zz", -1, false},
			// a run ends where a sign stands
			{"ab%d", -1, false}, {"ab_d", -1, false}, {"abc%f", -1, false}, {"fab_cd", -1, true}, {"ab%cz", -1, false}, {"de_abc", -1, false}, {"def%abc", -1, false},
			// the escape byte is in no run, what stands behind it is
			{"a!bc", '!', false}, {"!a!b!c!d", '!', false}, {"a!bx", '!', true}, {"a!%b", '!', false}, {"%!%b!_c%", '!', false}, {"a!%c", '!', true}, {"100!%", '!', false}, {"100!_", '!', true}, {"x!!yz", '!', false}, {"x!yz", '!', true}, {"x!yz", -1, false},
			{"a\x00%b", 0, false}, {"\x00a\x00b\x00c", 0, false}, {"ab\xffc", 255, false}, {"ab\xffz", 255, true}, {"ab\xff", 0, true}, {"a%%b", '%', false}, {"b__c", '_', false}, {"b_c", '_', false}, {"abc%z", '%', true},
		} {
			skips(t, like(x.s, x.esc), f, x.want)
			skips(t, not(like(x.s, x.esc)), f, false)
		}
	}
}

// A set says of a gram what it says of its bit.
func TestSkipBySets(t *testing.T) {
	f := []api.Filter{filter(t, 1, "abc")}
	for _, s := range []string{"abc", "xyz", "\x00\x00\x00", "a long string of many bytes"} {
		skips(t, has(s), f, false)
	}
	texts := []string{"abc", "abcd", "xyz", "zyx", "\x00\x00\x00", "\xff\xff\xff", "banana", "nan", "bandana", "ab", "", "aaa", "aaaa", "Abc"}
	for _, bits := range []int{1, 2, 3, 7, 8, 9, 16, 64, 255, 1000, 65520, 65521, 65535, 65536} {
		for i := range texts {
			f := []api.Filter{filter(t, bits, texts[:i]...)}
			for _, s := range texts {
				for kind := api.PredEq; kind <= api.PredNull; kind++ {
					skipsAsTold(t, asked(kind, 0, s), f)
				}
				skipsAsTold(t, like("%"+s+"%", '!'), f)
			}
			for _, s := range texts[:i] {
				skips(t, has(s), f, false)
			}
		}
	}
}

func TestSkipByFiltersOfNoGrams(t *testing.T) {
	for _, bits := range sizes {
		for _, l := range [][]string{nil, {""}, {"a", "ab", "zz"}} {
			f := []api.Filter{filter(t, bits, l...)}
			for _, s := range []string{"", "a", "ab", "zz", "abc", "abcd", "\x00\x00\x00", "\xff\xff\xff", strings.Repeat("a", 4096)} {
				long := len(s) >= 3
				for _, kind := range []int{api.PredEq, api.PredPrefix, api.PredSuffix, api.PredHas, api.PredLike} {
					skips(t, asked(kind, 0, s), f, long)
				}
				skips(t, asked(api.PredNe, 0, s), f, false)
				skips(t, asked(api.PredNull, 0, ""), f, false)
				skips(t, not(has(s)), f, false)
				skips(t, and(has(s), has("ab")), f, long)
				skips(t, or(has(s), has("abc")), f, long)
			}
		}
	}
	skips(t, has("abc"), []api.Filter{{}}, true)
	skips(t, has("ab"), []api.Filter{{}}, false)
}

func TestSkipOfKids(t *testing.T) {
	f := []api.Filter{filter(t, 0, "abcd")}
	can := has("zzz")
	for _, never := range []api.Pred{has("abc"), asked(api.PredNull, 0, ""), asked(api.PredNe, 0, "zzz"), by(api.PredEq, 1, "zzz"), not(can), like("%", -1)} {
		for n := 1; n <= 16; n++ {
			skips(t, and(same(n, can)...), f, true)
			skips(t, or(same(n, can)...), f, true)
			skips(t, and(same(n, never)...), f, false)
			skips(t, or(same(n, never)...), f, false)
			for at := range n {
				l := same(n, never)
				l[at] = can
				skips(t, and(l...), f, true)
				skips(t, or(l...), f, n == 1)
				skips(t, not(and(l...)), f, false)
				l = same(n, can)
				l[at] = never
				skips(t, or(l...), f, false)
				skips(t, and(l...), f, n > 1)
				skips(t, not(or(l...)), f, false)
			}
		}
		skips(t, and(or(can, never), or(never, can)), f, false)
		skips(t, or(and(can, never), and(never, can)), f, true)
		skips(t, or(and(can, never), never), f, false)
		skips(t, and(or(can, never), or(can, can)), f, true)
		skips(t, or(can, not(can)), f, false)
		skips(t, and(never, not(never), can), f, true)
	}
}

func TestSkipOfDeepOnes(t *testing.T) {
	f := []api.Filter{filter(t, 0, "abcd")}
	for times := range 12 {
		skips(t, wrap(has("zzz"), api.PredAnd, times), f, true)
		skips(t, wrap(has("zzz"), api.PredOr, times), f, true)
		skips(t, wrap(has("zzz"), api.PredNot, times), f, times == 0)
		skips(t, wrap(has("abc"), api.PredAnd, times), f, false)
		skips(t, wrap(has("abc"), api.PredOr, times), f, false)
		skips(t, wrap(has("abc"), api.PredNot, times), f, false)
	}
}

// Each column has a filter of its own.
func TestSkipOfColumns(t *testing.T) {
	texts := []string{"abc", "bcd", "", "xyz", "nan", "abc", "\xff\xff\xff", "ab"}
	for _, bits := range [][]int{{0, 0, 0, 0, 0, 0, 0, 0}, {0, 1, 2, 3, 4, 5, 6, 7}, {65536, 0, 65521, 0, 1000, 65536, 0, 1}} {
		f := filters(t, [][]api.Val{vals(texts...)}, bits)
		for col := range texts {
			for _, s := range []string{"abc", "bcd", "xyz", "nan", "\xff\xff\xff", "qqq"} {
				for kind := api.PredEq; kind <= api.PredNull; kind++ {
					skipsAsTold(t, asked(kind, col, s), f)
				}
			}
			skips(t, asked(api.PredHas, col, texts[col]), f, false)
		}
	}
	f := []api.Filter{filter(t, 0, "abc"), filter(t, 0, "xyz"), filter(t, 65536, "abc")}
	for _, x := range []struct {
		col  int
		s    string
		want bool
	}{
		{0, "abc", false}, {0, "xyz", true}, {1, "abc", true}, {1, "xyz", false}, {2, "abc", false}, {2, "xyz", true},
	} {
		for _, kind := range []int{api.PredEq, api.PredPrefix, api.PredSuffix, api.PredHas, api.PredLike} {
			skips(t, asked(kind, x.col, x.s), f, x.want)
		}
	}
	skips(t, and(asked(api.PredHas, 0, "abc"), asked(api.PredHas, 1, "abc")), f, true)
	skips(t, or(asked(api.PredHas, 0, "abc"), asked(api.PredHas, 1, "abc")), f, false)
	skips(t, or(asked(api.PredHas, 1, "abc"), asked(api.PredHas, 2, "xyz"), asked(api.PredEq, 0, "abd")), f, true)
}

// drawnBits are sizes of so many filters, most of them exact.
func drawnBits(next func(int) int, n int) []int {
	l := make([]int, n)
	for i := range l {
		l[i] = []int{0, 0, 0, 1, 7, 64, 1000, 65536}[next(8)]
	}
	return l
}

// P16.2 and P16.3

// Whatever rows, filters and predicates: what is skipped is what the words
// say, and has no row of which Says is Yes.
func TestWhatIsSkippedIsNowhereYes(t *testing.T) {
	next := draws(4)
	skipped, yes := 0, 0
	for range 60000 {
		cols := 1 + next(3)
		rows := drawnRows(next, next(5), cols)
		f := filters(t, rows, drawnBits(next, cols))
		p := drawnPred(next, cols, 1+next(4))
		skip := skipsAsTold(t, p, f)
		if skip {
			skipped++
		}
		for _, row := range rows {
			said := need.Says(p, row)
			if skip && said == api.Yes {
				t.Fatalf("%s, %s is Yes of %s, and skipped", told(p), toldFilters(f), toldRow(row))
			}
			yes += said % 2
		}
	}
	if skipped < 5000 || yes < 10000 {
		t.Errorf("%d are skipped, %d Yes", skipped, yes)
	}
}

// What rows themselves are asked for isn't skipped, as it is found.
func TestWhatIsFoundIsNotSkipped(t *testing.T) {
	next := draws(5)
	for range 20000 {
		rows := drawnRows(next, 1+next(5), 2)
		f := filters(t, rows, drawnBits(next, 2))
		for _, row := range rows {
			for col, v := range row {
				if v.Null {
					continue
				}
				from := next(len(v.S) + 1)
				to := from + next(len(v.S)-from+1)
				found := []api.Pred{asked(api.PredEq, col, v.S), asked(api.PredPrefix, col, v.S[:to]), asked(api.PredSuffix, col, v.S[from:]), asked(api.PredHas, col, v.S[from:to])}
				for _, p := range append(found, and(found...), or(found...), or(has("zzz"), found[0])) {
					if need.Says(p, row) != api.Yes || need.Skip(p, f) {
						t.Fatalf("%s, %s: says %d of %s, and is skipped: %t", told(p), toldFilters(f), need.Says(p, row), toldRow(row), need.Skip(p, f))
					}
				}
			}
		}
	}
}

// haveGram says whether a row's value has a gram of a string that begins at i.
func haveGram(rows [][]api.Val, col int, s string, i int) bool {
	for _, row := range rows {
		if v := row[col]; !v.Null && strings.Contains(v.S, s[i:i+3]) {
			return true
		}
	}
	return false
}

// With exact filters a Has that asks for a gram which no row has is skipped.
func TestExactFiltersSkipWhatIsNowhere(t *testing.T) {
	next := draws(6)
	skipped := 0
	for range 60000 {
		rows := drawnRows(next, next(8), 2)
		f := filters(t, rows, []int{0, 0})
		col, s := next(2), drawnText(next, 9)
		missing := false
		for i := range len(s) - 2 {
			missing = missing || !haveGram(rows, col, s, i)
		}
		skips(t, asked(api.PredHas, col, s), f, missing)
		if missing {
			skipped++
		}
	}
	if skipped < 10000 {
		t.Errorf("but %d are skipped", skipped)
	}
	// the document's: Has "xyz" of rows without x
	for _, l := range [][]string{{"abc", "yz"}, {"yz", "zyz", ""}, nil, {"banana"}} {
		skips(t, has("xyz"), []api.Filter{filter(t, 0, l...)}, true)
	}
}

// Of each gram there can be of few bytes: those of the rows aren't skipped, all
// others are.
func TestExactFiltersTellEachGram(t *testing.T) {
	l := []string{"abcabd", "\x00\xff\x00\xff", "dcba"}
	f := []api.Filter{filter(t, 0, l...)}
	letters := "abcd\x00\xff"
	for _, a := range []byte(letters) {
		for _, b := range []byte(letters) {
			for _, c := range []byte(letters) {
				s := string([]byte{a, b, c})
				there := strings.Contains(strings.Join(l, "|"), s)
				skips(t, has(s), f, !there)
				skips(t, has("abcab"+s), f, skipOf(has("abcab"+s), f))
			}
		}
	}
}
