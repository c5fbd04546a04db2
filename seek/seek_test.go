package seek_test

import (
	"math/bits"
	"slices"
	"strings"
	"testing"
	"unsafe"

	"hopper/api"
	"hopper/cursor"
	"hopper/front"
	"hopper/seek"
)

// opened is the dictionary of those strings.
func opened(t *testing.T, l []string, block int) *front.Dict {
	t.Helper()
	b, e := front.Build(l, block)
	if e != api.OK {
		t.Fatalf("Build of %.60q (%d), %d: error %d", first(l), len(l), block, e)
	}
	c := cursor.New(b)
	d := front.Open(c)
	if c.End() != api.OK || !slices.Equal(d.All(), l) {
		t.Fatalf("%.60q (%d) is opened as %.60q (%d), error %d", first(l), len(l), first(d.All()), d.Len(), c.End())
	}
	return d
}

// behindErrors are dictionaries that were opened behind an error, so that they
// have no strings.
func behindErrors(t *testing.T) []*front.Dict {
	t.Helper()
	var all []*front.Dict
	for i, b := range []string{"\x02\x02\x01\x03\x06\x02ab\x02\x01c", "\x02\x02\x01\x03\x06\x02ab\x02\x01", "\x02\x02\x01\x03\x06\x02ab\x00\x01a", ""} {
		c := cursor.New([]byte(b))
		if i == 0 {
			c.Fail(api.ErrForm)
		}
		all = append(all, front.Open(c))
		if c.Good() {
			t.Fatalf("%x is opened without an error", b)
		}
	}
	return all
}

// first are a few of the strings, to be told.
func first(l []string) []string {
	return l[:min(len(l), 8)]
}

// What the words say, told string by string.

// codeOf is a string's place, or -1.
func codeOf(l []string, s string) int {
	code := -1
	for i, x := range l {
		if x == s {
			code = i
		}
	}
	return code
}

// lowerOf is how many strings are less.
func lowerOf(l []string, s string) int {
	n := 0
	for _, x := range l {
		if strings.Compare(x, s) < 0 {
			n++
		}
	}
	return n
}

// upperOf is how many strings are less, or s itself.
func upperOf(l []string, s string) int {
	n := lowerOf(l, s)
	for _, x := range l {
		if x == s {
			n++
		}
	}
	return n
}

// prefixOf is where the strings that begin with p are.
func prefixOf(l []string, p string) (int, int) {
	n := 0
	for _, x := range l {
		if len(x) >= len(p) && x[:len(p)] == p {
			n++
		}
	}
	return lowerOf(l, p), lowerOf(l, p) + n
}

// mapOf is for each of a's strings its place in b, or -1.
func mapOf(a, b []string) []int {
	var l []int
	for _, s := range a {
		l = append(l, codeOf(b, s))
	}
	return l
}

// mergeOf are the strings of both, in order, each once.
func mergeOf(a, b []string) []string {
	l := slices.Concat(a, b)
	slices.Sort(l)
	return slices.Compact(l)
}

// draws answers a function that draws numbers below n, the same each time for
// one seed.
func draws(seed uint32) func(n int) int {
	return func(n int) int {
		seed = seed*1664525 + 1013904223
		return int(seed>>8) % n
	}
}

// drawnText is a string of fewer than size bytes, of few sorts.
func drawnText(next func(int) int, size int) string {
	b := make([]byte, next(size))
	for i := range b {
		b[i] = "ab\x00\x7f\x80\xfe\xff\xff"[next(8)]
	}
	return string(b)
}

// drawn are strings that rise, at most n of them, of fewer than size bytes.
func drawn(next func(int) int, n, size int) []string {
	var l []string
	for range next(n + 1) {
		l = append(l, drawnText(next, size))
	}
	slices.Sort(l)
	return slices.Compact(l)
}

// many are n strings of two bytes behind a beginning, rising.
func many(n int, beginning string) []string {
	var l []string
	for i := range n {
		l = append(l, beginning+string([]byte{byte(i >> 8), byte(i)}))
	}
	return l
}

// rising are the beginnings of s, from the empty one on.
func rising(s string) []string {
	var l []string
	for n := range len(s) + 1 {
		l = append(l, s[:n])
	}
	return l
}

// single are the strings of one byte.
func single() []string {
	var l []string
	for x := range 256 {
		l = append(l, string([]byte{byte(x)}))
	}
	return l
}

// long is so many bytes.
func long(n int) string {
	return strings.Repeat("x", n)
}

// dictionaries are lists that rise.
var dictionaries = [][]string{
	nil, {""}, {"a"}, {"b"}, {"\x00"}, {"\x7f"}, {"\x80"}, {"\xfe"}, {"\xff"}, {"\xff\xff"}, {"", "a"}, {"a", "b"}, {"b", "c"}, {"", "\x00"}, {"", "\xff"}, {"a", "ab", "b"}, {"ab", "abc"}, {"", "a", "ab", "abc"}, {"a", "a\x00"}, {"a", "a\xff", "b"},
	{"a", "ab", "abc", "b", "ba\xff", "c"}, {"ab", "b", "x"}, {"", "a", "apple", "apples", "apply", "b", "banana"}, {"banana", "bananas", "band", "bandana", "c"}, {"A", "B", "a", "b"}, {"a\xc3", "a\u00e4", "b"}, {"\u00e4", "\u00e4b", "\u00f6"},
	{"", "\x00", "\x00\x00", "\x7f", "\x7f\x80", "\x80", "\xfe", "\xfe\xff", "\xff", "\xff\x00", "\xff\xff"}, {"a\x00", "a\x7f", "a\x80", "a\xfe", "a\xff"}, {"\x00", "\x7f", "\x80", "\xfe", "\xff"}, {"a\xfe", "a\xff", "a\xff\xfe", "a\xff\xff", "b"}, {"a\xff\xff\xff", "b"}, {"\xff\xfe", "\xff\xff", "\xff\xff\xff"},
	single(), rising("abcdefgh"), rising("\x00\x00\x00\x00"), rising("\xff\xff\xff\xff"), rising(long(70)), many(300, "a")[3:], many(64, "b"), many(65, "\xff"),
	{long(4095)}, {long(4096)}, {"", long(4096)}, {"a", long(4096), "y"}, {long(4095), long(4096)}, {long(4095) + "a", long(4095) + "b"},
}

// asked are strings that are looked for in all dictionaries, beside such as
// stand around their own.
var asked = []string{
	"", "a", "aa", "ab", "aba", "abc", "b", "ba", "ba\xff", "ba\xff\xff", "bb", "c", "d", "z", "A", "app", "appl", "apple", "bana", "band", "e", "\u00e4", "\xc3",
	"\x00", "\x00\x00", "\x7f", "\x7f\xff", "\x80", "\x80\x00", "\xfe", "\xfe\xff", "\xff", "\xff\x00", "\xff\xff", "\xff\xff\xff", "\xff\xff\xff\xff", "\xff\xff\xff\xff\xff", "a\x00", "a\x00\x00", "a\xfe", "a\xff", "a\xff\xff", "a\xff\xff\xff", "a\xff\xff\xff\xff",
	long(1), long(4095), long(4096), long(4097), long(5000), long(4095) + "a", long(4095) + "b", long(4096) + "\x00", long(4096) + "\xff", "\x00" + long(4096), "\xff" + long(4096), strings.Repeat("\x00", 4097), strings.Repeat("\xff", 4096), strings.Repeat("\xff", 4097),
}

// around are strings beside those of a dictionary, or at them: each of them,
// what stands just ahead and behind, and its beginnings.
func around(l []string) []string {
	var all []string
	for _, s := range l {
		all = append(all, s, s+"\x00", s+"\xff", s+"a")
		if len(s) > 0 {
			last := s[len(s)-1]
			cut := s[:len(s)-1]
			all = append(all, cut, cut+string([]byte{last - 1}), cut+string([]byte{last + 1}), cut+string([]byte{last - 1, 0xff}), s[:len(s)/2], s[:1], s[1:])
		}
	}
	return all
}

// seeks checks what is answered of one string.
func seeks(t *testing.T, d *front.Dict, l []string, s string) {
	t.Helper()
	if n := seek.Lower(d, s); n != lowerOf(l, s) {
		t.Errorf("Lower of %.40q (%d), %.40q is %d, not %d", first(l), len(l), s, n, lowerOf(l, s))
	}
	if n := seek.Upper(d, s); n != upperOf(l, s) {
		t.Errorf("Upper of %.40q (%d), %.40q is %d, not %d", first(l), len(l), s, n, upperOf(l, s))
	}
	code, there := codeOf(l, s), true
	if code == -1 {
		code, there = 0, false
	}
	if i, ok := seek.Code(d, s); i != code || ok != there {
		t.Errorf("Code of %.40q (%d), %.40q is %d, %v, not %d, %v", first(l), len(l), s, i, ok, code, there)
	}
	from, to := prefixOf(l, s)
	if x, y := seek.Prefix(d, s); x != from || y != to {
		t.Errorf("Prefix of %.40q (%d), %.40q is %d, %d, not %d, %d", first(l), len(l), s, x, y, from, to)
	}
}

// P14.1

func TestCode(t *testing.T) {
	d := opened(t, []string{"", "a", "ab", "b\xff", "c"}, 2)
	for _, x := range []struct {
		s    string
		code int
		ok   bool
	}{
		{"", 0, true}, {"a", 1, true}, {"ab", 2, true}, {"b\xff", 3, true}, {"c", 4, true},
		{"\x00", 0, false}, {"A", 0, false}, {"aa", 0, false}, {"a\x00", 0, false}, {"abc", 0, false}, {"b", 0, false}, {"b\xfe", 0, false}, {"b\xff\x00", 0, false}, {"ca", 0, false}, {"d", 0, false}, {"\xff", 0, false}, {long(4096), 0, false}, {long(4097), 0, false},
	} {
		if i, ok := seek.Code(d, x.s); i != x.code || ok != x.ok {
			t.Errorf("Code of %.40q is %d, %v, not %d, %v", x.s, i, ok, x.code, x.ok)
		}
	}
}

func TestBounds(t *testing.T) {
	d := opened(t, []string{"a", "ab", "abc", "b", "ba\xff", "c"}, 4)
	for _, x := range []struct {
		s            string
		lower, upper int
	}{
		{"", 0, 0}, {"\x00", 0, 0}, {"A", 0, 0}, {"a", 0, 1}, {"a\x00", 1, 1}, {"aa", 1, 1}, {"ab", 1, 2}, {"ab\xff", 3, 3}, {"abc", 2, 3}, {"abcd", 3, 3}, {"b", 3, 4}, {"ba", 4, 4}, {"ba\xfe", 4, 4}, {"ba\xff", 4, 5}, {"ba\xff\x00", 5, 5}, {"bb", 5, 5}, {"c", 5, 6}, {"c\x00", 6, 6}, {"d", 6, 6}, {"\xff", 6, 6}, {long(4096), 6, 6}, {"a" + long(4096), 3, 3},
	} {
		if n := seek.Lower(d, x.s); n != x.lower {
			t.Errorf("Lower of %.40q is %d, not %d", x.s, n, x.lower)
		}
		if n := seek.Upper(d, x.s); n != x.upper {
			t.Errorf("Upper of %.40q is %d, not %d", x.s, n, x.upper)
		}
	}
}

func TestPrefix(t *testing.T) {
	for _, x := range []struct {
		l        []string
		p        string
		from, to int
	}{
		{[]string{"a", "ab", "b"}, "a", 0, 2},
		{[]string{"a", "ab", "b"}, "", 0, 3},
		{[]string{"a", "ab", "b"}, "ab", 1, 2},
		{[]string{"a", "ab", "b"}, "abc", 2, 2},
		{[]string{"a", "ab", "b"}, "b", 2, 3},
		{[]string{"a", "ab", "b"}, "aa", 1, 1},
		{[]string{"a", "ab", "b"}, "A", 0, 0},
		{[]string{"a", "ab", "b"}, "c", 3, 3},
		{[]string{"aa", "ab", "ac"}, "a", 0, 3},
		{[]string{"aa", "ab", "ac"}, "", 0, 3},
		{[]string{"", "a"}, "", 0, 2},
		{[]string{"", "a"}, "a", 1, 2},
		{[]string{""}, "", 0, 1},
		{[]string{""}, "a", 1, 1},
		{nil, "", 0, 0},
		{nil, "a", 0, 0},
		{[]string{"a\xfe", "a\xff", "a\xff\x00", "a\xff\xff", "b"}, "a\xff", 1, 4},
		{[]string{"a\xfe", "a\xff", "a\xff\x00", "a\xff\xff", "b"}, "a\xff\xff", 3, 4},
		{[]string{"a\xfe", "a\xff", "a\xff\x00", "a\xff\xff", "b"}, "a\xff\xff\xff", 4, 4},
		{[]string{"a\xfe", "a\xff", "a\xff\x00", "a\xff\xff", "b"}, "a\xfe", 0, 1},
		{[]string{"a\xfe", "a\xff", "a\xff\x00", "a\xff\xff", "b"}, "a", 0, 4},
		{[]string{"\xfe\xff", "\xff", "\xff\x00", "\xff\xff", "\xff\xff\xff"}, "\xff", 1, 5},
		{[]string{"\xfe\xff", "\xff", "\xff\x00", "\xff\xff", "\xff\xff\xff"}, "\xff\xff", 3, 5},
		{[]string{"\xfe\xff", "\xff", "\xff\x00", "\xff\xff", "\xff\xff\xff"}, "\xff\xff\xff", 4, 5},
		{[]string{"\xfe\xff", "\xff", "\xff\x00", "\xff\xff", "\xff\xff\xff"}, "\xff\xff\xff\xff", 5, 5},
		{[]string{"\xfe\xff", "\xff", "\xff\x00", "\xff\xff", "\xff\xff\xff"}, "\xfe", 0, 1},
		{[]string{"\xfe\xff"}, "\xff", 1, 1},
		{[]string{"a", "b"}, "\xff\xff", 2, 2},
		{[]string{"\x00", "\x00\x00", "\x00\xff", "\x01"}, "\x00", 0, 3},
		{[]string{"\x00", "\x00\x00", "\x00\xff", "\x01"}, "\x00\x00", 1, 2},
		{[]string{"\x7f", "\x7f\x80", "\x80", "\x80\x7f"}, "\x7f", 0, 2},
		{[]string{"\x7f", "\x7f\x80", "\x80", "\x80\x7f"}, "\x80", 2, 4},
		{[]string{long(4095), long(4096)}, long(4095), 0, 2},
		{[]string{long(4095), long(4096)}, long(4096), 1, 2},
		{[]string{long(4095), long(4096)}, long(4097), 2, 2},
	} {
		for _, block := range []int{1, 2, 64} {
			if from, to := seek.Prefix(opened(t, x.l, block), x.p); from != x.from || to != x.to {
				t.Errorf("Prefix of %.40q, %.40q is %d, %d, not %d, %d", x.l, x.p, from, to, x.from, x.to)
			}
		}
	}
}

func TestSeekIsWhatTheWordsSay(t *testing.T) {
	for _, l := range dictionaries {
		all := slices.Concat(asked, around(l))
		for _, block := range []int{1, 2, 5, 64} {
			d := opened(t, l, block)
			for _, s := range all {
				seeks(t, d, l, s)
			}
		}
	}
}

func TestSeekInDrawnDictionaries(t *testing.T) {
	next := draws(1)
	for range 2000 {
		l := drawn(next, 40, 5)
		d := opened(t, l, 1+next(64))
		for _, s := range around(l) {
			seeks(t, d, l, s)
		}
		for range 20 {
			seeks(t, d, l, drawnText(next, 6))
		}
	}
}

// Each count of strings up to some, so that each way of halving is gone.
func TestSeekOfEachCount(t *testing.T) {
	for n := range 70 {
		l := many(n, "a")
		d := opened(t, l, 7)
		for _, s := range around(l) {
			seeks(t, d, l, s)
		}
	}
}

func TestSeekOfMaxRows(t *testing.T) {
	l := many(api.MaxRows, "")
	for _, block := range []int{1, 64} {
		d := opened(t, l, block)
		for i, s := range l {
			if n, ok := seek.Code(d, s); n != i || !ok {
				t.Errorf("Code of %q is %d, %v, not %d", s, n, ok, i)
			}
			if lower, upper := seek.Lower(d, s), seek.Upper(d, s); lower != i || upper != i+1 {
				t.Errorf("bounds of %q are %d, %d, not %d, %d", s, lower, upper, i, i+1)
			}
			if lower, upper := seek.Lower(d, s+"\x00"), seek.Upper(d, s+"\x00"); lower != i+1 || upper != i+1 {
				t.Errorf("bounds behind %q are %d, %d, not %d", s, lower, upper, i+1)
			}
			if from, to := seek.Prefix(d, s[:1]); from != i/256*256 || to != from+256 {
				t.Errorf("Prefix of %q is %d, %d, not %d, %d", s[:1], from, to, i/256*256, i/256*256+256)
			}
		}
		for _, s := range asked {
			seeks(t, d, l, s)
		}
	}
}

func TestSeekOfMaxText(t *testing.T) {
	l := []string{"", "a", long(4094), long(4095), long(4095) + "w", long(4096), long(4095) + "y", "xy", strings.Repeat("\xff", 4095), strings.Repeat("\xff", 4096)}
	for _, block := range []int{1, 64} {
		d := opened(t, l, block)
		for _, s := range slices.Concat(asked, around(l)) {
			seeks(t, d, l, s)
		}
	}
}

func TestSeekBehindAnError(t *testing.T) {
	for _, d := range behindErrors(t) {
		for _, s := range asked {
			seeks(t, d, nil, s)
		}
	}
}

// Each string that is got is new memory, so many of those tell of many strings
// that were looked at.
func TestBoundsAreFoundByHalving(t *testing.T) {
	d := opened(t, many(api.MaxRows, "abc"), 64)
	most := float64(2*bits.Len(api.MaxRows) + 4)
	for _, s := range []string{"", "a", "abc", "abc\x00\x00", "abc\x08\x00", "abc\x0f\xff", "abcd", "z"} {
		for what, call := range map[string]func(){
			"Code":   func() { seek.Code(d, s) },
			"Lower":  func() { seek.Lower(d, s) },
			"Upper":  func() { seek.Upper(d, s) },
			"Prefix": func() { seek.Prefix(d, s) },
		} {
			if n := testing.AllocsPerRun(3, call); n > most {
				t.Errorf("%s of %q looks at some %v strings", what, s, n)
			}
		}
	}
}

// P14.2

// maps checks what is answered of two dictionaries.
func maps(t *testing.T, a, b *front.Dict, l, m []string) {
	t.Helper()
	if codes := seek.Map(a, b); !slices.Equal(codes, mapOf(l, m)) {
		t.Errorf("Map of %.40q (%d), %.40q (%d) is %v, not %v", first(l), len(l), first(m), len(m), codes[:min(len(codes), 20)], mapOf(l, m))
	}
	if all := seek.Merge(a, b); !slices.Equal(all, mergeOf(l, m)) {
		t.Errorf("Merge of %.40q (%d), %.40q (%d) is %.40q (%d), not %.40q (%d)", first(l), len(l), first(m), len(m), first(all), len(all), first(mergeOf(l, m)), len(mergeOf(l, m)))
	}
}

func TestMapAndMerge(t *testing.T) {
	for _, x := range []struct {
		l, m  []string
		codes []int
		back  []int
		all   []string
	}{
		{nil, nil, nil, nil, nil},
		{nil, []string{""}, nil, []int{-1}, []string{""}},
		{nil, []string{"a", "b"}, nil, []int{-1, -1}, []string{"a", "b"}},
		{[]string{""}, []string{""}, []int{0}, []int{0}, []string{""}},
		{[]string{""}, []string{"a"}, []int{-1}, []int{-1}, []string{"", "a"}},
		{[]string{"", "a"}, []string{"a"}, []int{-1, 0}, []int{1}, []string{"", "a"}},
		{[]string{"a", "b"}, []string{"a", "b"}, []int{0, 1}, []int{0, 1}, []string{"a", "b"}},
		{[]string{"a", "b"}, []string{"c", "d"}, []int{-1, -1}, []int{-1, -1}, []string{"a", "b", "c", "d"}},
		{[]string{"a", "c"}, []string{"b", "d"}, []int{-1, -1}, []int{-1, -1}, []string{"a", "b", "c", "d"}},
		{[]string{"a", "d"}, []string{"b", "c"}, []int{-1, -1}, []int{-1, -1}, []string{"a", "b", "c", "d"}},
		{[]string{"a", "b", "c"}, []string{"b"}, []int{-1, 0, -1}, []int{1}, []string{"a", "b", "c"}},
		{[]string{"a", "b", "c"}, []string{"b", "c", "d"}, []int{-1, 0, 1}, []int{1, 2, -1}, []string{"a", "b", "c", "d"}},
		{[]string{"a", "ab", "abc", "b", "ba\xff", "c"}, []string{"ab", "b", "x"}, []int{-1, 0, -1, 1, -1, -1}, []int{1, 3, -1}, []string{"a", "ab", "abc", "b", "ba\xff", "c", "x"}},
		{[]string{"\x00", "\x7f", "\xfe"}, []string{"\x7f", "\x80", "\xff"}, []int{-1, 0, -1}, []int{1, -1, -1}, []string{"\x00", "\x7f", "\x80", "\xfe", "\xff"}},
	} {
		for _, block := range []int{1, 2, 64} {
			a, b := opened(t, x.l, block), opened(t, x.m, 3)
			if codes, back := seek.Map(a, b), seek.Map(b, a); !slices.Equal(codes, x.codes) || !slices.Equal(back, x.back) {
				t.Errorf("Map of %q, %q is %v, and back %v, not %v and %v", x.l, x.m, codes, back, x.codes, x.back)
			}
			if all, other := seek.Merge(a, b), seek.Merge(b, a); !slices.Equal(all, x.all) || !slices.Equal(other, x.all) {
				t.Errorf("Merge of %q, %q is %q, the other way %q, not %q", x.l, x.m, all, other, x.all)
			}
		}
	}
}

func TestMapAndMergeAreWhatTheWordsSay(t *testing.T) {
	for i, l := range dictionaries {
		a := opened(t, l, 1+i%64)
		maps(t, a, a, l, l)
		maps(t, a, opened(t, l, 64-i%64), l, l)
		for k, m := range dictionaries {
			maps(t, a, opened(t, m, 1+k%3), l, m)
		}
		for _, d := range behindErrors(t) {
			maps(t, a, d, l, nil)
			maps(t, d, a, nil, l)
		}
	}
	next := draws(2)
	for range 4000 {
		l, m := drawn(next, 40, 4), drawn(next, 40, 4)
		maps(t, opened(t, l, 1+next(64)), opened(t, m, 1+next(64)), l, m)
	}
}

// Each part of a few strings, held against each other one.
func TestMapAndMergeOfEachPart(t *testing.T) {
	whole := []string{"", "a", "ab", "b", "\xff"}
	var parts [][]string
	var dicts []*front.Dict
	for set := range 1 << len(whole) {
		var l []string
		for i, s := range whole {
			if set>>i&1 == 1 {
				l = append(l, s)
			}
		}
		parts = append(parts, l)
		dicts = append(dicts, opened(t, l, 2))
	}
	for i, l := range parts {
		for k, m := range parts {
			maps(t, dicts[i], dicts[k], l, m)
		}
	}
}

func TestMapAndMergeOfMaxRows(t *testing.T) {
	var even, odd, third []string
	all := many(2*api.MaxRows, "a")
	for i, s := range all {
		if i%2 == 0 {
			even = append(even, s)
		} else {
			odd = append(odd, s)
		}
		if i%3 == 0 {
			third = append(third, s)
		}
	}
	a, b, c := opened(t, even, 1), opened(t, odd, 64), opened(t, third, 5)
	if l := seek.Merge(a, b); !slices.Equal(l, all) {
		t.Errorf("Merge of %d and %d strings has %d, not %d", len(even), len(odd), len(l), len(all))
	}
	if l := seek.Merge(b, a); !slices.Equal(l, all) {
		t.Errorf("Merge of %d and %d strings has %d, not %d", len(odd), len(even), len(l), len(all))
	}
	if codes := seek.Map(a, b); !slices.Equal(codes, slices.Repeat([]int{-1}, api.MaxRows)) {
		t.Errorf("Map of what has nothing in common is %v", codes[:min(len(codes), 20)])
	}
	codes, back := seek.Map(a, c), seek.Map(c, a)
	for i, code := range codes {
		if want := 2 * i / 3; i%3 == 0 && code != want || i%3 != 0 && code != -1 {
			t.Errorf("Map of %d is %d", i, code)
		}
	}
	for i, code := range back {
		if want := 3 * i / 2; i%2 == 0 && code != want || i%2 != 0 && code != -1 {
			t.Errorf("Map back of %d is %d", i, code)
		}
	}
	if len(codes) != len(even) || len(back) != len(third) {
		t.Errorf("there are %d and %d codes, not %d and %d", len(codes), len(back), len(even), len(third))
	}
}

// P14.3

// parts checks that the bounds of s part a dictionary.
func parts(t *testing.T, d *front.Dict, s string) {
	t.Helper()
	lower, upper := seek.Lower(d, s), seek.Upper(d, s)
	if lower < 0 || upper > d.Len() || upper != lower && upper != lower+1 {
		t.Errorf("of %.40q, %.40q the bounds are %d and %d of %d", first(d.All()), s, lower, upper, d.Len())
	}
	from, to := seek.Prefix(d, s)
	for i, x := range d.All() {
		if (x < s) != (i < lower) || (x > s) != (i >= upper) || (x == s) != (i >= lower && i < upper) || strings.HasPrefix(x, s) != (i >= from && i < to) {
			t.Errorf("%.40q, at %d, stands wrong to %.40q: bounds %d, %d, range %d, %d", x, i, s, lower, upper, from, to)
		}
	}
	if from != lower || to < upper || to > d.Len() {
		t.Errorf("the range of %.40q is %d, %d, its bounds are %d, %d", s, from, to, lower, upper)
	}
	code, ok := seek.Code(d, s)
	if ok != (lower != upper) || ok && (code != lower || d.At(code) != s) || !ok && code != 0 {
		t.Errorf("the code of %.40q is %d, %v, its bounds are %d, %d", s, code, ok, lower, upper)
	}
}

// agree checks that what is answered of two dictionaries goes together.
func agree(t *testing.T, a, b *front.Dict) {
	t.Helper()
	all := seek.Merge(a, b)
	if !slices.Equal(all, seek.Merge(b, a)) || len(all) > a.Len()+b.Len() || len(all) < max(a.Len(), b.Len()) {
		t.Errorf("Merge of %.40q and %.40q is %.40q, the other way %.40q", first(a.All()), first(b.All()), first(all), first(seek.Merge(b, a)))
	}
	for i := 1; i < len(all); i++ {
		if all[i-1] >= all[i] {
			t.Errorf("%.40q stands ahead of %.40q", all[i-1], all[i])
		}
	}
	codes, back := seek.Map(a, b), seek.Map(b, a)
	both := 0
	for i, code := range codes {
		n, ok := seek.Code(b, a.At(i))
		if ok != (code >= 0) || ok && (code != n || b.At(code) != a.At(i) || back[code] != i) || !ok && code != -1 {
			t.Errorf("%.40q has the code %d, %v, Map says %d", a.At(i), n, ok, code)
		}
		if ok {
			both++
		}
	}
	if len(codes) != a.Len() || len(all) != a.Len()+b.Len()-both {
		t.Errorf("there are %d codes of %d strings, and %d strings of %d and %d", len(codes), a.Len(), len(all), a.Len(), b.Len())
	}
}

func TestBoundsPart(t *testing.T) {
	for i, l := range dictionaries {
		d := opened(t, l, 1+i%64)
		for _, s := range slices.Concat(asked, around(l)) {
			parts(t, d, s)
		}
	}
	next := draws(3)
	for range 500 {
		l := drawn(next, 30, 5)
		d := opened(t, l, 1+next(64))
		for range 30 {
			parts(t, d, drawnText(next, 6))
		}
	}
}

func TestMapAndMergeAgree(t *testing.T) {
	for i, l := range dictionaries {
		a := opened(t, l, 1+i%64)
		agree(t, a, a)
		for k, m := range dictionaries {
			agree(t, a, opened(t, m, 1+k%5))
		}
	}
	next := draws(4)
	for range 1000 {
		agree(t, opened(t, drawn(next, 40, 4), 1+next(64)), opened(t, drawn(next, 40, 4), 1+next(64)))
	}
}

// Answers hang on no blocks.
func TestBlocksDoNotMatter(t *testing.T) {
	l := dictionaries[27]
	m := many(100, "")
	for block := 1; block <= 64; block++ {
		d := opened(t, l, block)
		for _, s := range asked {
			seeks(t, d, l, s)
		}
		maps(t, d, opened(t, m, 65-block), l, m)
		maps(t, opened(t, m, block), d, m, l)
	}
}

// What is merged is a dictionary again, if it isn't too long.
func TestMergeIsBuilt(t *testing.T) {
	next := draws(5)
	for range 200 {
		l, m := drawn(next, 40, 4), drawn(next, 40, 4)
		a, b := opened(t, l, 3), opened(t, m, 4)
		both := opened(t, seek.Merge(a, b), 5)
		maps(t, a, both, l, mergeOf(l, m))
		maps(t, both, b, mergeOf(l, m), m)
	}
}

// P14.4

func TestAnswersAreNewLists(t *testing.T) {
	l, m := []string{"ab", "abc", "abcd", "b"}, []string{"abc", "b", "bcd"}
	a, b := opened(t, l, 2), opened(t, m, 2)
	none := opened(t, nil, 1)
	for range 3 {
		for _, x := range [][2]*front.Dict{{a, b}, {b, a}, {a, a}, {a, none}, {none, b}, {none, none}} {
			all := seek.Merge(x[0], x[1])
			for i := range all[:cap(all)] {
				all[:cap(all)][i] = "other"
			}
			codes := seek.Map(x[0], x[1])
			for i := range codes[:cap(codes)] {
				codes[:cap(codes)][i] = 77
			}
		}
		maps(t, a, b, l, m)
		maps(t, b, a, m, l)
		maps(t, a, none, l, nil)
		maps(t, none, a, nil, l)
		for _, s := range asked {
			seeks(t, a, l, s)
			seeks(t, b, m, s)
		}
	}
	if !slices.Equal(a.All(), l) || !slices.Equal(b.All(), m) {
		t.Errorf("the dictionaries are %q and %q", a.All(), b.All())
	}
}

// What was answered stays, whatever is asked later.
func TestAnswersStay(t *testing.T) {
	l, m := []string{"ab", "abc", "abcd", "b"}, []string{"abc", "b", "bcd"}
	a, b := opened(t, l, 2), opened(t, m, 2)
	all, codes := seek.Merge(a, b), seek.Map(a, b)
	more, back := seek.Merge(a, a), seek.Map(b, a)
	for i := range more {
		more[i] = "other"
	}
	for i := range back {
		back[i] = 77
	}
	if !slices.Equal(all, mergeOf(l, m)) || !slices.Equal(codes, mapOf(l, m)) {
		t.Errorf("what was answered is now %q, %v", all, codes)
	}
}

// apart checks that no string of more than a byte shares memory with another.
func apart(t *testing.T, what string, l, others []string) {
	t.Helper()
	begin := func(s string) uintptr { return uintptr(unsafe.Pointer(unsafe.StringData(s))) }
	for _, a := range l {
		for _, b := range others {
			if len(a) > 1 && len(b) > 1 && begin(a) < begin(b)+uintptr(len(b)) && begin(b) < begin(a)+uintptr(len(a)) {
				t.Errorf("%s: %.40q and %.40q have the same memory", what, a, b)
			}
		}
	}
}

func TestAnswersAreNewStrings(t *testing.T) {
	l, m := []string{"ab", "abc", "abcd", "bcd", "\xff\xff\xff"}, []string{"abc", "bcd", "bcde"}
	a, b := opened(t, l, 3), opened(t, m, 2)
	for _, x := range [][2]*front.Dict{{a, b}, {b, a}, {a, a}, {a, opened(t, nil, 1)}, {opened(t, nil, 1), a}} {
		one := seek.Merge(x[0], x[1])
		for _, others := range [][]string{l, m, a.All(), b.All(), seek.Merge(x[0], x[1]), seek.Merge(x[1], x[0])} {
			apart(t, "Merge", one, others)
		}
		for i := range one {
			apart(t, "Merge", one[:i], one[i:])
		}
	}
}

// P1

func TestWhateverIsSoughtEnds(t *testing.T) {
	next := draws(6)
	for range 20000 {
		b := make([]byte, next(30))
		for i := range b {
			b[i] = byte(next(256) >> next(9))
		}
		d := front.Open(cursor.New(b))
		l := d.All()
		for _, s := range []string{"", drawnText(next, 6), string(b)} {
			seeks(t, d, l, s)
		}
		maps(t, d, d, l, l)
	}
}

func TestNothingIsWithoutStrings(t *testing.T) {
	for _, d := range []*front.Dict{nil, new(front.Dict)} {
		for _, s := range asked {
			seeks(t, d, nil, s)
		}
		maps(t, d, d, nil, nil)
		maps(t, d, opened(t, []string{"a", "b"}, 1), nil, []string{"a", "b"})
		maps(t, opened(t, []string{"a", "b"}, 1), d, []string{"a", "b"}, nil)
	}
}
