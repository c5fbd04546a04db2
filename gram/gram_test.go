package gram_test

import (
	"bytes"
	"math"
	"slices"
	"strconv"
	"strings"
	"testing"

	"hopper/api"
	"hopper/cursor"
	"hopper/gram"
)

const (
	greatest = 1<<24 - 1 // gram
	most     = 65536     // bits, and grams of an exact filter
)

// What the words say, told gram by gram, without a map.

// gramsOf are the grams of the strings, rising, each once.
func gramsOf(l ...string) []int {
	var all []int
	for _, s := range l {
		for i := 2; i < len(s); i++ {
			all = append(all, int(s[i-2])*65536+int(s[i-1])*256+int(s[i]))
		}
	}
	slices.Sort(all)
	return slices.Compact(all)
}

// filterOf is the filter of those grams.
func filterOf(grams []int, bits int) api.Filter {
	if bits == 0 {
		return api.Filter{List: grams}
	}
	set := make([]bool, bits)
	for _, g := range grams {
		set[g*40503%65521%bits] = true
	}
	return api.Filter{Bits: bits, Set: set}
}

// hasOf says whether a filter has a gram, each of a list looked at.
func hasOf(f api.Filter, g int) bool {
	if f.Bits > 0 {
		return f.Set[g*40503%65521%f.Bits]
	}
	for _, x := range f.List {
		if x == g {
			return true
		}
	}
	return false
}

// mayOf says whether a filter has all grams of a string.
func mayOf(f api.Filter, s string) bool {
	for _, g := range gramsOf(s) {
		if !hasOf(f, g) {
			return false
		}
	}
	return true
}

// packed are numbers as bytes, put bit by bit.
func packed(l []int, width int) string {
	b := make([]byte, (len(l)*width+7)/8)
	for i, x := range l {
		for k := range width {
			if at := i*width + k; x>>k&1 == 1 {
				b[at/8] |= 1 << (at % 8)
			}
		}
	}
	return varint(len(l)) + string([]byte{byte(width)}) + string(b)
}

// varint is a number's.
func varint(n int) string {
	if n < 128 {
		return string([]byte{byte(n)})
	}
	return string([]byte{byte(n%128 + 128)}) + varint(n/128)
}

// widthOf is how many bits the greatest number takes.
func widthOf(l []int) int {
	width := 0
	for _, x := range l {
		for x>>width > 0 {
			width++
		}
	}
	return width
}

// exact are an exact filter's bytes, of those numbers in their least width.
func exact(steps ...int) string {
	return "\x00" + packed(steps, widthOf(steps))
}

// setBytes are a set's bytes behind the varint of Bits.
func setBytes(set []bool) string {
	b := make([]byte, (len(set)+7)/8)
	for i, so := range set {
		if so {
			b[i/8] += 1 << (i % 8)
		}
	}
	return varint(len(set)) + string(b)
}

// bytesOf are a filter's bytes.
func bytesOf(f api.Filter) string {
	if f.Bits > 0 {
		return varint(f.Bits) + setBytes(f.Set)
	}
	var steps []int
	for i, g := range f.List {
		if i > 0 {
			g -= f.List[i-1]
		}
		steps = append(steps, g)
	}
	return exact(steps...)
}

// alike says whether two filters are; nil and empty lists are one.
func alike(a, b api.Filter) bool {
	return a.Bits == b.Bits && slices.Equal(a.List, b.List) && slices.Equal(a.Set, b.Set)
}

// none says whether a filter is Filter{}.
func none(f api.Filter) bool {
	return f.Bits == 0 && len(f.List) == 0 && len(f.Set) == 0
}

// text is the string of a gram.
func text(g int) string {
	return string([]byte{byte(g >> 16), byte(g >> 8), byte(g)})
}

// texts are the strings of grams.
func texts(grams []int) []string {
	var l []string
	for _, g := range grams {
		l = append(l, text(g))
	}
	return l
}

// every are n grams from the first one on, so far apart.
func every(n, first, apart int) []int {
	l := make([]int, n)
	for i := range l {
		l[i] = first + i*apart
	}
	return l
}

// same are n numbers or bits that are alike.
func same[T any](n int, x T) []T {
	return slices.Repeat([]T{x}, n)
}

// told is a filter, as far as it is short enough to be told.
func told(f api.Filter) string {
	s := "bits " + strconv.Itoa(f.Bits)
	for _, g := range f.List[:min(len(f.List), 12)] {
		s += " " + strconv.FormatInt(int64(g), 16)
	}
	for _, so := range f.Set[:min(len(f.Set), 12)] {
		s += " " + strconv.FormatBool(so)
	}
	return s + " (" + strconv.Itoa(len(f.List)) + ", " + strconv.Itoa(len(f.Set)) + ")"
}

// few are the first of some strings, to be told.
func few(l []string) []string {
	return l[:min(len(l), 8)]
}

// draws answers a function that draws numbers below n, the same each time for
// one seed.
func draws(seed uint32) func(n int) int {
	return func(n int) int {
		seed = seed*1664525 + 1013904223
		return int(seed>>8) % n
	}
}

// drawnText is a string of fewer than n bytes, of few sorts.
func drawnText(next func(int) int, n int) string {
	b := make([]byte, next(n))
	for i := range b {
		b[i] = "ab\x00\x7f\x80\xfe\xff"[next(7)]
	}
	return string(b)
}

// drawn are fewer than n strings.
func drawn(next func(int) int, n int) []string {
	var l []string
	for range next(n) {
		l = append(l, drawnText(next, 9))
	}
	return l
}

// mixed is a string of so many bytes, of all sorts.
func mixed(n int) string {
	draw := uint64(n)
	b := make([]byte, n)
	for i := range b {
		draw = draw*6364136223846793005 + 1442695040888963407
		b[i] = byte(draw >> 40)
	}
	return string(b)
}

// sizes are bits that a filter may have.
var sizes = []int{0, 1, 2, 7, 8, 9, 64, 100, 65520, 65521, 65522, 65535, 65536}

// wrongSizes are bits that no filter has.
var wrongSizes = []int{-1, -2, -8, -65536, -1 << 31, math.MinInt, 65537, 65538, 131072, 1 << 31, 1 << 32, math.MaxInt}

// lists are strings that filters are made of.
func lists() [][]string {
	return [][]string{
		nil, {}, {""}, {"a"}, {"ab"}, {"abc"}, {"abcd"}, {"", "", ""}, {"a", "bc", ""}, {"ab", "c"}, {"abc", "abc"}, {"abcabc"}, {"abcabc", "xyz", "a"}, {"aaa"}, {"aaaaaaaa"}, {"banana", "nana"}, {"abc", "bcd", "cde"}, {"xyzabc", "abcxyz"},
		{"\x00\x00\x00"}, {"\x7f\x7f\x7f"}, {"\x80\x80\x80"}, {"\xfe\xfe\xfe"}, {"\xff\xff\xff"}, {"\x00\x00\x01", "\xff\xff\xfe"}, {"\x00\x7f\x80\xfe\xff"}, {"\xff\xfe\x80\x7f\x00"}, {"\x00\x00\x00\x00\xff\xff\xff\xff"}, {"\x7f\xff\xff\x80\x00\x00"}, {"\xc3\xa4\xc3"}, {"\u00e4\u20ac"},
		{strings.Repeat("x", 4096)}, {mixed(4095)}, {mixed(4096)}, {mixed(4097)}, {mixed(4096), mixed(4095), "", "ab"}, texts(every(300, 0, 1)), texts(every(300, greatest, -1)), texts(every(255, 255, 65793)),
	}
}

// asked are strings that filters are asked for.
var asked = []string{"", "a", "ab", "\x00", "\xff\xff", "abc", "bca", "abcd", "abcabcabc", "abx", "xyz", "zzz", "anana", "nan", "\x00\x00\x00", "\x00\x00\x01", "\x7f\x7f\x7f", "\x80\x80\x80\x80", "\xfe\xfe\xfe", "\xff\xff\xfe", "\xff\xff\xff", "\xff\xff\xff\xff", "\x00\x7f\x80", strings.Repeat("x", 4096)}

// made is what Make answers, where it may.
func made(t *testing.T, l []string, bits int) api.Filter {
	t.Helper()
	f, e := gram.Make(l, bits)
	if want := filterOf(gramsOf(l...), bits); e != api.OK || !alike(f, want) {
		t.Errorf("Make of %.60q (%d), %d is %s, error %d; not %s", few(l), len(l), bits, told(f), e, told(want))
	}
	return f
}

// P15.1

func TestGrams(t *testing.T) {
	for _, x := range []struct {
		s    string
		want []int
	}{
		{"", nil}, {"a", nil}, {"ab", nil}, {"\xff\xff", nil}, {"abc", []int{0x616263}}, {"abcd", []int{0x616263, 0x626364}}, {"dcba", []int{0x636261, 0x646362}},
		{"abcabc", []int{0x616263, 0x626361, 0x636162}}, {"aaa", []int{0x616161}}, {"aaaa", []int{0x616161}}, {"abababab", []int{0x616261, 0x626162}}, {"banana", []int{0x616e61, 0x62616e, 0x6e616e}},
		{"\x00\x00\x00", []int{0}}, {"\x00\x00\x01", []int{1}}, {"\x00\x01\x00", []int{256}}, {"\x01\x00\x00", []int{65536}}, {"\xff\xff\xff", []int{1<<24 - 1}}, {"\xff\xff\xff\xff", []int{1<<24 - 1}},
		{"\x7f\x7f\x7f", []int{0x7f7f7f}}, {"\x80\x80\x80", []int{0x808080}}, {"\xfe\xfe\xfe", []int{0xfefefe}}, {"\x80\x00\x00", []int{1 << 23}}, {"\x7f\xff\xff", []int{1<<23 - 1}},
		{"\x00\x7f\x80\xfe\xff", []int{0x007f80, 0x7f80fe, 0x80feff}}, {"\xff\xfe\x80\x7f\x00", []int{0x807f00, 0xfe807f, 0xfffe80}}, {"\xff\x00\xff\x00", []int{0x00ff00, 0xff00ff}}, {"\u00e4\u00f6", []int{0xa4c3b6, 0xc3a4c3}},
	} {
		if l := gram.Grams(x.s); !slices.Equal(l, x.want) {
			t.Errorf("Grams of %q are %x, not %x", x.s, l, x.want)
		}
	}
}

func TestGramsAreWhatTheWordsSay(t *testing.T) {
	next := draws(1)
	all := append(slices.Concat(lists()...), mixed(200000))
	for range 20000 {
		all = append(all, drawnText(next, 20))
	}
	for _, s := range all {
		if l, want := gram.Grams(s), gramsOf(s); !slices.Equal(l, want) {
			t.Errorf("Grams of %.40q (%d) are %s, not %s", s, len(s), told(api.Filter{List: l}), told(api.Filter{List: want}))
		}
	}
}

func TestMake(t *testing.T) {
	for _, x := range []struct {
		l    []string
		bits int
		want api.Filter
	}{
		{nil, 0, api.Filter{}}, {[]string{"", "a", "ab"}, 0, api.Filter{}}, {[]string{"abcd"}, 0, api.Filter{List: []int{0x616263, 0x626364}}}, {[]string{"bcd", "abc"}, 0, api.Filter{List: []int{0x616263, 0x626364}}}, {[]string{"abc", "abc"}, 0, api.Filter{List: []int{0x616263}}}, {[]string{"ab", "cd"}, 0, api.Filter{}},
		{[]string{"\xff\xff\xff", "\x00\x00\x00"}, 0, api.Filter{List: []int{0, 1<<24 - 1}}},
		{nil, 1, api.Filter{Bits: 1, Set: []bool{false}}}, {[]string{"abc"}, 1, api.Filter{Bits: 1, Set: []bool{true}}}, {[]string{"ab"}, 2, api.Filter{Bits: 2, Set: []bool{false, false}}}, {[]string{"\x00\x00\x00"}, 2, api.Filter{Bits: 2, Set: []bool{true, false}}}, {[]string{"\x00\x00\x01"}, 2, api.Filter{Bits: 2, Set: []bool{false, true}}}, {[]string{"\x00\x00\x00\x01"}, 2, api.Filter{Bits: 2, Set: []bool{true, true}}},
		// 1 times 40503 is below 65521; 2 times it is 81006, modulo 65521 15485
		{[]string{"\x00\x00\x01", "\x00\x00\x02"}, 10, api.Filter{Bits: 10, Set: []bool{false, false, false, true, false, true, false, false, false, false}}},
	} {
		if f, e := gram.Make(x.l, x.bits); e != api.OK || !alike(f, x.want) {
			t.Errorf("Make of %q, %d is %s, error %d; not %s", x.l, x.bits, told(f), e, told(x.want))
		}
	}
}

func TestMakeIsWhatTheWordsSay(t *testing.T) {
	for _, l := range lists() {
		for _, bits := range sizes {
			made(t, l, bits)
		}
	}
	next := draws(2)
	for range 3000 {
		made(t, drawn(next, 20), next(2)*next(300))
	}
}

func TestMakeOfEachCountOfBits(t *testing.T) {
	l := []string{"abcabc", "xyz", "a", "\x00\x00\x00\xff\xff\xff"}
	for bits := range 2000 {
		made(t, l, bits)
	}
	for bits := 65400; bits <= most; bits++ {
		made(t, l, bits)
	}
}

func TestMakeOfGramsThatHaveOneBit(t *testing.T) {
	// so far apart are grams that have one bit, whatever Bits is
	for _, g := range []int{0, 1, 0x616263, greatest - 65521} {
		for _, bits := range sizes[1:] {
			one, both := made(t, []string{text(g)}, bits), made(t, []string{text(g + 65521), text(g)}, bits)
			if !alike(one, both) || !gram.Has(one, g+65521) || !gram.May(one, text(g+65521)) {
				t.Errorf("grams %x and %x, of %d bits: %s, %s", g, g+65521, bits, told(one), told(both))
			}
		}
		if f := made(t, []string{text(g)}, 0); gram.Has(f, g+65521) || gram.May(f, text(g+65521)) {
			t.Errorf("the exact filter of %x has %x", g, g+65521)
		}
	}
	// 1 and 3 have the bits 40503 and 55988, which are one of so many bits
	if f := made(t, []string{text(1)}, 15485); !gram.Has(f, 3) || gram.Has(f, 0) {
		t.Error("gram 3 hasn't the bit of gram 1")
	}
}

// refused checks that Make answers Filter{} and ErrArg.
func refused(t *testing.T, l []string, bits int) {
	t.Helper()
	if f, e := gram.Make(l, bits); e != api.ErrArg || !none(f) {
		t.Errorf("Make of %d strings, %d bits, is %s, error %d", len(l), bits, told(f), e)
	}
}

func TestMakeOfWrongBits(t *testing.T) {
	for _, bits := range wrongSizes {
		for _, l := range [][]string{nil, {""}, {"ab"}, {"abc"}, {"abcabc", "xyz", "a"}, {mixed(4096)}} {
			refused(t, l, bits)
		}
	}
	for i := range 300 {
		refused(t, []string{"abc"}, -1-i)
		refused(t, []string{"abc"}, most+1+i)
	}
}

func TestExactOfAsManyGramsAsMayBe(t *testing.T) {
	for _, apart := range []int{1, 254, 255} {
		for _, n := range []int{65534, 65535, 65536} {
			f := made(t, texts(every(n, 0, apart)), 0)
			if len(f.List) != n {
				t.Errorf("of %d grams %d are there", n, len(f.List))
			}
		}
		for _, n := range []int{65537, 65538, 65793} {
			l := texts(every(n, 0, apart))
			refused(t, l, 0)
			refused(t, l, most+1)
			made(t, l, most)
			made(t, l, 1)
		}
	}
}

// The grams count, not the strings or the places: those that come again don't.
func TestExactOfMoreStringsThanGrams(t *testing.T) {
	l := texts(every(65536, 0, 3))
	made(t, slices.Concat(l, l, []string{"", "ab"}), 0)
	made(t, same(100000, "abcd"), 0)
	made(t, []string{strings.Repeat("abc", 100000)}, 0)
	refused(t, slices.Concat(l, []string{text(1)}, l), 0)
	refused(t, []string{mixed(100000)}, 0)
	if n := len(gramsOf(mixed(100000))); n <= most {
		t.Errorf("there are but %d grams", n)
	}
}

// Strings in each order make one filter.
func TestMakeOfStringsInEachOrder(t *testing.T) {
	next := draws(3)
	for _, l := range append(lists(), []string{"abc", "bcd", "cde", "abcde", "xyz", "aaa", "", "ab"}) {
		for _, bits := range []int{0, 1, 9, 64, 65536} {
			want := made(t, l, bits)
			for range 5 {
				m := slices.Clone(l)
				for i := range m {
					k := i + next(len(m)-i)
					m[i], m[k] = m[k], m[i]
				}
				if f := made(t, m, bits); !alike(f, want) {
					t.Errorf("Make of %.60q, %d is %s, not %s", few(m), bits, told(f), told(want))
				}
			}
			back := slices.Clone(l)
			slices.Reverse(back)
			if f := made(t, back, bits); !alike(f, want) {
				t.Errorf("Make of %.60q, %d is %s, not %s", few(back), bits, told(f), told(want))
			}
		}
	}
}

// P15.2

func TestHas(t *testing.T) {
	f := made(t, []string{"abc", "bcd", "xyz"}, 0)
	for _, x := range []struct {
		g    int
		want bool
	}{
		{0x616263, true}, {0x626364, true}, {0x78797a, true}, // first, in the middle, last
		{0, false}, {1, false}, {0x616262, false}, {0x616264, false}, {0x626363, false}, {0x626365, false}, {0x787979, false}, {0x78797b, false}, {greatest - 1, false}, {greatest, false},
	} {
		if gram.Has(f, x.g) != x.want {
			t.Errorf("Has of %x is %v", x.g, !x.want)
		}
	}
}

func TestHasOfBits(t *testing.T) {
	f := made(t, []string{"\x00\x00\x00", "\x00\x00\x01"}, 10) // the bits 0 and 3
	for _, x := range []struct {
		g    int
		want bool
	}{
		{0, true}, {1, true}, {2, false}, {3, false}, {4, true}, {5, false}, {6, false}, {65521, true}, {65522, true}, {65523, false}, // of the bits 0 3 5 8 0 2 5 0 3 5
	} {
		if gram.Has(f, x.g) != x.want {
			t.Errorf("Has of %d is %v", x.g, !x.want)
		}
	}
}

func TestHasOfTheLeastAndTheGreatestGram(t *testing.T) {
	for _, x := range []struct {
		l    []string
		want [4]bool // of 0, 1, the last but one and the last
	}{
		{nil, [4]bool{}}, {[]string{"\x00\x00\x00"}, [4]bool{true}}, {[]string{"\xff\xff\xff"}, [4]bool{3: true}}, {[]string{"\xff\xff\xff", "\x00\x00\x00"}, [4]bool{true, false, false, true}}, {[]string{"\x00\x00\x00\x01"}, [4]bool{true, true}}, {[]string{"\xff\xff\xfe", "\x00\x00\x01"}, [4]bool{false, true, true}},
	} {
		f := made(t, x.l, 0)
		for i, g := range []int{0, 1, greatest - 1, greatest} {
			if gram.Has(f, g) != x.want[i] {
				t.Errorf("Has of %s, %x is %v", told(f), g, !x.want[i])
			}
		}
	}
}

// filters are of all sorts.
func filters(t *testing.T) []api.Filter {
	t.Helper()
	l := []api.Filter{{}}
	for _, bits := range sizes {
		for _, x := range lists() {
			l = append(l, made(t, x, bits))
		}
		if bits > 0 {
			l = append(l, api.Filter{Bits: bits, Set: same(bits, true)})
		}
	}
	return l
}

func TestHasIsWhatTheWordsSay(t *testing.T) {
	next := draws(4)
	for _, f := range filters(t) {
		grams := slices.Concat([]int{0, 1, 255, 256, 65535, 65536, 1<<23 - 1, 1 << 23, greatest - 1, greatest}, f.List, gramsOf(asked...))
		for range 300 {
			grams = append(grams, next(greatest+1))
		}
		for i, g := range f.List {
			if i < 300 {
				grams = append(grams, max(0, g-1), min(greatest, g+1))
			}
		}
		for _, g := range grams {
			if len(f.List) > 400 && g%7 > 0 {
				continue
			}
			if so := gram.Has(f, g); so != hasOf(f, g) {
				t.Fatalf("Has of %s, %x is %v", told(f), g, so)
			}
		}
	}
}

func TestHasOfEachGram(t *testing.T) {
	for _, f := range []api.Filter{made(t, nil, 0), made(t, []string{"abcabc", "\x00\x00\x00\xff\xff\xff"}, 0), made(t, nil, 1), made(t, []string{"abc"}, 1), made(t, []string{"abc"}, 7), made(t, []string{mixed(4096)}, 65536)} {
		for g := range greatest + 1 {
			if so := gram.Has(f, g); so != hasOf(f, g) {
				t.Fatalf("Has of %s, %x is %v", told(f), g, so)
			}
		}
	}
}

func TestMay(t *testing.T) {
	f := made(t, []string{"abcabc", "xyz", "a", "\x00\x00\x00\x01"}, 0)
	for s, want := range map[string]bool{
		"": true, "a": true, "ab": true, "zz": true, "\xff\xff": true, "abc": true, "cabca": true, "abcabcabcabc": true, "xyz": true, "\x00\x00\x00\x00": true, "\x00\x00\x01": true,
		"abd": false, "abcxyz": false, "zabc": false, "bcab\xff": false, "abcab\x00": false, "xyza": false, "axyz": false, "abcXabc": false, "\xff\xff\xff": false, "ABC": false, "cba": false, "\x00\x01\x00": false,
	} {
		if gram.May(f, s) != want {
			t.Errorf("May of %q is %v", s, !want)
		}
	}
}

// A gram may be missing at each place of a string.
func TestMayWithoutOneGram(t *testing.T) {
	for _, s := range []string{"abc", "abcd", "abcdefgh", "\x00\x01\x02\x03\x04", "\xff\xfe\xfd\xfc\xfb\xfa"} {
		all := gramsOf(s)
		for _, bits := range []int{0, 65536} {
			if f := made(t, texts(all), bits); !gram.May(f, s) {
				t.Errorf("May of %q, %d bits, is false", s, bits)
			}
			for i := range all {
				f := made(t, texts(slices.Delete(slices.Clone(all), i, i+1)), bits)
				if gram.May(f, s) || !gram.May(f, s[:i/2]) {
					t.Errorf("May of %q without %x, %d bits, is true", s, all[i], bits)
				}
			}
		}
	}
}

func TestMayIsWhatTheWordsSay(t *testing.T) {
	next := draws(5)
	for _, f := range filters(t) {
		l := slices.Clone(asked)
		for range 50 {
			l = append(l, drawnText(next, 9))
		}
		for _, s := range l {
			if so := gram.May(f, s); so != mayOf(f, s) {
				t.Errorf("May of %s, %.40q is %v", told(f), s, so)
			}
		}
	}
}

func TestFiltersOfNoGrams(t *testing.T) {
	for _, bits := range sizes {
		f := made(t, []string{"", "a", "ab"}, bits)
		for _, s := range []string{"", "a", "ab", "\x00", "\x00\x00", "\xff\xff"} {
			if !gram.May(f, s) {
				t.Errorf("May of %d bits, %q is false", bits, s)
			}
		}
		for _, s := range []string{"abc", "\x00\x00\x00", "\xff\xff\xff", "abcd"} {
			if gram.May(f, s) {
				t.Errorf("May of %d bits, %q is true", bits, s)
			}
		}
		for _, g := range []int{0, 1, 1 << 23, greatest} {
			if gram.Has(f, g) {
				t.Errorf("Has of %d bits, %x is true", bits, g)
			}
		}
	}
}

// P15.3

// reads checks that a filter is taken from b, and so many bytes are left.
func reads(t *testing.T, b string, want api.Filter, left int) {
	t.Helper()
	c := cursor.New([]byte(b))
	if f := gram.Read(c); !c.Good() || c.Left() != left || !alike(f, want) {
		t.Errorf("Read of %.60x (%d) is %s, error %d, %d left; not %s, %d left", b, len(b), told(f), c.End(), c.Left(), told(want), left)
	}
}

// fails checks that no filter is taken from b, with the error e.
func fails(t *testing.T, b string, e api.Errno) {
	t.Helper()
	c := cursor.New([]byte(b))
	if f := gram.Read(c); c.Good() || c.End() != e || !none(f) {
		t.Errorf("Read of %.60x (%d) is %s, error %d (good: %v), not %d", b, len(b), told(f), c.End(), c.Good(), e)
	}
}

// written are filters with their bytes.
var written = []struct {
	f api.Filter
	b string
}{
	{api.Filter{}, "\x00\x00\x00"},
	{api.Filter{List: []int{0}}, "\x00\x01\x00"},
	{api.Filter{List: []int{1}}, "\x00\x01\x01\x01"},
	{api.Filter{List: []int{0, 1}}, "\x00\x02\x01\x02"},
	{api.Filter{List: []int{1, 3, 6}}, "\x00\x03\x02\x39"},
	{api.Filter{List: []int{5, 6, 7}}, "\x00\x03\x03\x4d\x00"},
	{api.Filter{List: []int{greatest}}, "\x00\x01\x18\xff\xff\xff"},
	{api.Filter{List: []int{0, greatest}}, "\x00\x02\x18\x00\x00\x00\xff\xff\xff"},
	{api.Filter{List: []int{greatest - 1, greatest}}, "\x00\x02\x18\xfe\xff\xff\x01\x00\x00"},
	{api.Filter{List: []int{0x616263, 0x626364}}, "\x00\x02\x17\x63\x62\xe1\x80\x80\x00"},
	{api.Filter{Bits: 1, Set: []bool{false}}, "\x01\x01\x00"},
	{api.Filter{Bits: 1, Set: []bool{true}}, "\x01\x01\x01"},
	{api.Filter{Bits: 3, Set: []bool{true, false, true}}, "\x03\x03\x05"},
	{api.Filter{Bits: 7, Set: same(7, true)}, "\x07\x07\x7f"},
	{api.Filter{Bits: 8, Set: same(8, true)}, "\x08\x08\xff"},
	{api.Filter{Bits: 9, Set: same(9, true)}, "\x09\x09\xff\x01"},
	{api.Filter{Bits: 9, Set: append(same(8, false), true)}, "\x09\x09\x00\x01"},
	{api.Filter{Bits: 128, Set: same(128, false)}, "\x80\x01\x80\x01" + strings.Repeat("\x00", 16)},
	{api.Filter{Bits: 65536, Set: same(65536, true)}, "\x80\x80\x04\x80\x80\x04" + strings.Repeat("\xff", 8192)},
}

func TestKnownBytes(t *testing.T) {
	for _, x := range written {
		if b := gram.Write(x.f); string(b) != x.b {
			t.Errorf("Write of %s is %.60x, not %.60x", told(x.f), b, x.b)
		}
		reads(t, x.b, x.f, 0)
		for n := range min(len(x.b), 40) {
			fails(t, x.b[:n], api.ErrCut)
		}
		fails(t, x.b[:len(x.b)-1], api.ErrCut)
	}
}

func TestWriteIsWhatTheWordsSay(t *testing.T) {
	for _, f := range filters(t) {
		if b, want := gram.Write(f), bytesOf(f); string(b) != want {
			t.Errorf("Write of %s is %.60x, not %.60x", told(f), b, want)
		}
	}
}

func TestSetsOfEachSize(t *testing.T) {
	for _, bits := range slices.Concat(every(140, 1, 1), sizes[1:]) {
		for _, set := range [][]bool{same(bits, false), same(bits, true), append(same(bits-1, false), true), append([]bool{true}, same(bits-1, false)...)} {
			again(t, api.Filter{Bits: bits, Set: set})
		}
	}
}

// Each beginning of a filter's bytes is cut, and of several filters one behind
// the other each is taken, and the rest left.
func TestEachBeginningIsCut(t *testing.T) {
	for _, f := range []api.Filter{{}, made(t, []string{"abcd"}, 0), made(t, []string{mixed(80)}, 0), made(t, texts(every(200, 0, 1)), 0), made(t, []string{"abcd"}, 1), made(t, []string{"abcd"}, 9), made(t, []string{mixed(80)}, 200), made(t, []string{mixed(80)}, 20000)} {
		b := bytesOf(f)
		for n := range len(b) {
			fails(t, b[:n], api.ErrCut)
		}
	}
}

func TestBytesBehindAreLeft(t *testing.T) {
	for _, x := range written {
		for _, rest := range []string{"\x00", "\xff", "\x80", "abc", x.b} {
			reads(t, x.b+rest, x.f, len(rest))
		}
	}
	var all []byte
	for _, x := range written {
		all = append(all, x.b...)
	}
	c := cursor.New(all)
	for _, x := range written {
		if f := gram.Read(c); !alike(f, x.f) {
			t.Errorf("one behind the other: %s, not %s", told(f), told(x.f))
		}
	}
	if c.End() != api.OK {
		t.Errorf("one behind the other: error %d", c.End())
	}
}

func TestReadOfWrongBits(t *testing.T) {
	for _, bits := range []int{65537, 65538, 131072, 1 << 20, 1 << 31, 1 << 32, 1 << 40, math.MaxInt} {
		fails(t, varint(bits), api.ErrForm)
		fails(t, varint(bits)+varint(bits), api.ErrForm)
		fails(t, varint(bits)+varint(bits)+strings.Repeat("\x00", 10000), api.ErrForm)
		fails(t, varint(bits)+varint(65536)+strings.Repeat("\x00", 8192), api.ErrForm)
	}
	fails(t, strings.Repeat("\xff", 9)+"\x01", api.ErrForm)
	fails(t, strings.Repeat("\xff", 9), api.ErrCut)
}

func TestReadOfSetsOfOtherLengths(t *testing.T) {
	for _, bits := range []int{1, 2, 7, 8, 9, 16, 17, 127, 128, 129, 65535, 65536} {
		for _, n := range []int{0, 1, bits / 2, bits - 8, bits - 1, bits + 1, bits + 8, 2 * bits, 65536, 65537} {
			if n < 0 || n == bits {
				continue
			}
			for _, x := range []bool{false, true} {
				fails(t, varint(bits)+setBytes(same(n, x)), api.ErrForm)
				fails(t, varint(bits)+setBytes(same(n, x))+"\x00\x00", api.ErrForm)
			}
		}
		fails(t, varint(bits)+varint(bits+1), api.ErrForm) // ahead of bytes that are missing
		fails(t, varint(bits)+varint(math.MaxInt), api.ErrForm)
	}
}

func TestReadOfBitsThatAreLeft(t *testing.T) {
	for bits := 1; bits < 40; bits++ {
		b := []byte(varint(bits) + setBytes(same(bits, true)))
		for k := bits % 8; k > 0 && k < 8; k++ {
			left := slices.Clone(b)
			left[len(left)-1] |= 1 << k
			fails(t, string(left), api.ErrForm)
			fails(t, string(left)+"\x00", api.ErrForm)
		}
	}
	fails(t, "\x00\x01\x01\x03", api.ErrForm)
	fails(t, "\x00\x03\x02\x79", api.ErrForm)
	fails(t, "\x00\x03\x02\xb9", api.ErrForm)
}

func TestReadOfAsManyGramsAsMayBe(t *testing.T) {
	for _, n := range []int{65535, 65536} {
		for _, apart := range []int{1, 2, 255} {
			reads(t, exact(append([]int{0}, same(n-1, apart)...)...), api.Filter{List: every(n, 0, apart)}, 0)
		}
	}
	reads(t, exact(append([]int{greatest - 65535}, same(65535, 1)...)...), api.Filter{List: every(65536, greatest-65535, 1)}, 0)
	for _, n := range []int{65537, 65538, 70000, 131072} {
		fails(t, exact(append([]int{0}, same(n-1, 1)...)...), api.ErrForm)
		fails(t, exact(same(n, 1)...), api.ErrForm)
		fails(t, exact(same(n, 0)...), api.ErrForm)
	}
	for _, n := range []int{65537, 1 << 24, 1 << 31, 1 << 40, math.MaxInt} {
		fails(t, "\x00"+varint(n), api.ErrForm) // ahead of bytes that are missing
		fails(t, "\x00"+varint(n)+"\x00", api.ErrForm)
	}
	fails(t, "\x00"+varint(65536)+"\x01", api.ErrCut)
}

func TestReadOfGramsThatDoNotRise(t *testing.T) {
	for _, steps := range [][]int{{0, 0}, {1, 0}, {greatest, 0}, {1, 1, 0}, {1, 0, 1}, {0, 1, 0}, {0, 0, 1}, {5, 0, 0}, {0, 1, 1, 1, 1, 0}, same(65536, 0), append(same(65535, 1), 0)} {
		fails(t, exact(steps...), api.ErrForm)
		fails(t, exact(steps...)+"\x00", api.ErrForm)
	}
	reads(t, exact(0), api.Filter{List: []int{0}}, 0)
	reads(t, exact(0, 1), api.Filter{List: []int{0, 1}}, 0)
	reads(t, exact(1, 1, 1), api.Filter{List: []int{1, 2, 3}}, 0)
}

func TestReadOfGramsThatAreTooGreat(t *testing.T) {
	for _, steps := range [][]int{
		{greatest + 1}, {greatest + 2}, {1 << 31}, {1<<32 - 1}, {0, greatest + 1}, {1, greatest}, {greatest, 1}, {greatest - 1, 2}, {greatest, greatest}, {1 << 23, 1 << 23}, {0, 1 << 23, 1 << 23}, {greatest - 2, 1, 1, 1},
		// in 32 bits what is added up would be small again
		{1 << 31, 1 << 31}, {5, 1<<32 - 1}, {5, 1<<32 - 4}, {greatest, 1<<32 - 1}, {1<<32 - 1, 2}, {1<<32 - 1, 1<<32 - 1}, {1 << 31, 1 << 31, 1}, {0, 1 << 31, 1 << 31, 7}, same(65536, 1<<32-1), append([]int{256}, same(65535, 256)...), same(65536, 1<<31), same(512, 1<<23),
	} {
		fails(t, exact(steps...), api.ErrForm)
		fails(t, exact(steps...)+"\x00", api.ErrForm)
	}
	reads(t, exact(greatest), api.Filter{List: []int{greatest}}, 0)
	reads(t, exact(greatest-1, 1), api.Filter{List: []int{greatest - 1, greatest}}, 0)
	reads(t, exact(same(255, 65793)...), api.Filter{List: every(255, 65793, 65793)}, 0)
	reads(t, exact(append([]int{255}, same(65535, 256)...)...), api.Filter{List: every(65536, 255, 256)}, 0)
}

func TestReadOfNumbersThatChapter3Refuses(t *testing.T) {
	for width := 3; width <= 32; width++ {
		fails(t, "\x00"+packed([]int{1, 2, 3}, width), api.ErrForm)
		fails(t, "\x00"+packed(nil, width), api.ErrForm)
		fails(t, "\x00"+packed([]int{0}, width), api.ErrForm)
	}
	reads(t, "\x00"+packed([]int{1, 2, 3}, 2), api.Filter{List: []int{1, 3, 6}}, 0)
	for width := 33; width < 256; width++ {
		fails(t, "\x00\x01"+string([]byte{byte(width)}), api.ErrForm)
		fails(t, "\x00\x00"+string([]byte{byte(width)}), api.ErrForm)
		fails(t, "\x00\x01"+string([]byte{byte(width)})+strings.Repeat("\x01", 40), api.ErrForm)
	}
}

func TestReadOfVarintsThatAreNotTheShortest(t *testing.T) {
	for _, b := range []string{
		"\x80\x00\x00\x00", "\x00\x80\x00\x00", "\x00\x81\x00\x01\x01", "\x80\x80\x00\x00\x00", "\x88\x00\x08\xff", "\x08\x88\x00\xff", "\x08\x88\x80\x00\xff", "\x80\x81\x00\x80\x01" + strings.Repeat("\x00", 16), "\x80\x01\x80\x81\x00" + strings.Repeat("\x00", 16),
		strings.Repeat("\x80", 9) + "\x01", "\x00" + strings.Repeat("\x80", 9) + "\x01", "\x08" + strings.Repeat("\x80", 9) + "\x01", "\x08" + strings.Repeat("\xff", 9) + "\x01",
	} {
		fails(t, b, api.ErrForm)
	}
}

func TestReadBehindAnError(t *testing.T) {
	for _, e := range []api.Errno{api.ErrArg, api.ErrCut, api.ErrForm, api.ErrPlan, api.ErrPattern} {
		for _, b := range []string{"", "\x00\x00\x00", "\x00\x02\x01\x02", "\x08\x08\xff", "\x08\x07\x01", "\x00\x02\x01\x01", "\x80\x80\x08", "\x80"} {
			c := cursor.New([]byte(b))
			c.Fail(e)
			if f := gram.Read(c); c.End() != e || c.Left() != len(b) || !none(f) {
				t.Errorf("Read of %x behind the error %d: %s, error %d, %d left", b, e, told(f), c.End(), c.Left())
			}
		}
	}
}

func TestReadKeepsItsError(t *testing.T) {
	for b, want := range map[string]api.Errno{"\x08\x07\x01\x00\x00\x00": api.ErrForm, "\x00\x02\x01\x01\x00\x00\x00": api.ErrForm, "\x81\x80\x04\x00\x00\x00": api.ErrForm, "\x09\x09\xff": api.ErrCut, "\x00\x02\x08\x01": api.ErrCut} {
		c := cursor.New([]byte(b))
		gram.Read(c)
		left := c.Left()
		c.Fail(api.ErrPlan)
		if f := gram.Read(c); c.End() != want || c.Left() != left || !none(f) {
			t.Errorf("Read of %x again: %s, error %d, %d left", b, told(f), c.End(), c.Left())
		}
	}
}

// reader reads what the words tell, up to the first error.
type reader struct {
	b string
	e api.Errno
}

func (r *reader) fail(e api.Errno) {
	if r.e == api.OK {
		r.e = e
	}
}

func (r *reader) take(n int) string {
	if n > len(r.b) {
		r.fail(api.ErrCut)
	}
	if r.e != api.OK {
		return strings.Repeat("\x00", n)
	}
	s := r.b[:n]
	r.b = r.b[n:]
	return s
}

// number reads a varint of a number that isn't above n; of at most 65536, so
// that a few bytes do.
func (r *reader) number(n int) int {
	x := 0
	for i := 0; r.e == api.OK; i++ {
		b := int(r.take(1)[0])
		x |= b % 128 << (7 * i)
		if b < 128 {
			if i > 0 && b == 0 || x > n {
				r.fail(api.ErrForm)
			}
			break
		}
		if i == 4 {
			panic("so long a varint is no thing of this reader")
		}
	}
	if r.e != api.OK {
		return 0
	}
	return x
}

// numbers reads packed numbers bit by bit.
func (r *reader) numbers() []int {
	count := r.number(most)
	width := int(r.take(1)[0])
	if width > 32 {
		r.fail(api.ErrForm)
	}
	if r.e != api.OK {
		return nil
	}
	b := r.take((count*width + 7) / 8)
	l := make([]int, count)
	for i := range len(b) * 8 {
		so := int(b[i/8]) >> (i % 8) & 1
		if i < count*width {
			l[i/width] |= so << (i % width)
		} else if so == 1 {
			r.fail(api.ErrForm)
		}
	}
	if widthOf(l) != width {
		r.fail(api.ErrForm)
	}
	return l
}

// filter reads a filter.
func (r *reader) filter() api.Filter {
	f := api.Filter{Bits: r.number(most)}
	if f.Bits == 0 {
		f.List = r.numbers()
		for i := range f.List {
			if i > 0 {
				f.List[i] += f.List[i-1]
			}
			if i > 0 && f.List[i] <= f.List[i-1] || f.List[i] > greatest {
				r.fail(api.ErrForm)
				break
			}
		}
		return f
	}
	count := r.number(f.Bits)
	b := r.take((count + 7) / 8)
	for i := range len(b) * 8 {
		so := b[i/8]>>(i%8)&1 == 1
		if i < count {
			f.Set = append(f.Set, so)
		} else if so {
			r.fail(api.ErrForm)
		}
	}
	if count != f.Bits {
		r.fail(api.ErrForm)
	}
	return f
}

// stands checks that of b that is read which the words tell, and that it is
// written as it stood. It says whether a filter is there.
func stands(t *testing.T, b string) bool {
	t.Helper()
	r := &reader{b: b}
	want := r.filter()
	if r.e != api.OK {
		c := cursor.New([]byte(b))
		if f := gram.Read(c); c.Good() || c.End() != r.e || !none(f) {
			t.Errorf("Read of %x is %s, error %d, not %d", b, told(f), c.End(), r.e)
		}
		return false
	}
	reads(t, b, want, len(r.b))
	if two := gram.Write(want); string(two)+r.b != b {
		t.Errorf("what is read of %x is written as %x", b, two)
	}
	return true
}

// P15.4

// again checks that a filter is written as the words say, read as it was, and
// written once more as it stood.
func again(t *testing.T, f api.Filter) {
	t.Helper()
	b := gram.Write(f)
	if want := bytesOf(f); string(b) != want {
		t.Errorf("Write of %s is %.60x, not %.60x", told(f), b, want)
	}
	c := cursor.New(b)
	two := gram.Read(c)
	if c.End() != api.OK || !alike(f, two) {
		t.Errorf("%s is read as %s, error %d", told(f), told(two), c.End())
	}
	if again := gram.Write(two); !bytes.Equal(b, again) {
		t.Errorf("%.60x is written again as %.60x", b, again)
	}
}

func TestWhatIsWrittenIsRead(t *testing.T) {
	for _, f := range filters(t) {
		again(t, f)
	}
	next := draws(6)
	for range 3000 {
		again(t, made(t, drawn(next, 30), next(2)*next(200)))
	}
	for _, n := range []int{65535, 65536} {
		again(t, made(t, texts(every(n, 0, 1)), 0))
		again(t, made(t, texts(every(n, greatest, -256)), 0))
	}
}

// Each byte of some filters, turned to each other one, put in and taken out:
// most are refused, and what is read is written as it stands.
func TestWhatIsReadIsWrittenAsItStood(t *testing.T) {
	right := 0
	for _, f := range []api.Filter{{}, made(t, []string{"\x00\x00\x00"}, 0), made(t, []string{"abcd"}, 0), made(t, texts(every(9, 0, 1)), 0), made(t, []string{"\x00\x00\x00", "\xff\xff\xff"}, 0), made(t, []string{mixed(12)}, 0), made(t, nil, 1), made(t, []string{"abcd"}, 1), made(t, []string{"abcd"}, 7), made(t, []string{"abcd"}, 8), made(t, []string{"abcd"}, 9), made(t, []string{mixed(40)}, 60), made(t, []string{"abc"}, 130)} {
		b := []byte(bytesOf(f))
		for i := range b {
			for x := range 256 {
				turned := slices.Clone(b)
				turned[i] = byte(x)
				for _, s := range []string{string(turned), string(slices.Insert(slices.Clone(b), i, byte(x)))} {
					if stands(t, s) {
						right++
					}
				}
			}
			stands(t, string(slices.Delete(slices.Clone(b), i, i+1)))
			stands(t, string(b[:i]))
		}
	}
	if right < 5000 {
		t.Errorf("but %d stood", right)
	}
}

func TestDrawnBytes(t *testing.T) {
	next := draws(7)
	right := 0
	for range 200000 {
		b := []byte(varint(next(4) * next(20)))
		if b[0] > 0 && next(4) > 0 {
			b = append(b, b[0])
		}
		for range next(9) {
			b = append(b, "\x00\x01\x02\x03\x04\x08\x18\x7f"[next(8)])
		}
		if stands(t, string(b)) {
			right++
		}
	}
	if right < 20000 {
		t.Errorf("but %d stood", right)
	}
}

// A filter has each gram of its strings, and may have each part of them.
func TestFiltersHaveTheirStrings(t *testing.T) {
	for _, l := range lists() {
		for _, bits := range sizes {
			f := made(t, l, bits)
			for _, s := range l {
				for _, g := range gramsOf(s) {
					if !gram.Has(f, g) {
						t.Fatalf("the filter of %.60q, %d hasn't %x", few(l), bits, g)
					}
				}
				if len(l) > 100 && bits > 2 {
					continue
				}
				for _, part := range parts(s) {
					if !gram.May(f, part) {
						t.Fatalf("the filter of %.60q, %d may not have %.40q", few(l), bits, part)
					}
				}
			}
		}
	}
}

// parts are parts of a string: all of a short one, some of a long one.
func parts(s string) []string {
	if len(s) > 20 {
		return []string{s, s[1:], s[:len(s)-1], s[len(s)/2:], s[:len(s)/3], s[7:19]}
	}
	var all []string
	for i := range len(s) + 1 {
		for k := i; k <= len(s); k++ {
			all = append(all, s[i:k])
		}
	}
	return all
}

// An exact filter has no other grams than those of its strings.
func TestExactFiltersHaveNoOthers(t *testing.T) {
	next := draws(8)
	for _, l := range lists() {
		f, want := made(t, l, 0), gramsOf(l...)
		if !slices.Equal(f.List, want) {
			t.Errorf("the filter of %.60q is %s, not %s", few(l), told(f), told(filterOf(want, 0)))
		}
		for range 300 {
			g := next(greatest + 1)
			if _, there := slices.BinarySearch(want, g); gram.Has(f, g) != there {
				t.Errorf("the filter of %.60q, and %x: %v", few(l), g, !there)
			}
		}
	}
	f := made(t, []string{"abcabc", "\x00\x00\x00\xff\xff\xff"}, 0)
	n := 0
	for g := range greatest + 1 {
		if gram.Has(f, g) {
			n++
		}
	}
	if n != 7 || len(f.List) != 7 {
		t.Errorf("of 7 grams %d are there, of %d in the list", n, len(f.List))
	}
}

// P15.5

func TestWhatIsHandedInStays(t *testing.T) {
	l := []string{"xyz", "abc", "", "abc", "ab"}
	was := slices.Clone(l)
	for _, bits := range slices.Concat(sizes, wrongSizes) {
		gram.Make(l[:4], bits)
		if !slices.Equal(l, was) {
			t.Errorf("what is handed in became %q", l)
		}
	}
	for _, f := range []api.Filter{{List: []int{1, 5, 7}}, {Bits: 3, Set: []bool{true, false, true}}, {List: []int{7, 5, 5}}, {Bits: 2, Set: []bool{true}}} {
		list, set := slices.Clone(f.List), slices.Clone(f.Set)
		gram.Write(f)
		gram.Has(f, 5)
		gram.May(f, "abcd")
		if !slices.Equal(f.List, list) || !slices.Equal(f.Set, set) {
			t.Errorf("what is handed in became %s", told(f))
		}
	}
	for _, x := range written {
		b := []byte(x.b)
		gram.Read(cursor.New(b))
		if string(b) != x.b {
			t.Errorf("what is handed in became %.60x, not %.60x", b, x.b)
		}
	}
}

// overwrite writes into all that a filter has, and into what lies behind it.
func overwrite(f api.Filter) {
	for i := range f.List[:cap(f.List)] {
		f.List[:cap(f.List)][i] = 0x7a7a7a
	}
	for i := range f.Set[:cap(f.Set)] {
		f.Set[:cap(f.Set)][i] = !f.Set[:cap(f.Set)][i]
	}
}

func TestAnswersAreNewMemory(t *testing.T) {
	for _, l := range lists() {
		s := strings.Join(l, "")
		one, two, want := gram.Grams(s), gram.Grams(s), gramsOf(s)
		clear(one[:cap(one)])
		if !slices.Equal(two, want) || !slices.Equal(gram.Grams(s), want) {
			t.Errorf("Grams of %.60q, once others are cleared, are %s", s, told(api.Filter{List: two}))
		}
		for _, bits := range []int{0, 1, 9, 64, 65536} {
			newMemory(t, l, bits)
		}
	}
}

// newMemory checks that of several filters, and their bytes, none has what
// another one has.
func newMemory(t *testing.T, l []string, bits int) {
	t.Helper()
	want := filterOf(gramsOf(l...), bits)
	a, b := made(t, l, bits), made(t, l, bits)
	bytesA, bytesB := gram.Write(a), gram.Write(a)
	c := cursor.New(slices.Concat(bytesA, bytesA))
	readA, readB := gram.Read(c), gram.Read(c)
	overwrite(a)
	overwrite(readA)
	clear(bytesA[:cap(bytesA)])
	for _, f := range []api.Filter{b, readB, made(t, l, bits), gram.Read(cursor.New(bytesB))} {
		if !alike(f, want) {
			t.Errorf("the filter of %.60q, %d, once others are turned, is %s", few(l), bits, told(f))
		}
	}
	if string(bytesB) != bytesOf(want) {
		t.Errorf("the bytes of %.60q, %d, once others are cleared, are %.60x", few(l), bits, bytesB)
	}
}

func TestWhatIsHandedInIsNotKept(t *testing.T) {
	for _, x := range written {
		b := []byte(x.b)
		c := cursor.New(b)
		clear(b)
		if f := gram.Read(c); !alike(f, x.f) {
			t.Errorf("%.60x, once it is cleared, is read as %s", x.b, told(f))
		}
	}
	l := []string{"abc", "xyz"}
	f := made(t, l, 0)
	clear(l)
	if !alike(f, filterOf([]int{0x616263, 0x78797a}, 0)) {
		t.Errorf("the filter became %s", told(f))
	}
}

// P1

func TestWhateverIsReadEnds(t *testing.T) {
	next := draws(9)
	for range 200000 {
		b := make([]byte, next(20))
		for i := range b {
			b[i] = byte(next(256) >> next(9))
		}
		c := cursor.New(b)
		f := gram.Read(c)
		if !c.Good() && (!none(f) || c.End() != api.ErrCut && c.End() != api.ErrForm) {
			t.Fatalf("%x is read as %s, with error %d", b, told(f), c.End())
		}
		gram.Has(f, next(greatest+1))
		gram.May(f, string(b))
	}
}

func TestWhateverIsAskedEnds(t *testing.T) {
	wrong := []api.Filter{{Bits: -1}, {Bits: math.MinInt}, {Bits: math.MaxInt}, {Bits: 5}, {Bits: 5, Set: []bool{true}}, {Bits: -5, Set: same(9, true)}, {List: []int{9, 3, 7, 7}}, {List: []int{math.MinInt, math.MaxInt}}, {List: []int{math.MaxInt, math.MinInt}}, {List: []int{-1, 1 << 40}}, {Bits: 2, List: []int{1}}, {Set: []bool{true}}}
	for _, f := range append(filters(t), wrong...) {
		for _, g := range []int{-1, -2, -65521, math.MinInt, math.MinInt + 1, greatest + 1, 1 << 32, 1 << 62, math.MaxInt} {
			if gram.Has(f, g) {
				t.Errorf("%s has %d, which is no gram", told(f), g)
			}
		}
		for _, s := range asked {
			gram.May(f, s)
		}
		gram.Write(f)
	}
	if f := gram.Read(nil); !none(f) {
		t.Errorf("of nothing %s is read", told(f))
	}
}
