package text_test

import (
	"bytes"
	"math"
	"slices"
	"strings"
	"testing"
	"unsafe"

	"hopper/text"
)

// span is bytes from the first to the last one.
type span struct{ first, last byte }

// forms are the bytes of well-formed UTF-8, point by point, as the Unicode
// standard lists them.
var forms = [][]span{
	{{0x00, 0x7f}},
	{{0xc2, 0xdf}, {0x80, 0xbf}},
	{{0xe0, 0xe0}, {0xa0, 0xbf}, {0x80, 0xbf}},
	{{0xe1, 0xec}, {0x80, 0xbf}, {0x80, 0xbf}},
	{{0xed, 0xed}, {0x80, 0x9f}, {0x80, 0xbf}},
	{{0xee, 0xef}, {0x80, 0xbf}, {0x80, 0xbf}},
	{{0xf0, 0xf0}, {0x90, 0xbf}, {0x80, 0xbf}, {0x80, 0xbf}},
	{{0xf1, 0xf3}, {0x80, 0xbf}, {0x80, 0xbf}, {0x80, 0xbf}},
	{{0xf4, 0xf4}, {0x80, 0x8f}, {0x80, 0xbf}, {0x80, 0xbf}},
}

// begins says whether s begins as the form says.
func begins(s string, form []span) bool {
	if len(s) < len(form) {
		return false
	}
	for i, x := range form {
		if s[i] < x.first || s[i] > x.last {
			return false
		}
	}
	return true
}

// first is the first point of a string that has one, and how many bytes it
// takes, as the chapter's words say it.
func first(s string) (point, size int) {
	for _, form := range forms {
		if !begins(s, form) {
			continue
		}
		point = int(s[0])
		if len(form) > 1 {
			point &= 0xff >> (len(form) + 1)
		}
		for _, c := range []byte(s[1:len(form)]) {
			point = point<<6 | int(c&0x3f)
		}
		return point, len(form)
	}
	return 0x110000 + int(s[0]), 1
}

// parts are the points of a string, and the bytes of each.
func parts(s string) (points []int, pieces []string) {
	for len(s) > 0 {
		point, size := first(s)
		points, pieces = append(points, point), append(pieces, s[:size])
		s = s[size:]
	}
	return points, pieces
}

// encoded are the bytes of a code point.
func encoded(point int) string {
	low := func(shift int) byte { return 0x80 | byte(point>>shift)&0x3f }
	switch {
	case point < 0x80:
		return string([]byte{byte(point)})
	case point < 0x800:
		return string([]byte{0xc0 | byte(point>>6), low(0)})
	case point < 0x10000:
		return string([]byte{0xe0 | byte(point>>12), low(6), low(0)})
	}
	return string([]byte{0xf0 | byte(point>>18), low(12), low(6), low(0)})
}

// surrogate says whether a number stands where no code point is.
func surrogate(point int) bool {
	return point >= 0xd800 && point <= 0xdfff
}

// joined are some strings, one behind the other, over and over, of n bytes.
func joined(n int, l ...string) string {
	s := strings.Join(l, "")
	return strings.Repeat(s, n/len(s)+1)[:n]
}

// draws answers a function that draws numbers below n, the same each time for
// one seed.
func draws(seed uint32) func(n int) int {
	return func(n int) int {
		seed = seed*1664525 + 1013904223
		return int(seed>>8) % n
	}
}

// edges are bytes where something begins or ends in UTF-8.
var edges = []byte{
	0x00, 0x41, 0x7f, 0x80, 0x8f, 0x90, 0x9f, 0xa0, 0xbf, 0xc0, 0xc1, 0xc2, 0xdf, 0xe0, 0xe1, 0xec, 0xed, 0xee, 0xef, 0xf0, 0xf1, 0xf3, 0xf4, 0xf5, 0xff,
}

// drawn are strings of all sorts, the same each time for one seed.
func drawn(count int, seed uint32) []string {
	next := draws(seed)
	var l []string
	for range count {
		var b []byte
		for range next(12) {
			switch next(3) {
			case 0:
				b = append(b, edges[next(len(edges))])
			case 1:
				b = append(b, encoded(next(0xd800)>>next(16))...)
			default:
				b = append(b, encoded(0xe000+next(0x110000-0xe000))...)
			}
		}
		l = append(l, string(b))
	}
	return l
}

// texts are strings with ordinary points, the least and the greatest of each
// length, and bytes that are none, of all sorts.
var texts = []string{
	"", "a", "b", "ab", "abc", "A", "Z", "z", "aB", "\x00", "\x00\x00", "\x7f", "\x7fa",
	"\u0080", "\u07ff", "\u0800", "\ud7ff", "\ue000", "\uffff", "\U00010000", "\U0010ffff",
	"ä", "Ä", "äb", "aä", "日本語", "a\u00e4\u20ac\U0001f600", "\U0001f600\u20ac\u00e4a",
	"\ufffd", "\ufffd\xff", "\xff\ufffd", "\ufffc", "\ufffe", "\xef\xbf", "\xef", "\xbf\xbd", "\xef\xbf\xbe", "\xef\xbf\xef\xbf\xbd",
	"\x80", "\xbf", "\xc0", "\xc1", "\xc2", "\xdf", "\xe0", "\xed", "\xf0", "\xf4", "\xf5", "\xf8", "\xfe", "\xff",
	"\xc0\x80", "\xc1\xbf", "\xe0\x80\x80", "\xe0\x9f\xbf", "\xf0\x80\x80\x80", "\xf0\x8f\xbf\xbf",
	"\xed\xa0\x80", "\xed\xbf\xbf", "\xed\xa0\x80\xed\xb0\x80", "\xf4\x90\x80\x80", "\xf4\xbf\xbf\xbf", "\xf5\x80\x80\x80", "\xf8\x88\x80\x80\x80",
	"\xc3", "\xe2\x82", "\xe2", "\xf0\x9f\x98", "\xf0\x9f", "\xc3a", "\xe2\x82a", "\xf0\x9f\x98a", "\xc3\xc3\xa4", "\xe2\x82\xe2\x82\xac", "\xf0\x9f\x98\xf0\x9f\x98\x80",
	"\u00e4\x80", "\u20ac\x82", "\U0001f600\x80", "a\xffb", "\u00e4b\xffc", "c\u00e4\xff",
}

// whole are the texts, and long strings.
func whole() []string {
	return append(slices.Clone(texts),
		joined(4096, "a"), joined(4096, "ä"), joined(4095, "ä"), joined(4096, "€"), joined(4096, "\U0001f600"), joined(4096, "\xff"),
		joined(4096, texts...), joined(100000, texts...), joined(4096, "aZ\u00e4\xff\u20ac\ufffd"))
}

// saysPoints checks a string's points, their number, and the string of them.
func saysPoints(t *testing.T, s string, want []int) {
	t.Helper()
	if p := text.Points(s); !slices.Equal(p, want) {
		t.Errorf("Points of % x: %x, not %x", s, p, want)
	}
	if n := text.Len(s); n != len(want) {
		t.Errorf("Len of % x is %d, not %d", s, n, len(want))
	}
	if again := text.Bytes(want); again != s {
		t.Errorf("Bytes of %x: % x, not % x", want, again, s)
	}
}

// P8.1

func TestPointsOfStrings(t *testing.T) {
	for _, x := range []struct {
		s    string
		want []int
	}{
		{"", nil},
		{"a", []int{'a'}},
		{"abc", []int{'a', 'b', 'c'}},
		{"\x00", []int{0}},
		{"\xc3\xa4\xff", []int{0xe4, 0x1100ff}},
		{"日本語", []int{0x65e5, 0x672c, 0x8a9e}},
		{"a\xc3\xa4\xe2\x82\xac\xf0\x9f\x98\x80", []int{'a', 0xe4, 0x20ac, 0x1f600}},
		// the least and the greatest of each length
		{"\x00\x7f", []int{0, 0x7f}},
		{"\xc2\x80\xdf\xbf", []int{0x80, 0x7ff}},
		{"\xe0\xa0\x80\xef\xbf\xbf", []int{0x800, 0xffff}},
		{"\xf0\x90\x80\x80\xf4\x8f\xbf\xbf", []int{0x10000, 0x10ffff}},
		// beside the surrogates
		{"\xed\x9f\xbf\xee\x80\x80", []int{0xd7ff, 0xe000}},
	} {
		saysPoints(t, x.s, x.want)
	}
}

func TestPointsOfBytesThatAreNone(t *testing.T) {
	for _, x := range []struct {
		s    string
		want []int
	}{
		{"\x80\xbf", []int{0x110080, 0x1100bf}},
		// overlong
		{"\xc0\x80", []int{0x1100c0, 0x110080}},
		{"\xc1\xbf", []int{0x1100c1, 0x1100bf}},
		{"\xe0\x80\x80", []int{0x1100e0, 0x110080, 0x110080}},
		{"\xe0\x9f\xbf", []int{0x1100e0, 0x11009f, 0x1100bf}},
		{"\xf0\x80\x80\x80", []int{0x1100f0, 0x110080, 0x110080, 0x110080}},
		{"\xf0\x8f\xbf\xbf", []int{0x1100f0, 0x11008f, 0x1100bf, 0x1100bf}},
		// surrogates
		{"\xed\xa0\x80", []int{0x1100ed, 0x1100a0, 0x110080}},
		{"\xed\xbf\xbf", []int{0x1100ed, 0x1100bf, 0x1100bf}},
		// above 10ffff
		{"\xf4\x90\x80\x80", []int{0x1100f4, 0x110090, 0x110080, 0x110080}},
		{"\xf4\xbf\xbf\xbf", []int{0x1100f4, 0x1100bf, 0x1100bf, 0x1100bf}},
		{"\xf5\x80\x80\x80", []int{0x1100f5, 0x110080, 0x110080, 0x110080}},
		{"\xff\xbf\xbf\xbf", []int{0x1100ff, 0x1100bf, 0x1100bf, 0x1100bf}},
		// cut off at the end
		{"\xc3", []int{0x1100c3}},
		{"\xe2\x82", []int{0x1100e2, 0x110082}},
		{"\xf0\x9f\x98", []int{0x1100f0, 0x11009f, 0x110098}},
		// cut off by another's beginning
		{"\xc3a", []int{0x1100c3, 'a'}},
		{"\xc3\xc3\xa4", []int{0x1100c3, 0xe4}},
		{"\xe2\x82\xe2\x82\xac", []int{0x1100e2, 0x110082, 0x20ac}},
		{"\xf0\x9f\x98\xf0\x9f\x98\x80", []int{0x1100f0, 0x11009f, 0x110098, 0x1f600}},
		// one byte too many
		{"\xc3\xa4\xa4", []int{0xe4, 0x1100a4}},
		{"\xe2\x82\xac\xac", []int{0x20ac, 0x1100ac}},
	} {
		saysPoints(t, x.s, x.want)
	}
}

func TestFffdIsAPoint(t *testing.T) {
	for s, want := range map[string][]int{
		"\xef\xbf\xbd":                 {0xfffd},
		"\xef\xbf\xbd\xff":             {0xfffd, 0x1100ff},
		"\xff\xef\xbf\xbd":             {0x1100ff, 0xfffd},
		"\xef\xbf\xbd\xef":             {0xfffd, 0x1100ef},
		"\xef\xbf\xbd\xef\xbf":         {0xfffd, 0x1100ef, 0x1100bf},
		"\xef\xbf":                     {0x1100ef, 0x1100bf},
		"\xef\xbf\xef\xbf\xbd\xbf\xbd": {0x1100ef, 0x1100bf, 0xfffd, 0x1100bf, 0x1100bd},
		"\xef\xef\xbf\xbd":             {0x1100ef, 0xfffd},
		"\xef\xbf\xbd\xef\xbf\xbd":     {0xfffd, 0xfffd},
		"\xbd\xef\xbf\xbd":             {0x1100bd, 0xfffd},
	} {
		saysPoints(t, s, want)
	}
}

func TestPointsOfEachCodePoint(t *testing.T) {
	for x := range 0x110000 {
		s := encoded(x)
		if !surrogate(x) {
			if p := text.Points(s); len(p) != 1 || p[0] != x || text.Len(s) != 1 || text.Bytes(p) != s {
				t.Errorf("%x: Points %x, Len %d, Bytes % x", x, p, text.Len(s), text.Bytes(p))
			}
			continue
		}
		saysPoints(t, s, []int{0x110000 + int(s[0]), 0x110000 + int(s[1]), 0x110000 + int(s[2])})
	}
}

func TestPointsOfEachByte(t *testing.T) {
	for x := range 256 {
		s, want := string([]byte{byte(x)}), x
		if x >= 0x80 {
			want += 0x110000
		}
		saysPoints(t, s, []int{want})
		saysPoints(t, "a"+s+"b", []int{'a', want, 'b'})
	}
}

func TestPointsOfEachTwoBytes(t *testing.T) {
	for x := range 65536 {
		s := string([]byte{byte(x >> 8), byte(x)})
		want, _ := parts(s)
		saysPoints(t, s, want)
	}
}

func TestPointsOfFourBytesAtTheEdges(t *testing.T) {
	for _, c0 := range edges {
		for _, c1 := range edges {
			for _, c2 := range edges {
				for _, c3 := range edges {
					s := string([]byte{c0, c1, c2, c3})
					want, _ := parts(s)
					saysPoints(t, s, want)
				}
			}
		}
	}
}

func TestPointsAsTheWordsSay(t *testing.T) {
	for _, s := range append(whole(), drawn(20000, 1)...) {
		want, _ := parts(s)
		saysPoints(t, s, want)
	}
}

func TestBytesOfPoints(t *testing.T) {
	for _, x := range []struct {
		p    []int
		want string
	}{
		{nil, ""},
		{[]int{}, ""},
		{[]int{'a'}, "a"},
		{[]int{0}, "\x00"},
		{[]int{0x7f, 0x80, 0x7ff, 0x800}, "\x7f\xc2\x80\xdf\xbf\xe0\xa0\x80"},
		{[]int{0xd7ff, 0xe000, 0xfffd, 0xffff, 0x10000, 0x10ffff}, "\xed\x9f\xbf\xee\x80\x80\xef\xbf\xbd\xef\xbf\xbf\xf0\x90\x80\x80\xf4\x8f\xbf\xbf"},
		{[]int{0x1100ff, 0xfffd, 0x1100ef}, "\xff\xef\xbf\xbd\xef"},
	} {
		if s := text.Bytes(x.p); s != x.want {
			t.Errorf("Bytes of %x: % x, not % x", x.p, s, x.want)
		}
	}
	for x := range 256 {
		if s := text.Bytes([]int{0x110000 + x}); s != string([]byte{byte(x)}) {
			t.Errorf("Bytes of %x: % x", 0x110000+x, s)
		}
	}
}

// P8.2

// subs checks a string's Sub.
func subs(t *testing.T, s string, from, n int, want string) {
	t.Helper()
	if got := text.Sub(s, from, n); got != want {
		t.Errorf("Sub of %.40q from %d on, %d: %.40q (%d bytes), not %.40q (%d)", s, from, n, got, len(got), want, len(want))
	}
}

func TestSub(t *testing.T) {
	s := "\u00e4b\xffc"
	for _, x := range []struct {
		from, n int
		want    string
	}{
		{0, 1, "\u00e4"}, {0, 2, "\u00e4b"}, {0, 3, "\u00e4b\xff"}, {0, 4, s}, {0, 5, s},
		{1, 1, "b"}, {1, 2, "b\xff"}, {1, 3, "b\xffc"}, {1, 4, "b\xffc"},
		{2, 1, "\xff"}, {2, 99, "\xffc"}, {3, 1, "c"}, {3, 2, "c"},
		{4, 1, ""}, {5, 1, ""}, {99, 99, ""},
		{0, 0, ""}, {1, 0, ""}, {3, 0, ""}, {0, -1, ""}, {2, -1, ""}, {4, -1, ""},
		{-1, 1, "\u00e4"}, {-1, 2, "\u00e4b"}, {-5, 2, "\u00e4b"}, {-1, 4, s}, {-1, 0, ""}, {-1, -1, ""},
	} {
		subs(t, s, x.from, x.n, x.want)
	}
}

func TestSubOfTheGreatestNumbers(t *testing.T) {
	for _, s := range []string{"", "a", "\u00e4b\xffc", "\U0001f600\u20ac"} {
		_, pieces := parts(s)
		last := len(pieces) - 1
		for _, great := range []int{math.MaxInt, math.MaxInt - 1, math.MaxInt32, 1 << 32, 1<<32 + 1, 1 << 62} {
			subs(t, s, 0, great, s)
			subs(t, s, -1, great, s)
			subs(t, s, math.MinInt, great, s)
			subs(t, s, 1, great, strings.Join(pieces[min(1, len(pieces)):], ""))
			subs(t, s, last, great, strings.Join(pieces[max(last, 0):], ""))
			subs(t, s, great, great, "")
			subs(t, s, great, 1, "")
			subs(t, s, great, -great, "")
			subs(t, s, 0, -great, "")
			subs(t, s, -great, -great, "")
			subs(t, s, -great, 1, strings.Join(pieces[:min(1, len(pieces))], ""))
		}
		subs(t, s, 0, math.MinInt, "")
		subs(t, s, math.MinInt, math.MinInt, "")
		subs(t, s, math.MaxInt, math.MinInt, "")
	}
}

func TestSubAsTheWordsSay(t *testing.T) {
	for _, s := range append(slices.Clone(texts), drawn(300, 2)...) {
		_, pieces := parts(s)
		for from := -2; from < len(pieces)+3; from++ {
			for n := -2; n < len(pieces)+3; n++ {
				low := min(max(from, 0), len(pieces))
				subs(t, s, from, n, strings.Join(pieces[low:min(low+max(n, 0), len(pieces))], ""))
			}
		}
	}
}

func TestSubOfLongStrings(t *testing.T) {
	for _, s := range whole() {
		_, pieces := parts(s)
		all := len(pieces)
		for _, from := range []int{0, all / 3, all - 1, all} {
			from = max(from, 0)
			left := all - from
			for _, n := range []int{0, 1, left - 1, left, left + 1} {
				high := min(from+max(n, 0), all)
				subs(t, s, from, n, strings.Join(pieces[from:high], ""))
			}
		}
	}
}

func TestFold(t *testing.T) {
	for s, want := range map[string]string{
		"":                           "",
		"A":                          "a",
		"Z":                          "z",
		"a":                          "a",
		"z":                          "z",
		"AbC xYz 09":                 "abc xyz 09",
		"\x40AZ\x5b\x60az\x7b":       "\x40az\x5b\x60az\x7b",
		"\u00c4B\u00e4":              "\u00c4b\u00e4",
		"\xc1\xda\xc4":               "\xc1\xda\xc4",
		"\u212aK\u0130I\u017fS":      "\u212ak\u0130i\u017fs", // no other letter is folded
		"ABCDEFGHIJKLMNOPQRSTUVWXYZ": "abcdefghijklmnopqrstuvwxyz",
	} {
		if s := text.Fold(s); s != want {
			t.Errorf("%q, not %q", s, want)
		}
	}
}

// folded is the string, folded, as the chapter's words say it.
func folded(s string) string {
	b := []byte(s)
	for i, c := range b {
		if k := strings.IndexByte("ABCDEFGHIJKLMNOPQRSTUVWXYZ", c); k >= 0 {
			b[i] = "abcdefghijklmnopqrstuvwxyz"[k]
		}
	}
	return string(b)
}

func TestFoldOfEachByte(t *testing.T) {
	for x := range 256 {
		s := string([]byte{byte(x)})
		for _, s := range []string{s, "A" + s + "Z", s + s, "\xc3" + s} {
			if got := text.Fold(s); got != folded(s) {
				t.Errorf("Fold of %q is %q", s, got)
			}
		}
	}
}

func TestFoldAsTheWordsSay(t *testing.T) {
	for _, s := range append(whole(), drawn(5000, 3)...) {
		if got := text.Fold(s); got != folded(s) {
			t.Errorf("Fold of %.40q is %.40q", s, got)
		}
	}
}

// P8.3

// compares checks how two strings compare, either way round.
func compares(t *testing.T, name string, compare func(a, b string) int, a, b string, want int) {
	t.Helper()
	if c := compare(a, b); c != want {
		t.Errorf("%s of %.40q, %.40q is %d, not %d", name, a, b, c, want)
	}
	if c := compare(b, a); c != -want {
		t.Errorf("%s of %.40q, %.40q is %d, not %d", name, b, a, c, -want)
	}
}

func TestByPoints(t *testing.T) {
	long := joined(4000, "a\u00e4\xff\ufffd")
	for _, x := range []struct {
		a, b string
		want int
	}{
		{"", "", 0}, {"a", "a", 0}, {"\u00e4\xff", "\u00e4\xff", 0}, {"\ufffd", "\ufffd", 0}, {"\xff", "\xff", 0}, {long, long, 0},
		// one is the other's beginning
		{"", "a", -1}, {"", "\x00", -1}, {"", "\xff", -1}, {"a", "ab", -1}, {"a", "a\x00", -1}, {"\u00e4", "\u00e4\u00e4", -1}, {"\xff", "\xff\xff", -1}, {long, long + "\x00", -1},
		// the last point tells
		{"ab", "ac", -1}, {"\u00e4\u20ac", "\u00e4\u20ad", -1}, {"\u00e4\xfe", "\u00e4\xff", -1}, {long + "\u07ff", long + "\u0800", -1}, {long + "\U0001f600", long + "\U0001f601", -1},
		// the first one that isn't alike tells
		{"ab", "b", -1}, {"abz", "aca", -1}, {"a\u00e4z", "a\u00e5", -1},
		// folding says nothing
		{"A", "a", -1}, {"Z", "a", -1},
		// lengths of points
		{"\x7f", "\u0080", -1}, {"\u07ff", "\u0800", -1}, {"\uffff", "\U00010000", -1}, {"\ud7ff", "\ue000", -1}, {"\ue000", "\ufffd", -1},
		// a byte that is none stands behind whatever is well-formed, though bytes say otherwise
		{"\U0010ffff", "\x80", -1}, {"\U0010ffff", "\xc3", -1}, {"\u00e4", "\x80", -1}, {"\u00e4", "\xc3", -1}, {"\u00e4", "\xc3a", -1}, {"\u00e4", "\xff", -1},
		{"\ufffd", "\xff", -1}, {"\ufffd", "\x80", -1}, {"\ufffd", "\xef\xbf", -1}, {"\ufffe", "\xef\xbf", -1}, {"\ufffd", "\xed\xa0\x80", -1}, {"\U0010ffff", "\xf4\x90\x80\x80", -1},
		{"z\U0010ffff", "z\x80", -1}, {long + "\u20ac", long + "\xe2\x82", -1}, {"\x7f", "\x80", -1}, {"\u20aca", "\xe2\x82", -1}, {"\xe2\u20ac", "\xe2\x82", -1},
		// of two that are none the byte tells
		{"\x80", "\xbf", -1}, {"\xbf", "\xc0", -1}, {"\xc3", "\xe2\x82", -1}, {"\xfe", "\xff", -1}, {"\xe2\x82", "\xe2\x83", -1}, {"\xe2", "\xe2\x82", -1},
	} {
		compares(t, "ByPoints", text.ByPoints, x.a, x.b, x.want)
	}
}

func TestByPointsAsTheWordsSay(t *testing.T) {
	l := append(slices.Clone(texts), drawn(300, 4)...)
	for _, tail := range []string{"", "\x80", "\xbf", "a", "\u00e4"} {
		l = append(l, joined(4000, "x\u20ac\xff")+tail)
	}
	for _, a := range l {
		p, _ := parts(a)
		for _, b := range l {
			q, _ := parts(b)
			compares(t, "ByPoints", text.ByPoints, a, b, slices.Compare(p, q))
		}
	}
}

func TestByPointsOfEachTwoBytes(t *testing.T) {
	var l []string
	for _, c := range edges {
		for _, d := range edges {
			l = append(l, string([]byte{c, d}), string([]byte{c, d, 0xbd}))
		}
	}
	for _, a := range l {
		p, _ := parts(a)
		for _, b := range l {
			q, _ := parts(b)
			compares(t, "ByPoints", text.ByPoints, a, b, slices.Compare(p, q))
		}
	}
}

func TestByFold(t *testing.T) {
	long := joined(4000, "aZ\u00e4\xff")
	for _, x := range []struct {
		a, b string
		want int
	}{
		{"", "", 0}, {"a", "a", 0}, {"\xff", "\xff", 0}, {long, long, 0},
		// alike but for A to Z
		{"A", "a", 0}, {"Z", "z", 0}, {"aBcD", "AbCd", 0}, {"\u00e4A\xff", "\u00e4a\xff", 0}, {long, "A" + long[1:], 0},
		// one is the other's beginning
		{"", "a", -1}, {"", "A", -1}, {"", "\x00", -1}, {"a", "AB", -1}, {"A", "ab", -1}, {"Z", "z\x00", -1}, {long, long + "\x00", -1},
		// the last byte tells
		{"aB", "Ac", -1}, {"ab", "AC", -1}, {"abC", "ABd", -1}, {long + "Y", long + "z", -1}, {long + "y", long + "Z", -1},
		// the first one that isn't alike tells
		{"Az", "bA", -1}, {"aA", "B", -1}, {"A", "b", -1}, {"a", "B", -1},
		// what is beside A to Z and a to z isn't folded
		{"@", "`", -1}, {"[", "{", -1}, {"@", "A", -1}, {"[", "Z", -1}, {"[", "A", -1}, {"_", "A", -1}, {"`", "A", -1}, {"Z", "{", -1}, {"9", "A", -1},
		// bytes tell, and not points
		{"\x80", "\u00e4", -1}, {"\u00c4", "\u00e4", -1}, {"\x80", "\U0010ffff", -1}, {"\xc3\xa4", "\xc4", -1}, {"\xc1", "\xe1", -1}, {"z", "\x80", -1}, {"\xef\xbf\xbd", "\xff", -1}, {"\x7f", "\x80", -1},
	} {
		compares(t, "ByFold", text.ByFold, x.a, x.b, x.want)
	}
}

func TestByFoldAsTheWordsSay(t *testing.T) {
	l := append(slices.Clone(texts), drawn(200, 5)...)
	for x := range 256 {
		l = append(l, string([]byte{byte(x)}), string([]byte{'K', byte(x)}))
	}
	for _, a := range l {
		for _, b := range l {
			compares(t, "ByFold", text.ByFold, a, b, bytes.Compare([]byte(folded(a)), []byte(folded(b))))
		}
	}
}

// P8.4

func TestBytesUndoesPoints(t *testing.T) {
	for _, s := range append(whole(), drawn(20000, 6)...) {
		if again := text.Bytes(text.Points(s)); again != s {
			t.Errorf("%.40q: again %.40q", s, again)
		}
	}
}

func TestPartsMakeTheString(t *testing.T) {
	for _, s := range append(slices.Clone(texts), drawn(500, 7)...) {
		for n := 1; n < 6; n++ {
			all := ""
			for from := 0; from < text.Len(s); from += n {
				part := text.Sub(s, from, n)
				if text.Len(part) > n || part == "" {
					t.Errorf("Sub of %q from %d on, %d: %q", s, from, n, part)
				}
				all += part
			}
			if all != s {
				t.Errorf("parts of %d make %q of %q", n, all, s)
			}
		}
		for n := range text.Len(s) + 2 {
			if all := text.Sub(s, 0, n) + text.Sub(s, n, math.MaxInt); all != s {
				t.Errorf("two parts, from %d on, make %q of %q", n, all, s)
			}
		}
	}
}

func TestFoldedTwiceIsAsOnce(t *testing.T) {
	for _, s := range append(whole(), drawn(5000, 8)...) {
		once := text.Fold(s)
		if twice := text.Fold(once); twice != once {
			t.Errorf("%.40q: %.40q, then %.40q", s, once, twice)
		}
		if c := text.ByFold(s, once); c != 0 {
			t.Errorf("ByFold of %.40q and it folded is %d", s, c)
		}
	}
}

func TestAlikeByPointsJustIfAlike(t *testing.T) {
	l := append(slices.Clone(texts), drawn(200, 9)...)
	for _, a := range l {
		for _, b := range l {
			if (text.ByPoints(a, b) == 0) != (a == b) {
				t.Errorf("%q and %q: %d", a, b, text.ByPoints(a, b))
			}
		}
	}
}

// P8.5

// apart checks that a string has no byte where another one has it.
func apart(t *testing.T, what, s, of string) {
	t.Helper()
	if s == "" || of == "" {
		return
	}
	at, from := uintptr(unsafe.Pointer(unsafe.StringData(s))), uintptr(unsafe.Pointer(unsafe.StringData(of)))
	if at < from+uintptr(len(of)) && from < at+uintptr(len(s)) {
		t.Errorf("%s of %.40q has the same memory", what, of)
	}
}

func TestStringsAreNewMemory(t *testing.T) {
	for _, s := range append(whole(), "already folded, and long enough to stand by itself") {
		s = strings.Clone(s)
		for _, from := range []int{-1, 0, 1, 2} {
			for _, n := range []int{1, 2, 100, math.MaxInt} {
				apart(t, "Sub", text.Sub(s, from, n), s)
			}
		}
		apart(t, "Fold", text.Fold(s), s)
		one, two := text.Fold(s), text.Fold(s)
		apart(t, "Fold", one, two)
		one, two = text.Sub(s, 0, len(s)), text.Sub(s, 0, len(s))
		apart(t, "Sub", one, two)
	}
}

func TestPointsAreNewMemory(t *testing.T) {
	for _, s := range whole() {
		want, _ := parts(s)
		one, two := text.Points(s), text.Points(s)
		clear(one[:cap(one)])
		if !slices.Equal(two, want) || !slices.Equal(text.Points(s), want) {
			t.Errorf("points of %.40q, once others are cleared: %x", s, two)
		}
	}
}

func TestBytesKeepsAndChangesNothing(t *testing.T) {
	for _, s := range whole() {
		want, _ := parts(s)
		p := append(slices.Clone(want), 'x')[:len(want)]
		got := text.Bytes(p)
		if !slices.Equal(p, want) || p[:len(p)+1][len(p)] != 'x' {
			t.Errorf("Bytes changes the points of %.40q", s)
		}
		clear(p)
		if got != s {
			t.Errorf("Bytes of %.40q, once its points are cleared: %.40q", s, got)
		}
	}
}

// P1

func TestWhateverNumbersEnd(t *testing.T) {
	numbers := []int{
		math.MinInt, math.MinInt32, -0x110000, -1, 0xd800, 0xdfff, 0x110100, 0x1100ff + 1, 0x111000, 0x120000, math.MaxInt32, 1 << 31, 1<<32 - 1, 1 << 32, 1<<32 + 'a', 1<<32 + 0x110041, math.MaxInt,
	}
	for _, x := range numbers {
		text.Bytes([]int{x})
		text.Bytes([]int{'a', x, 0xe4, x, 0x1100ff})
	}
	text.Bytes(numbers)
	next := draws(10)
	for range 1000 {
		var p []int
		for range next(20) {
			p = append(p, next(1<<24)<<next(40)-next(1<<24))
		}
		text.Bytes(p)
	}
}

func TestLongStringsEnd(t *testing.T) {
	for _, piece := range []string{"a", "Z", "\xff", "\u20ac", "\xe2\x82", "\ufffd", "\U0001f600"} {
		s := joined(1<<18, piece)
		want, _ := parts(s)
		if p := text.Points(s); !slices.Equal(p, want) || text.Len(s) != len(want) || text.Bytes(p) != s {
			t.Errorf("%q over and over: %d points", piece, len(p))
		}
		if text.Sub(s, 0, len(s)) != s || text.Sub(s, len(want), 1) != "" || text.Fold(s) != folded(s) {
			t.Errorf("%q over and over: Sub, or Fold", piece)
		}
		if text.ByPoints(s, s+"a") != -1 || text.ByFold(s, s+"a") != -1 || text.ByPoints(s, strings.Clone(s)) != 0 {
			t.Errorf("%q over and over: ByPoints, or ByFold", piece)
		}
	}
}
