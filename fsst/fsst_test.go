package fsst_test

import (
	"bytes"
	"math"
	"slices"
	"strings"
	"testing"
	"unsafe"

	"hopper/api"
	"hopper/fsst"
	"hopper/symbol"
)

// codesOf are a string's codes, as the words tell them: each symbol is looked
// at, at each place.
func codesOf(t []string, s string) []byte {
	var b []byte
	for at := 0; at < len(s); {
		code, size := -1, 0
		for i, x := range t {
			if strings.HasPrefix(s[at:], x) && len(x) > size {
				code, size = i, len(x)
			}
		}
		if code < 0 {
			b = append(b, 255, s[at])
			at++
		} else {
			b = append(b, byte(code))
			at += size
		}
	}
	return b
}

// stringOf is what codes stand for, as the words tell it, with the first error
// that is met, and how many codes and escapes are ahead of what is none.
func stringOf(t []string, b []byte, most int) (s string, e api.Errno, n int) {
	s, e, n = stringOfRest(t, b)
	if len(s) > most {
		e = api.ErrLimit
	}
	if e != api.OK {
		s = ""
	}
	return s, e, n
}

// stringOfRest is what codes stand for, up to the first that is none: the
// first one's piece, and then the rest's.
func stringOfRest(t []string, b []byte) (s string, e api.Errno, n int) {
	switch {
	case len(b) == 0:
		return "", api.OK, 0
	case b[0] == 255 && len(b) == 1:
		return "", api.ErrCut, 0
	case b[0] == 255:
		s, e, n = stringOfRest(t, b[2:])
		return string(b[1:2]) + s, e, n + 1
	case len(t) <= int(b[0]):
		return "", api.ErrForm, 0
	}
	s, e, n = stringOfRest(t, b[1:])
	return t[b[0]] + s, e, n + 1
}

// draws answers a function that draws numbers below n, the same each time for
// one seed.
func draws(seed uint32) func(n int) int {
	return func(n int) int {
		seed = seed*1664525 + 1013904223
		return int(seed>>8) % n
	}
}

// drawn is a string of fewer than n bytes, of few sorts.
func drawn(next func(int) int, n int) string {
	b := make([]byte, next(n))
	for i := range b {
		b[i] = "ab\x00\x7f\x80\xff\xfea"[next(8)]
	}
	return string(b)
}

// drawnTable is a table of fewer than n symbols.
func drawnTable(next func(int) int, n int) []string {
	l := make([]string, next(n))
	for i := range l {
		l[i] = drawn(next, 9)
	}
	return symbol.Order(l)
}

// drawnCodes are fewer than n codes, many of which a table of so many symbols
// has.
func drawnCodes(next func(int) int, n, symbols int) []byte {
	b := make([]byte, next(n))
	for i := range b {
		switch k := next(12); {
		case k == 0:
			b[i] = byte(next(256))
		case k <= 3:
			b[i] = 255
		default:
			b[i] = byte(next(symbols + 1))
		}
	}
	return b
}

// all are all strings of at most n of the bytes.
func all(n int, of string) []string {
	l := []string{""}
	from := 0
	for range n {
		to := len(l)
		for _, s := range l[from:to] {
			for i := range len(of) {
				l = append(l, s+of[i:i+1])
			}
		}
		from = to
	}
	return l
}

// single are n strings of one byte, rising from the given one on.
func single(from, n int) []string {
	var l []string
	for x := range n {
		l = append(l, string([]byte{byte(from + x)}))
	}
	return l
}

// many are n strings of so many bytes, rising.
func many(n, size int) []string {
	var l []string
	for i := range n {
		l = append(l, string([]byte{byte(i), byte(i), 0, 0x7f, 0x80, 0xff, 'a', 'b'}[:size]))
	}
	return l
}

// nested are symbols that begin with one another.
var nested = []string{"a", "ab", "abc", "abcd", "abcde", "abcdef", "abcdefg", "abcdefgh"}

// tables are right tables.
var tables = [][]string{
	nil, {}, {"a"}, {"b"}, {"ab"}, {"a", "ab"}, {"a", "ab", "b"}, {"a", "ab", "b", "ba"}, {"ab", "abc", "cd"}, {"abcdefgh"}, {"aaaaaaaa"}, nested,
	{"\x00"}, {"\xff"}, {"\x00", "\x7f", "\x80", "\xfe", "\xff"}, {"\x00\x00", "\x7f\x80", "\x80\x7f", "\xfe\xff", "\xff\xff"}, {"\xff", "\xff\xff", "\xff\xff\xff\xff\xff\xff\xff\xff"}, {"\x00\x01", "\xff\x00"},
	single(0, 254), single(0, 255), single(1, 255), many(254, 2), many(255, 2), many(255, 8),
}

// texts are strings of all sorts.
var texts = []string{
	"", "a", "b", "c", "ab", "ba", "abc", "abcd", "aab", "abab", "baba", "abcdefgh", "abcdefghi", "abcdefg", "aaaaaaa", "aaaaaaaa", "aaaaaaaaa", "zzz",
	"\x00", "\x7f", "\x80", "\xfe", "\xff", "\x00\x7f\x80\xfe\xff", "\xff\xfe\x80\x7f\x00", "\x00\x00", "\xff\xff", "\xff\xff\xff", "\xff\x00", "\xfe\xff\xff\xfe", "a\xffb\x00c", "\u00e4\u00f6", strings.Repeat("abc", 100), strings.Repeat("\xff", 1000), strings.Repeat("q", 4096),
}

// P11.1: Encode

// encodes checks a string's codes.
func encodes(t *testing.T, x []string, s, want string) {
	t.Helper()
	if b := fsst.Encode(x, s); string(b) != want {
		t.Errorf("Encode with %.60q (%d) of %.40q is %.60x, not %.60x", x, len(x), s, b, want)
	}
}

func TestEncode(t *testing.T) {
	for _, x := range []struct {
		t       []string
		s, want string
	}{
		{[]string{"a", "ab"}, "abc", "\x01\xff\x63"}, {[]string{"a", "ab"}, "a", "\x00"}, {[]string{"a", "ab"}, "ab", "\x01"}, {[]string{"a", "ab"}, "aab", "\x00\x01"}, {[]string{"a", "ab"}, "aba", "\x01\x00"},
		{[]string{"a", "ab"}, "b", "\xffb"}, {[]string{"a", "ab"}, "bab", "\xffb\x01"}, {[]string{"a", "ab"}, "abb", "\x01\xffb"},
		// nothing
		{nil, "", ""}, {[]string{}, "", ""}, {[]string{"a"}, "", ""}, {nested, "", ""}, {single(0, 255), "", ""},
		// no symbols, and none that stands there
		{nil, "a", "\xffa"}, {[]string{}, "abc", "\xffa\xffb\xffc"}, {[]string{"x"}, "abc", "\xffa\xffb\xffc"}, {[]string{"ab"}, "ba", "\xffb\xffa"}, {[]string{"ab", "bc"}, "acb", "\xffa\xffc\xffb"}, {[]string{"\x00", "d"}, "abc", "\xffa\xffb\xffc"},
		// the longest, though a shorter one would leave more for what comes behind
		{[]string{"a", "ab", "bcd"}, "abcd", "\x01\xffc\xffd"}, {[]string{"a", "ab", "bc"}, "abc", "\x01\xffc"}, {[]string{"a", "abc", "bcdefgh"}, "abcdefgh", "\x01\xffd\xffe\xfff\xffg\xffh"}, {[]string{"ab", "abc", "cd"}, "abcd", "\x01\xffd"},
		{[]string{"a", "aa", "aab"}, "aaab", "\x01\x00\xffb"}, {[]string{"a", "aaaaaaaa"}, "aaaaaaaaa", "\x01\x00"}, {[]string{"aa", "aaa"}, "aaaaa", "\x01\x00"}, {[]string{"aa", "aaa"}, "aaaa", "\x01\xffa"},
		// at the string's end, and beyond it
		{[]string{"bc"}, "abc", "\xffa\x00"}, {[]string{"abc"}, "abc", "\x00"}, {[]string{"abc"}, "ab", "\xffa\xffb"}, {[]string{"abc"}, "abcab", "\x00\xffa\xffb"}, {[]string{"a", "abc"}, "abcab", "\x01\x00\xffb"}, {[]string{"b", "bc"}, "ab", "\xffa\x00"},
		{[]string{"abcdefgh"}, "abcdefg", "\xffa\xffb\xffc\xffd\xffe\xfff\xffg"},
		// eight bytes
		{[]string{"abcdefgh"}, "abcdefgh", "\x00"}, {[]string{"abcdefgh"}, "abcdefghabcdefgh", "\x00\x00"}, {nested, "abcdefghabcdefgabcdefabcdeabcdabcaba", "\x07\x06\x05\x04\x03\x02\x01\x00"}, {nested, "abcdefghi", "\x07\xffi"}, {nested, "aabcdefgh", "\x00\x07"},
		// bytes of all sorts, escaped and in symbols
		{nil, "\x00\x7f\x80\xfe\xff", "\xff\x00\xff\x7f\xff\x80\xff\xfe\xff\xff"}, {[]string{"\x00", "\x7f", "\x80", "\xfe", "\xff"}, "\xff\xfe\x80\x7f\x00", "\x04\x03\x02\x01\x00"}, {[]string{"\xff"}, "\xff\xff", "\x00\x00"}, {[]string{"\xff\xff"}, "\xff\xff\xff", "\x00\xff\xff"},
		{[]string{"\x00\x7f", "\x80\xff"}, "\x00\x7f\x80\xff\x80", "\x00\x01\xff\x80"}, {[]string{"\x00\xff"}, "\x00\xfe\x00\xff", "\xff\x00\xff\xfe\x00"}, {[]string{"\u00e4"}, "\u00e4\u00f6\xc3", "\x00\xff\xc3\xff\xb6\xff\xc3"},
		// full tables
		{single(0, 255), "\x00\xfe\xff", "\x00\xfe\xff\xff"}, {single(1, 255), "\xff\x00\x01", "\xfe\xff\x00\x00"}, {single(0, 254), "\xfd\xfe\xff", "\xfd\xff\xfe\xff\xff"}, {many(255, 2), "\xfe\xfe\xff\xff\x00\x00", "\xfe\xff\xff\xff\xff\x00"},
	} {
		encodes(t, x.t, x.s, x.want)
	}
}

func TestEncodeEachSymbol(t *testing.T) {
	for _, x := range tables {
		for i, s := range x {
			encodes(t, x, s, string([]byte{byte(i)}))
		}
	}
}

func TestEncodeEachByte(t *testing.T) {
	for x := range 256 {
		s := string([]byte{byte(x)})
		encodes(t, nil, s, "\xff"+s)
		encodes(t, []string{s}, s, "\x00")
		encodes(t, []string{s + s}, s+s+s, "\x00\xff"+s)
		if x < 255 {
			encodes(t, single(0, 255), s, s)
		}
	}
}

func TestEncodeEachTable(t *testing.T) {
	for _, x := range tables {
		for _, s := range texts {
			encodes(t, x, s, string(codesOf(x, s)))
			if len(s) > 9 {
				continue
			}
			for _, y := range x {
				encodes(t, x, s+y, string(codesOf(x, s+y)))
				encodes(t, x, y+s, string(codesOf(x, y+s)))
			}
		}
	}
}

func TestEncodeAsTheWordsSay(t *testing.T) {
	symbols := all(3, "ab")[1:]
	strs := all(5, "ab")
	for set := range 1 << len(symbols) {
		x := subset(symbols, set)
		for _, s := range strs {
			encodes(t, x, s, string(codesOf(x, s)))
		}
	}
	next := draws(1)
	for range 2000 {
		x := drawnTable(next, 120)
		for range 10 {
			s := drawn(next, 60)
			encodes(t, x, s, string(codesOf(x, s)))
		}
	}
}

// subset is the table of those symbols of which the set has a bit.
func subset(symbols []string, set int) []string {
	var l []string
	for i, s := range symbols {
		if set>>i&1 == 1 {
			l = append(l, s)
		}
	}
	return symbol.Order(l)
}

// P11.1: Decode and Count

// decodes checks what codes stand for.
func decodes(t *testing.T, x []string, b string, most int, want string, wantErr api.Errno) {
	t.Helper()
	if s, e := fsst.Decode(x, []byte(b), most); s != want || e != wantErr {
		t.Errorf("Decode with %.60q (%d) of %.60x, at most %d, is %.40q, %d, not %.40q, %d", x, len(x), b, most, s, e, want, wantErr)
	}
}

// counts checks how many codes and escapes there are.
func counts(t *testing.T, x []string, b string, want int) {
	t.Helper()
	if n := fsst.Count(x, []byte(b)); n != want {
		t.Errorf("Count with %.60q (%d) of %.60x is %d, not %d", x, len(x), b, n, want)
	}
}

func TestDecodeAndCount(t *testing.T) {
	pair := []string{"a", "ab"}
	for _, x := range []struct {
		t    []string
		b    string
		want string
		e    api.Errno
		n    int
	}{
		{pair, "\x01\xffc", "abc", api.OK, 2}, {pair, "\x00", "a", api.OK, 1}, {pair, "\x00\x01\x00", "aaba", api.OK, 3}, {pair, "\xffb\x01", "bab", api.OK, 2},
		// no bytes
		{nil, "", "", api.OK, 0}, {[]string{}, "", "", api.OK, 0}, {pair, "", "", api.OK, 0}, {single(0, 255), "", "", api.OK, 0},
		// what Encode wouldn't take
		{pair, "\x00\xffb", "ab", api.OK, 2}, {pair, "\xffa\xffb", "ab", api.OK, 2}, {[]string{"a", "ab", "b"}, "\x00\x02", "ab", api.OK, 2},
		// a code that the table hasn't: first, in the middle and last
		{pair, "\x02", "", api.ErrForm, 0}, {pair, "\x02\x00\x01", "", api.ErrForm, 0}, {pair, "\x00\x02\x01", "", api.ErrForm, 1}, {pair, "\x00\x01\x02", "", api.ErrForm, 2}, {pair, "\xffc\x02", "", api.ErrForm, 1}, {pair, "\xfe", "", api.ErrForm, 0}, {pair, "\x00\xfe\x00", "", api.ErrForm, 1},
		{nil, "\x00", "", api.ErrForm, 0}, {nil, "\xfe", "", api.ErrForm, 0}, {nil, "\xffa\x00", "", api.ErrForm, 1}, {[]string{"a"}, "\x01", "", api.ErrForm, 0}, {[]string{"a"}, "\x00\x01", "", api.ErrForm, 1}, {[]string{"a"}, "\x00a", "", api.ErrForm, 1}, {nested, "\x07\x08", "", api.ErrForm, 1},
		// the greatest codes
		{single(0, 254), "\xfd", "\xfd", api.OK, 1}, {single(0, 254), "\xfe", "", api.ErrForm, 0}, {single(0, 254), "\x00\xfe", "", api.ErrForm, 1}, {single(0, 255), "\xfe", "\xfe", api.OK, 1}, {single(1, 255), "\xfe\x00", "\xff\x01", api.OK, 2}, {many(255, 8), "\xfe\xfe", many(255, 8)[254] + many(255, 8)[254], api.OK, 2},
		// 255 at the end
		{nil, "\xff", "", api.ErrCut, 0}, {pair, "\xff", "", api.ErrCut, 0}, {pair, "\x00\xff", "", api.ErrCut, 1}, {pair, "\x00\x01\xff", "", api.ErrCut, 2}, {pair, "\xffc\xff", "", api.ErrCut, 1}, {single(0, 255), "\xff", "", api.ErrCut, 0}, {single(1, 255), "\xfe\xff", "", api.ErrCut, 1},
		// 255 behind 255
		{nil, "\xff\xff", "\xff", api.OK, 1}, {nil, "\xff\xff\xff", "", api.ErrCut, 1}, {nil, "\xff\xff\xff\xff", "\xff\xff", api.OK, 2}, {pair, "\xff\xff\x00", "\xffa", api.OK, 2}, {pair, "\xff\xff\x02", "", api.ErrForm, 1}, {pair, "\x00\xff\xff\xff", "", api.ErrCut, 2}, {pair, "\xff\xff\xffc", "\xffc", api.OK, 2}, {single(0, 255), "\xff\xff", "\xff", api.OK, 1},
		// bytes that are escaped, though they'd be codes, or symbols, or neither
		{[]string{"\xff"}, "\xff\xff", "\xff", api.OK, 1}, {[]string{"\xff"}, "\x00\xff\xff", "\xff\xff", api.OK, 2}, {pair, "\xffa", "a", api.OK, 1}, {pair, "\xffa\xffa\x00", "aaa", api.OK, 3}, {pair, "\xff\x00", "\x00", api.OK, 1}, {pair, "\xff\x01\x01", "\x01ab", api.OK, 2}, {pair, "\xff\x02", "\x02", api.OK, 1}, {pair, "\xff\xfe", "\xfe", api.OK, 1},
		{single(0, 255), "\xff\x07", "\x07", api.OK, 1}, {nil, "\xff\x00\xff\x7f\xff\x80\xff\xfe\xff\xff", "\x00\x7f\x80\xfe\xff", api.OK, 5},
		// which error is met first
		{pair, "\x02\xff", "", api.ErrForm, 0}, {pair, "\x00\x02\x03\xff", "", api.ErrForm, 1}, {pair, "\xff\x02\xff", "", api.ErrCut, 1}, {pair, "\x00\xff\x02\xff", "", api.ErrCut, 2},
	} {
		decodes(t, x.t, x.b, 1000, x.want, x.e)
		counts(t, x.t, x.b, x.n)
	}
}

func TestEachCodeOfEachSize(t *testing.T) {
	for size := range 256 {
		x := single(0, size)
		for code := range 255 {
			b := string([]byte{byte(code)})
			want, e, n := b, api.OK, 1
			if code >= size {
				want, e, n = "", api.ErrForm, 0
			}
			decodes(t, x, b, 1, want, e)
			counts(t, x, b, n)
			decodes(t, x, "\xff"+b, 1, b, api.OK)
			counts(t, x, "\xff"+b, 1)
		}
		decodes(t, x, "\xff", 1, "", api.ErrCut)
		counts(t, x, "\xff", 0)
	}
}

func TestLimits(t *testing.T) {
	for _, x := range []struct {
		b    string
		most int
		want string
		e    api.Errno
	}{
		// none
		{"", 0, "", api.OK}, {"\x00", 0, "", api.ErrLimit}, {"\xffz", 0, "", api.ErrLimit}, {"\x07", 0, "", api.ErrLimit},
		// just as many, one less, and one more
		{"\x00", 1, "a", api.OK}, {"\xffz", 1, "z", api.OK}, {"\x07", 8, "abcdefgh", api.OK}, {"\x07", 7, "", api.ErrLimit}, {"\x07", 9, "abcdefgh", api.OK}, {"\x07\x07", 16, "abcdefghabcdefgh", api.OK}, {"\x07\x07", 15, "", api.ErrLimit},
		{"\x01\xffz\x02", 6, "abzabc", api.OK}, {"\x01\xffz\x02", 5, "", api.ErrLimit}, {"\x01\xffz\x02", 3, "", api.ErrLimit}, {"\x01\xffz\x02", 2, "", api.ErrLimit}, {"\x01\xffz", 2, "", api.ErrLimit}, {"\x01\xffz", 3, "abz", api.OK}, {"\x01\x00", 2, "", api.ErrLimit},
		// in the middle of a symbol
		{"\x07", 1, "", api.ErrLimit}, {"\x07", 4, "", api.ErrLimit}, {"\x00\x07", 4, "", api.ErrLimit}, {"\x07\x07", 12, "", api.ErrLimit}, {"\x07\x07", 8, "", api.ErrLimit}, {"\x07\x07\x00", 9, "", api.ErrLimit},
		// the limit is passed ahead of what is wrong
		{"\x00\x08", 0, "", api.ErrLimit}, {"\x00\xff", 0, "", api.ErrLimit}, {"\x07\xfe", 7, "", api.ErrLimit}, {"\x07\xff", 7, "", api.ErrLimit}, {"\xffz\x08", 0, "", api.ErrLimit}, {"\xffz\xff", 0, "", api.ErrLimit}, {"\x07\x07\x00\x08\xff", 9, "", api.ErrLimit}, {"\xff\xff\xff", 0, "", api.ErrLimit},
		// what is wrong stands ahead
		{"\x08", 0, "", api.ErrForm}, {"\xff", 0, "", api.ErrCut}, {"\x08\x00", 0, "", api.ErrForm}, {"\x00\x08\x00", 1, "", api.ErrForm}, {"\x00\xff", 1, "", api.ErrCut}, {"\x07\x08\x07", 8, "", api.ErrForm}, {"\x07\x08\x07", 12, "", api.ErrForm}, {"\x07\xff", 8, "", api.ErrCut}, {"\xffz\x08\x00", 1, "", api.ErrForm}, {"\xffz\xff", 1, "", api.ErrCut}, {"\xff\xff\xff", 1, "", api.ErrCut},
		// far limits, and such as no string holds
		{"\x07", math.MaxInt, "abcdefgh", api.OK}, {"\x08", math.MaxInt, "", api.ErrForm}, {"\x00", -1, "", api.ErrLimit}, {"\x07", math.MinInt, "", api.ErrLimit}, {"", -1, "", api.ErrLimit}, {"\x08", -1, "", api.ErrLimit}, {"\xff", math.MinInt, "", api.ErrLimit},
	} {
		decodes(t, nested, x.b, x.most, x.want, x.e)
	}
}

// decodesAsSaid checks codes at all limits about what they stand for.
func decodesAsSaid(t *testing.T, x []string, b []byte) {
	t.Helper()
	whole, _, n := stringOfRest(x, b)
	counts(t, x, string(b), n)
	for most := range min(len(whole), 40) + 2 {
		s, e, _ := stringOf(x, b, most)
		decodes(t, x, string(b), most, s, e)
	}
	s, e, _ := stringOf(x, b, len(whole))
	decodes(t, x, string(b), len(whole), s, e)
	s, e, _ = stringOf(x, b, len(whole)-1)
	decodes(t, x, string(b), len(whole)-1, s, e)
}

func TestDecodeAsTheWordsSay(t *testing.T) {
	for _, x := range [][]string{nil, {"a"}, {"a", "ab"}, {"\xff", "\xff\xff"}, {"a", "abcdefgh", "b"}} {
		for _, b := range all(5, "\x00\x01\x02\xff") {
			decodesAsSaid(t, x, []byte(b))
		}
	}
	next := draws(2)
	errs := map[api.Errno]int{}
	for range 3000 {
		x := drawnTable(next, 300)
		for range 5 {
			b := drawnCodes(next, 20, len(x))
			decodesAsSaid(t, x, b)
			_, e, _ := stringOfRest(x, b)
			errs[e]++
		}
	}
	if errs[api.OK] < 1000 || errs[api.ErrForm] < 1000 || errs[api.ErrCut] < 300 {
		t.Errorf("but so many were right, wrong and cut: %v", errs)
	}
}

func TestOneWrongCode(t *testing.T) {
	x := []string{"a", "ab"}
	right := []byte(strings.Repeat("\x00\x01\xffc", 10))
	for at := range len(right) + 1 {
		decodesAsSaid(t, x, right[:at])
		decodesAsSaid(t, x, slices.Insert(slices.Clone(right), at, 2))
		decodesAsSaid(t, x, slices.Insert(slices.Clone(right), at, 254))
		decodesAsSaid(t, x, slices.Insert(slices.Clone(right), at, 255))
	}
}

// P11.2

// follows checks that what is encoded is decoded as it was.
func follows(t *testing.T, x []string, s string) {
	t.Helper()
	b := fsst.Encode(x, s)
	if len(b) > 2*len(s) {
		t.Errorf("Encode with %.40q of %.40q (%d) is %d bytes", x, s, len(s), len(b))
	}
	for _, most := range []int{len(s), len(s) + 1, api.MaxText, math.MaxInt} {
		if back, e := fsst.Decode(x, b, max(most, len(s))); back != s || e != api.OK {
			t.Errorf("with %.40q, %.40q (%d) comes back as %.40q, %d", x, s, len(s), back, e)
		}
	}
	if n := fsst.Count(x, b); n > len(s) || n > len(b) || 2*n < len(b) {
		t.Errorf("with %.40q, %.40q (%d) is %d codes and escapes of %d bytes", x, s, len(s), n, len(b))
	}
	if s == "" {
		return
	}
	if back, e := fsst.Decode(x, b, len(s)-1); back != "" || e != api.ErrLimit {
		t.Errorf("with %.40q, %.40q (%d) comes back, at most one byte less, as %.40q, %d", x, s, len(s), back, e)
	}
}

func TestWhatIsEncodedIsDecoded(t *testing.T) {
	for _, x := range tables {
		for _, s := range texts {
			follows(t, x, s)
		}
		follows(t, x, strings.Join(x, ""))
		follows(t, x, strings.Join(x, "z\xff"))
	}
	next := draws(3)
	for range 1000 {
		x := drawnTable(next, 500)
		for range 10 {
			follows(t, x, drawn(next, 100))
		}
	}
}

func TestTwiceAsManyBytes(t *testing.T) {
	for _, n := range []int{1, 2, 255, 256, api.MaxText} {
		s := strings.Repeat("z", n)
		encodes(t, nested, s, strings.Repeat("\xffz", n))
		counts(t, nested, strings.Repeat("\xffz", n), n)
	}
}

func TestStringsAreAlikeJustIfTheirCodesAre(t *testing.T) {
	strs := all(6, "ab\xff")
	next := draws(4)
	l := slices.Clone(tables)
	for range 30 {
		l = append(l, drawnTable(next, 200))
	}
	for _, x := range l {
		first := map[string]string{}
		for _, s := range strs {
			b := string(fsst.Encode(x, s))
			if other, there := first[b]; there {
				t.Errorf("with %.40q, %q and %q are both %x", x, s, other, b)
			}
			first[b] = s
			if again := fsst.Encode(slices.Clone(x), strings.Clone(s)); string(again) != b {
				t.Errorf("with %.40q, %q is %x, and then %x", x, s, b, again)
			}
		}
	}
}

// P11.3

// apart checks that two strings have no byte where both have it.
func apart(t *testing.T, what, a, b string) {
	t.Helper()
	if a == "" || b == "" {
		return
	}
	at, from := uintptr(unsafe.Pointer(unsafe.StringData(a))), uintptr(unsafe.Pointer(unsafe.StringData(b)))
	if at < from+uintptr(len(b)) && from < at+uintptr(len(a)) {
		t.Errorf("%s: %.40q and %.40q have the same memory", what, a, b)
	}
}

func TestWhatIsHandedInStays(t *testing.T) {
	for _, x := range tables {
		room := append(slices.Clone(x), "b", "a", "")
		was := slices.Clone(room)
		for _, s := range texts {
			codes := append(codesOf(x, s), 254, 255, 1)
			before := slices.Clone(codes)
			fsst.Encode(room[:len(x)], s)
			for _, n := range []int{len(codes) - 3, len(codes) - 2, len(codes)} {
				fsst.Decode(room[:len(x)], codes[:n], len(s))
				fsst.Decode(room[:len(x)], codes[:n], len(s)-1)
				fsst.Count(room[:len(x)], codes[:n])
			}
			if !bytes.Equal(codes, before) {
				t.Errorf("%.40x became %.40x", before, codes)
			}
		}
		if !slices.Equal(room, was) {
			t.Errorf("%.40q became %.40q", was, room)
		}
	}
}

func TestCodesAreNewMemory(t *testing.T) {
	for _, x := range tables {
		for _, s := range texts {
			one, two := fsst.Encode(x, s), fsst.Encode(x, s)
			clear(one[:cap(one)])
			if three := fsst.Encode(x, s); !bytes.Equal(two, codesOf(x, s)) || !bytes.Equal(three, two) {
				t.Errorf("Encode with %.40q of %.40q, once others are cleared: %.40x, %.40x", x, s, two, three)
			}
		}
	}
}

func TestStringsAreNewMemory(t *testing.T) {
	long := strings.Repeat("abcdefgh", 4)
	for _, x := range [][]string{nil, {"a"}, {"ab", "c"}, nested, {"abcdefgh"}} {
		var held []string
		for _, s := range x {
			held = append(held, strings.Clone(s))
		}
		for n := range len(long) {
			s := long[:n]
			b := codesOf(held, s)
			one, _ := fsst.Decode(held, b, n)
			two, _ := fsst.Decode(held, b, n)
			if n > 1 { // Go has strings of one byte but once
				apart(t, "Decode", one, two)
			}
			for _, symbol := range held {
				if n > 1 {
					apart(t, "Decode", one, symbol)
				}
			}
			clear(b)
			if one != s || two != s {
				t.Errorf("Decode of %q, once its codes are cleared, is %q, %q", s, one, two)
			}
		}
	}
}

func TestOneSymbolIsNewMemory(t *testing.T) {
	for _, s := range []string{"ab", "abcdefgh", "\xff\xff"} {
		held := []string{strings.Clone(s)}
		one, _ := fsst.Decode(held, []byte{0}, 8)
		two, _ := fsst.Decode(held, []byte{0}, 8)
		apart(t, "Decode", one, held[0])
		apart(t, "Decode", one, two)
	}
}

// P1

func TestWhateverTableEnds(t *testing.T) {
	next := draws(5)
	for _, x := range [][]string{{""}, {"", "a"}, {"b", "a"}, {"a", "a"}, {"abcdefghi"}, single(0, 256), many(300, 8), slices.Repeat([]string{"a", ""}, 400), {strings.Repeat("a", 5000)}} {
		for _, s := range texts {
			fsst.Encode(x, s)
		}
		for range 500 {
			b := drawnCodes(next, 30, min(len(x), 254))
			fsst.Count(x, b)
			for _, most := range []int{0, 1, 10, 100, -1, math.MaxInt, math.MinInt} {
				if s, e := fsst.Decode(x, b, most); e == api.OK && len(s) > most || e != api.OK && s != "" {
					t.Errorf("Decode with %.40q of %x, at most %d, is %.40q, %d", x, b, most, s, e)
				}
			}
		}
	}
}

func TestLongOnesEnd(t *testing.T) {
	s := strings.Repeat("abcdefghz", 1<<17)
	follows(t, nested, s)
	decodes(t, nested, strings.Repeat("\x07", 1<<20), 100, "", api.ErrLimit)
	counts(t, nested, strings.Repeat("\x07", 1<<20), 1<<20)
	counts(t, nested, strings.Repeat("\xff", 1<<20), 1<<19)
}
