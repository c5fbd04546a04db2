package symbol_test

import (
	"bytes"
	"slices"
	"strings"
	"testing"
	"unsafe"

	"hopper/api"
	"hopper/cursor"
	"hopper/symbol"
)

// rightOf is whether strings are a table in order, as the words tell it: each
// two of them are held against each other.
func rightOf(t []string) bool {
	for i, s := range t {
		if s == "" || len(s) > 8 {
			return false
		}
		for _, later := range t[i+1:] {
			if bytes.Compare([]byte(s), []byte(later)) >= 0 {
				return false
			}
		}
	}
	return len(t) < 256
}

// bytesOf are a table's bytes, as the words tell them.
func bytesOf(t []string) []byte {
	b := []byte{byte(len(t))}
	for _, s := range t {
		b = slices.Concat(b, []byte{byte(len(s))}, []byte(s))
	}
	return b
}

// longestOf is the code and the length of the longest symbol at s's beginning,
// each symbol being looked at.
func longestOf(t []string, s string) (code, size int) {
	code = -1
	for i, x := range t {
		if strings.HasPrefix(s, x) && len(x) > size {
			code, size = i, len(x)
		}
	}
	return code, size
}

// orderOf are the first 255 strings of one to eight bytes, the least one that
// isn't taken yet being taken again and again.
func orderOf(l []string) []string {
	left := map[string]int{}
	for _, s := range l {
		if s != "" && len(s) < 9 {
			left[s] = 1
		}
	}
	var t []string
	for len(left) > 0 && len(t) < 255 {
		least := "\xff\xff\xff\xff\xff\xff\xff\xff\xff"
		for s := range left {
			least = min(least, s)
		}
		t = append(t, least)
		delete(left, least)
	}
	return t
}

// draws answers a function that draws numbers below n, the same each time for
// one seed.
func draws(seed uint32) func(n int) int {
	return func(n int) int {
		seed = seed*1664525 + 1013904223
		return int(seed>>8) % n
	}
}

// drawn is a string of fewer than n bytes, of few sorts.
func drawn(next func(int) int, n int) string {
	b := make([]byte, next(n))
	for i := range b {
		b[i] = "ab\x00\x7f\x80\xffaa"[next(8)]
	}
	return string(b)
}

// drawnList are fewer than n strings of at most nine bytes.
func drawnList(next func(int) int, n int) []string {
	l := make([]string, next(n))
	for i := range l {
		l[i] = drawn(next, 10)
	}
	return l
}

// all are all strings of at most n of the bytes.
func all(n int, of string) []string {
	l := []string{""}
	from := 0
	for range n {
		to := len(l)
		for _, s := range l[from:to] {
			for i := range len(of) {
				l = append(l, s+of[i:i+1])
			}
		}
		from = to
	}
	return l
}

// many are n strings of so many bytes, rising.
func many(n, size int) []string {
	var l []string
	for i := range n {
		l = append(l, string([]byte{byte(i >> 8), byte(i), 0, 0x7f, 0x80, 0xff, 'a', 'b', 'c'}[:size]))
	}
	return l
}

// single are the strings of one byte, rising, but for the last ones.
func single(n int) []string {
	var l []string
	for x := range n {
		l = append(l, string([]byte{byte(x)}))
	}
	return l
}

// tables are tables in order.
var tables = [][]string{
	nil, {}, {"a"}, {"\x00"}, {"\xff"}, {"12345678"}, {"\xff\xff\xff\xff\xff\xff\xff\xff"}, {"\x00\x00\x00\x00\x00\x00\x00\x00"},
	{"a", "ab"}, {"a", "b"}, {"B", "a"}, {"ab", "b"}, {"aab", "ab"}, {"a", "a\x00"}, {"1234567", "12345678"}, {"12345678", "2"}, {"12345678", "12345679"},
	{"\x00", "\x7f", "\x80", "\xff"}, {"\x00", "\x00\x00"}, {"\x7f", "\x7f\xff", "\x80"}, {"a\x7f", "a\x80", "a\xff"}, {"\xc3", "\u00e4", "\xff"},
	{"a", "ab", "abc", "abcd", "abcde", "abcdef", "abcdefg", "abcdefgh"}, {"a", "ab", "b", "ba"}, {"a", "abc", "abd", "ac", "b"},
	{"\xff", "\xff\xff", "\xff\xff\xff"}, single(254), single(255), single(256)[1:], many(254, 2), many(255, 2), many(255, 7), many(255, 8),
}

// wrong are strings that are no table in order.
var wrong = [][]string{
	// none, and too many bytes
	{""}, {"", "a"}, {"a", ""}, {"a", "", "b"}, {"", ""}, {"123456789"}, {"a", "bcdefghij"}, {"123456789", "2"}, {"a", "abcdefghi", "b"}, {strings.Repeat("a", 256+1)}, {strings.Repeat("a", 4096)},
	// alike
	{"a", "a"}, {"12345678", "12345678"}, {"\x00", "\x00"}, {"a", "b", "b"}, {"a", "a", "b"}, {"a", "b", "a"}, {"a", "b", "c", "a"},
	// out of order, side by side and apart
	{"b", "a"}, {"ab", "a"}, {"a\x00", "a"}, {"12345678", "1234567"}, {"b", "ab"}, {"a", "B"}, {"a", "c", "b"}, {"c", "a", "b"}, {"b", "c", "a"}, {"a", "ab", "abc", "abb"},
	{"b", "c", "d", "a"}, {"c", "d", "a", "b"}, {"a", "d", "b", "c"},
	{"\x80", "\x7f"}, {"\xff", "\x00"}, {"\xff", "\x7f"}, {"\x00\x00", "\x00"}, {"\x80", "\x00"}, {"\xff", "\u00e4"},
	// too many
	many(256, 2), many(256, 8), many(257, 2), many(512, 3), many(511, 8), single(256),
}

// P10.1: Right and Put

func TestTables(t *testing.T) {
	for _, x := range tables {
		if !symbol.Right(x) {
			t.Errorf("%.40q (%d) isn't right", x, len(x))
		}
		if b, e := symbol.Put(x); e != api.OK || !bytes.Equal(b, bytesOf(x)) {
			t.Errorf("Put of %.40q (%d) is %.40x, %d", x, len(x), b, e)
		}
	}
}

func TestWrongTables(t *testing.T) {
	for _, x := range wrong {
		isWrong(t, x)
	}
}

// isWrong checks that strings are no table in order.
func isWrong(t *testing.T, x []string) {
	t.Helper()
	if symbol.Right(x) {
		t.Errorf("%.40q (%d) is right", x, len(x))
	}
	if b, e := symbol.Put(x); e != api.ErrArg || len(b) != 0 {
		t.Errorf("Put of %.40q (%d) is %.40x, %d, not ErrArg alone", x, len(x), b, e)
	}
}

func TestPut(t *testing.T) {
	for _, x := range []struct {
		t []string
		b string
	}{
		{nil, "\x00"},
		{[]string{"a"}, "\x01\x01a"},
		{[]string{"a", "ab"}, "\x02\x01a\x02ab"},
		{[]string{"12345678"}, "\x01\x0812345678"},
		{[]string{"\x00", "\x7f", "\x80\x00", "\xff"}, "\x04\x01\x00\x01\x7f\x02\x80\x00\x01\xff"},
		{[]string{"\x01", "\x02\x01"}, "\x02\x01\x01\x02\x02\x01"},
	} {
		if b, e := symbol.Put(x.t); e != api.OK || string(b) != x.b {
			t.Errorf("Put of %q is %x, %d, not %x", x.t, b, e, x.b)
		}
	}
}

func TestEachTwoSymbols(t *testing.T) {
	l := append(all(2, "a\x00\x7f\x80\xff"), "1234567", "12345678", "123456789", "12345677", "\xff2345678")
	for _, a := range l {
		for _, b := range l {
			for _, x := range [][]string{{a, b}, {a, "m", b}, {"\x00", a, b}, {a, b, "\xff\xff\xff"}} {
				if got := symbol.Right(x); got != rightOf(x) {
					t.Errorf("Right of %q is %t", x, got)
				}
			}
		}
	}
}

func TestRightOfDrawnStrings(t *testing.T) {
	next := draws(1)
	right := 0
	for range 20000 {
		x := drawnList(next, 6)
		if next(2) == 0 {
			slices.Sort(x)
		}
		want := rightOf(x)
		if got := symbol.Right(x); got != want {
			t.Errorf("Right of %q is %t", x, got)
		}
		b, e := symbol.Put(x)
		switch {
		case !want && (e != api.ErrArg || len(b) != 0):
			t.Errorf("Put of %q is %x, %d", x, b, e)
		case want && (e != api.OK || !bytes.Equal(b, bytesOf(x))):
			t.Errorf("Put of %q is %x, %d", x, b, e)
		case want:
			right++
		}
	}
	if right < 2000 {
		t.Errorf("but %d were right", right)
	}
}

// One that is wrong, at each place of a table with as many symbols as may be.
func TestOneWrongSymbol(t *testing.T) {
	for i := range 255 {
		for _, s := range []string{"", "\xff\xff\xff\xff\xff\xff\xff\xff\xff", "\x00"} {
			x := many(255, 8)
			x[i] = s
			if i == 0 && s == "\x00" {
				continue // it is less than the next one
			}
			isWrong(t, x)
		}
		if i > 0 {
			x := many(255, 8)
			x[i] = x[i-1]
			isWrong(t, x)
			x = many(255, 8)
			x[i-1], x[i] = x[i], x[i-1]
			isWrong(t, x)
			x = many(255, 8)
			x[0], x[i] = x[i], x[0]
			isWrong(t, x)
		}
	}
}

// P10.1: Get

// gets checks that a table is taken from b, and so many bytes are left.
func gets(t *testing.T, b []byte, want []string, left int) {
	t.Helper()
	c := cursor.New(b)
	if x := symbol.Get(c); !slices.Equal(x, want) || !c.Good() || c.Left() != left {
		t.Errorf("Get of %.60x: %.40q, error %d, %d left; not %.40q, %d left", b, x, c.End(), c.Left(), want, left)
	}
}

// fails checks that no table is taken from b, but an error is met.
func fails(t *testing.T, b string, want api.Errno) {
	t.Helper()
	c := cursor.New([]byte(b))
	if x := symbol.Get(c); len(x) != 0 || c.Good() || c.End() != want {
		t.Errorf("Get of %.60q: %.40q, error %d, not %d alone", b, x, c.End(), want)
	}
}

func TestGet(t *testing.T) {
	for _, x := range tables {
		b := bytesOf(x)
		gets(t, b, x, 0)
		// bytes are left, whatever they are
		for _, rest := range []string{"\x00", "\x01a", "a", "\xff\xff", "\x09"} {
			gets(t, append(slices.Clone(b), rest...), x, len(rest))
		}
	}
	gets(t, []byte("\x02\x01a\x02ab"), []string{"a", "ab"}, 0)
	gets(t, []byte("\x00"), nil, 0)
	gets(t, []byte("\x00\x01a"), nil, 2)
}

func TestGetFromAmongOtherBytes(t *testing.T) {
	for _, x := range tables {
		for _, y := range tables {
			c := cursor.New(slices.Concat([]byte("abc"), bytesOf(x), bytesOf(y), []byte("d")))
			c.Bytes(3)
			one, two := symbol.Get(c), symbol.Get(c)
			if !slices.Equal(one, x) || !slices.Equal(two, y) || c.Byte() != 'd' || c.End() != api.OK {
				t.Errorf("%.40q and %.40q are taken as %.40q and %.40q, error %d", x, y, one, two, c.End())
			}
		}
	}
}

func TestGetOfBytesThatEnd(t *testing.T) {
	for _, b := range []string{"", "\x01", "\x02", "\x7f", "\x80", "\xff", "\x01\x01", "\x01\x02", "\x01\x02a", "\x01\x08", "\x01\x081234567", "\x02\x01a", "\x02\x01a\x02", "\x02\x01a\x02b", "\x03\x01a\x01b", "\xff\x01a", "\x80\x01a\x01b"} {
		fails(t, b, api.ErrCut)
	}
	for _, x := range tables {
		b := string(bytesOf(x))
		for n := range len(b) {
			fails(t, b[:n], api.ErrCut)
		}
		// a symbol more than there are
		if n := len(x); n < 255 {
			fails(t, string([]byte{byte(n + 1)})+b[1:], api.ErrCut)
		}
	}
}

func TestGetOfWrongLengths(t *testing.T) {
	for size := range 256 {
		if size >= 1 && size <= 8 {
			continue
		}
		l := string([]byte{byte(size)})
		for _, rest := range []string{"", "a", strings.Repeat("b", size), strings.Repeat("b", size) + "\x01c", strings.Repeat("b", 300)} {
			fails(t, "\x01"+l+rest, api.ErrForm)
			fails(t, "\x02\x01a"+l+rest, api.ErrForm)
			fails(t, "\xff\x01a\x01b"+l+rest, api.ErrForm)
		}
	}
}

func TestGetOfWhatIsNoTableInOrder(t *testing.T) {
	for _, x := range wrong {
		b := string(bytesOf(x))
		if len(x) > 255 || len(x[0]) > 255 {
			continue // no byte tells of so many
		}
		fails(t, b, api.ErrForm)
		fails(t, b+"a", api.ErrForm)
	}
	for _, b := range []string{"\x02\x01b\x01a", "\x02\x01a\x01a", "\x02\x02ab\x01a", "\x03\x01a\x01c\x01b", "\x03\x01b\x01c\x01a", "\x02\x01\x80\x01\x7f", "\x02\x01\xff\x01\x00"} {
		fails(t, b, api.ErrForm)
	}
}

func TestGetMeetsTheFirstError(t *testing.T) {
	for _, x := range []struct {
		b    string
		want api.Errno
	}{
		// a wrong length, ahead of bytes that are missing
		{"\x01\x00", api.ErrForm}, {"\x01\x09", api.ErrForm}, {"\x01\xff", api.ErrForm}, {"\x02\x00\x01", api.ErrForm}, {"\xff\x00", api.ErrForm}, {"\x02\x01a\x09b", api.ErrForm},
		// out of order or alike, ahead of bytes that are missing
		{"\x03\x01b\x01a", api.ErrForm}, {"\x03\x01a\x01a", api.ErrForm}, {"\x03\x01b\x01a\x02", api.ErrForm}, {"\x03\x01a\x01a\x02b", api.ErrForm}, {"\xff\x01b\x01a", api.ErrForm},
		{"\x04\x01b\x01a\x01c\x01", api.ErrForm},
		// bytes that are missing, where a symbol isn't there yet
		{"\x02\x01b\x02a", api.ErrCut}, {"\x02\x01a\x02a", api.ErrCut}, {"\x02\x01b", api.ErrCut}, {"\x02\x01b\x01", api.ErrCut}, {"\x02\x01b\x08aaaaaaa", api.ErrCut},
	} {
		fails(t, x.b, x.want)
	}
}

func TestGetBehindAnError(t *testing.T) {
	for _, e := range []api.Errno{api.ErrPlan, api.ErrCut, api.ErrForm, api.ErrName} {
		for _, b := range []string{"", "\x00", "\x01\x01a", "\x02\x01a\x02ab", "\x01\x00", "\x02\x01b\x01a", "\x02"} {
			c := cursor.New([]byte(b))
			c.Fail(e)
			if x := symbol.Get(c); len(x) != 0 || c.End() != e || c.Left() != len(b) {
				t.Errorf("Get of %q behind the error %d: %q, error %d, %d left", b, e, x, c.End(), c.Left())
			}
		}
	}
}

func TestGetKeepsItsError(t *testing.T) {
	for b, want := range map[string]api.Errno{"\x02\x01b\x01a\x00": api.ErrForm, "\x01\x00\x01\x01a": api.ErrForm, "\x02\x01a": api.ErrCut} {
		c := cursor.New([]byte(b))
		symbol.Get(c)
		left := c.Left()
		c.Fail(api.ErrPlan)
		if x := symbol.Get(c); len(x) != 0 || c.End() != want || c.Left() != left {
			t.Errorf("Get of %q again: %q, error %d, %d left", b, x, c.End(), c.Left())
		}
	}
}

// P10.2: Longest

// finds checks the longest symbol at a string's beginning.
func finds(t *testing.T, x []string, s string, code, size int) {
	t.Helper()
	if i, n := symbol.Longest(x, s); i != code || n != size {
		t.Errorf("Longest of %.60q (%d), %.40q is %d, %d, not %d, %d", x, len(x), s, i, n, code, size)
	}
}

func TestLongest(t *testing.T) {
	nested := []string{"a", "ab", "abc", "abcd", "abcde", "abcdef", "abcdefg", "abcdefgh"}
	for n := range 9 {
		s := "abcdefgh"[:n]
		for _, rest := range []string{"", "z", "\x00", "\xff", "zaaaaaaaaaaa"} {
			finds(t, nested, s+rest, n-1, n)
		}
	}
	finds(t, nested, "abcdefghi", 7, 8)
	for _, x := range []struct {
		t          []string
		s          string
		code, size int
	}{
		// no symbols, no bytes
		{nil, "", -1, 0}, {nil, "a", -1, 0}, {nil, "abcdefghijk", -1, 0}, {[]string{"a"}, "", -1, 0}, {[]string{"\x00"}, "", -1, 0}, {[]string{"\x00", "a", "b"}, "", -1, 0},
		// none at the beginning
		{[]string{"a"}, "b", -1, 0}, {[]string{"b"}, "a", -1, 0}, {[]string{"b"}, "ab", -1, 0}, {[]string{"a", "c"}, "b", -1, 0}, {[]string{"a", "c"}, "d", -1, 0}, {[]string{"b", "c"}, "a", -1, 0}, {[]string{"a"}, "A", -1, 0},
		// as long as the string, and longer
		{[]string{"abc"}, "abc", 0, 3}, {[]string{"abc"}, "ab", -1, 0}, {[]string{"abc"}, "abcd", 0, 3}, {[]string{"12345678"}, "12345678", 0, 8}, {[]string{"12345678"}, "1234567", -1, 0}, {[]string{"12345678"}, "123456789", 0, 8},
		{[]string{"a", "abc"}, "ab", 0, 1}, {[]string{"ab", "abc"}, "ab", 0, 2}, {[]string{"a", "ab\x00"}, "ab", 0, 1},
		// several, of which one begins another
		{[]string{"a", "abc"}, "abc", 1, 3}, {[]string{"a", "abc"}, "abd", 0, 1}, {[]string{"a", "aaa", "ab"}, "aac", 0, 1}, {[]string{"a", "ab", "abcd", "abd"}, "abce", 1, 2},
		{[]string{"a", "ab", "abc", "abx", "aby"}, "abz", 1, 2}, {[]string{"a", "b", "bb", "bbb", "c"}, "bbbb", 3, 3}, {[]string{"a", "ab", "abb", "abbb"}, "abba", 2, 3},
		{[]string{"a", "aa", "aaa", "aab", "ab", "aba", "abb"}, "ac", 0, 1}, {[]string{"a", "aabbccd", "aabbcce", "ab"}, "aabbccf", 0, 1}, {[]string{"ab", "ac"}, "ad", -1, 0},
		// what others have ahead
		{[]string{"a", "b"}, "ba", 1, 1}, {[]string{"a", "ba"}, "b", -1, 0}, {[]string{"a", "az"}, "b", -1, 0}, {[]string{"bc"}, "abc", -1, 0},
		// bytes of all sorts
		{[]string{"\x00", "\x00\x00", "\x7f", "\x80", "\xff"}, "\x00\x00\x00", 1, 2}, {[]string{"\x00", "\x7f", "\x80", "\xff"}, "\x80\x00", 2, 1}, {[]string{"\x00", "\x7f", "\x80", "\xff"}, "\xff\xff", 3, 1},
		{[]string{"\x7f", "\x80", "\x80\xff", "\xff"}, "\x80\xff\xff", 2, 2}, {[]string{"\x7f"}, "\xff", -1, 0}, {[]string{"\xff"}, "\x7f", -1, 0}, {[]string{"\u00e4"}, "\u00e4\u00f6", 0, 2}, {[]string{"\u00e4"}, "\u00f6", -1, 0},
		// the greatest and the least code
		{single(255), "\x00\x01", 0, 1}, {single(255), "\xfe", 254, 1}, {single(255), "\xff", -1, 0}, {single(256)[1:], "\xff", 254, 1}, {single(256)[1:], "\x00", -1, 0},
	} {
		finds(t, x.t, x.s, x.code, x.size)
	}
}

func TestLongestOfEachTable(t *testing.T) {
	for _, x := range tables {
		for _, y := range tables {
			for _, s := range y {
				for _, s := range []string{s, s + "a", s[:len(s)-1], s + s, s[1:]} {
					code, size := longestOf(x, s)
					finds(t, x, s, code, size)
				}
			}
		}
	}
}

func TestLongestAsTheWordsSay(t *testing.T) {
	symbols := all(3, "ab")[1:]
	slices.Sort(symbols)
	strs := all(5, "ab")
	for set := range 1 << len(symbols) {
		var x []string
		for i, s := range symbols {
			if set>>i&1 == 1 {
				x = append(x, s)
			}
		}
		for _, s := range strs {
			code, size := longestOf(x, s)
			finds(t, x, s, code, size)
		}
	}
}

func TestLongestOfDrawnTables(t *testing.T) {
	next := draws(2)
	found := 0
	for range 3000 {
		x := orderOf(drawnList(next, 80))
		for range 30 {
			s := drawn(next, 14)
			if next(2) == 0 && len(x) > 0 {
				s = x[next(len(x))] + s
			}
			code, size := longestOf(x, s)
			finds(t, x, s, code, size)
			found += min(size, 2)
		}
	}
	if found < 50000 {
		t.Errorf("but %d were found", found)
	}
}

func TestLongestOfLongStrings(t *testing.T) {
	for _, x := range tables {
		for _, s := range x {
			s = strings.Repeat(s, 1+1<<16/len(s))
			code, size := longestOf(x, s)
			finds(t, x, s, code, size)
		}
	}
}

// P10.2: Order

// orders checks the strings in order.
func orders(t *testing.T, l, want []string) {
	t.Helper()
	if x := symbol.Order(l); !slices.Equal(x, want) {
		t.Errorf("Order of %.60q (%d) is %.60q (%d), not %.60q (%d)", l, len(l), x, len(x), want, len(want))
	}
}

// backwards are strings the other way round.
func backwards(l []string) []string {
	l = slices.Clone(l)
	slices.Reverse(l)
	return l
}

func TestOrder(t *testing.T) {
	for _, x := range []struct{ l, want []string }{
		{nil, nil}, {[]string{}, nil}, {[]string{""}, nil}, {[]string{"", ""}, nil}, {[]string{"123456789"}, nil}, {[]string{"", "123456789", strings.Repeat("a", 4096), strings.Repeat("a", 257)}, nil},
		{[]string{"a"}, []string{"a"}}, {[]string{"12345678"}, []string{"12345678"}}, {[]string{"1234567", "12345678", "123456789"}, []string{"1234567", "12345678"}},
		{[]string{"", "a"}, []string{"a"}}, {[]string{"a", ""}, []string{"a"}}, {[]string{"123456789", "2"}, []string{"2"}}, {[]string{"b", "123456789", "a", "", "c"}, []string{"a", "b", "c"}},
		{[]string{"a", "a"}, []string{"a"}}, {[]string{"a", "b", "a"}, []string{"a", "b"}}, {[]string{"b", "a", "b", "a", "b"}, []string{"a", "b"}}, {[]string{"a", "a", "a", "a"}, []string{"a"}},
		{[]string{"b", "a"}, []string{"a", "b"}}, {[]string{"ab", "a"}, []string{"a", "ab"}}, {[]string{"b", "ab"}, []string{"ab", "b"}}, {[]string{"a", "B"}, []string{"B", "a"}}, {[]string{"a\x00", "a"}, []string{"a", "a\x00"}},
		{[]string{"\xff", "\x80", "\x7f", "\x00"}, []string{"\x00", "\x7f", "\x80", "\xff"}}, {[]string{"\u00e4", "z", "\xff", "\x80"}, []string{"z", "\x80", "\u00e4", "\xff"}},
	} {
		orders(t, x.l, x.want)
	}
}

func TestOrderOfTables(t *testing.T) {
	for _, x := range tables {
		orders(t, x, x)
		orders(t, backwards(x), x)
		orders(t, slices.Concat(x, x), x)
		orders(t, slices.Concat(x, backwards(x), []string{"", "123456789"}), x)
	}
}

func TestOrderOfMoreThanATable(t *testing.T) {
	for _, n := range []int{254, 255, 256, 257, 1000} {
		for _, size := range []int{2, 3, 8} {
			l := many(n, size)
			want := l[:min(n, 255)]
			orders(t, l, want)
			orders(t, backwards(l), want)
			orders(t, slices.Concat(l, l, backwards(l)), want)
			// those that are no symbols take no room, wherever they'd stand
			orders(t, slices.Concat(many(300, 9), slices.Repeat([]string{""}, 300), backwards(l)), want)
		}
	}
	orders(t, slices.Repeat([]string{"b", "a"}, 500), []string{"a", "b"})
	orders(t, slices.Concat(slices.Repeat([]string{"a"}, 500), many(1, 8), []string{"\xff"}), []string{many(1, 8)[0], "a", "\xff"})
}

func TestOrderAsTheWordsSay(t *testing.T) {
	next := draws(3)
	for _, n := range []int{4, 10, 100, 1000} {
		for range 50 {
			l := drawnList(next, n)
			orders(t, l, orderOf(l))
		}
	}
	l := all(6, "\xff\x00a")
	orders(t, l, orderOf(l))
}

func TestWhatIsOrderedIsRight(t *testing.T) {
	next := draws(4)
	for range 500 {
		x := symbol.Order(drawnList(next, 600))
		if !rightOf(x) || !symbol.Right(x) {
			t.Fatalf("what is ordered is %q", x)
		}
	}
}

// P10.3

func TestWhatIsWrittenIsRead(t *testing.T) {
	next := draws(5)
	l := slices.Clone(tables)
	for range 500 {
		l = append(l, orderOf(drawnList(next, 100)))
	}
	for _, x := range l {
		b, e := symbol.Put(x)
		if e != api.OK || len(b) > 2296 {
			t.Fatalf("Put of %.40q (%d) is %d bytes, %d", x, len(x), len(b), e)
		}
		gets(t, b, x, 0)
	}
}

func TestTheMostBytes(t *testing.T) {
	if b, e := symbol.Put(many(255, 8)); e != api.OK || len(b) != 2296 {
		t.Errorf("the longest table is %d bytes, %d", len(b), e)
	}
}

// stands checks that what is read of b, if it is right, is written as it stood.
func stands(t *testing.T, b []byte) bool {
	t.Helper()
	c := cursor.New(b)
	x := symbol.Get(c)
	if !c.Good() {
		if len(x) != 0 {
			t.Fatalf("%x is read as %q, with error %d", b, x, c.End())
		}
		return false
	}
	taken := b[:len(b)-c.Left()]
	if again, e := symbol.Put(x); e != api.OK || !rightOf(x) || !bytes.Equal(again, taken) || len(again) > 2296 {
		t.Fatalf("%x is read as %q, which is written as %x, %d", taken, x, again, e)
	}
	return true
}

func TestWhatIsReadIsWritten(t *testing.T) {
	next := draws(6)
	right := 0
	for range 200000 {
		b := make([]byte, next(16))
		for i := range b {
			b[i] = []byte{byte(next(4)), byte(next(256)), 1, 1}[next(4)]
		}
		if stands(t, b) {
			right++
		}
	}
	if right < 10000 {
		t.Errorf("but %d were right", right)
	}
}

func TestWhatIsTurnedIsReadAsItStandsOrNotAtAll(t *testing.T) {
	for _, x := range tables {
		b := bytesOf(x)
		for i := range min(len(b), 40) {
			for bit := range 8 {
				b[i] ^= 1 << bit
				stands(t, b)
				b[i] ^= 1 << bit
			}
		}
	}
}

// P10.4

// apart checks that two strings have no byte where both have it.
func apart(t *testing.T, what, a, b string) {
	t.Helper()
	if a == "" || b == "" {
		return
	}
	at, from := uintptr(unsafe.Pointer(unsafe.StringData(a))), uintptr(unsafe.Pointer(unsafe.StringData(b)))
	if at < from+uintptr(len(b)) && from < at+uintptr(len(a)) {
		t.Errorf("%s: %.40q and %.40q have the same memory", what, a, b)
	}
}

func TestWhatIsHandedInStays(t *testing.T) {
	for _, x := range append(slices.Clone(tables), wrong...) {
		room := append(backwards(x), "b", "a", "a", "")
		was := slices.Clone(room)
		for _, handed := range [][]string{room[:len(x)], room[:len(x)+3]} {
			symbol.Order(handed)
			symbol.Right(handed)
			symbol.Put(handed)
			symbol.Longest(handed, "abc")
		}
		if !slices.Equal(room, was) {
			t.Errorf("%.40q became %.40q", was, room)
		}
		room = append(slices.Clone(x), "b", "a")
		was = slices.Clone(room)
		symbol.Right(room[:len(x)])
		symbol.Put(room[:len(x)])
		symbol.Longest(room[:len(x)], "abc")
		if !slices.Equal(room, was) {
			t.Errorf("%.40q became %.40q", was, room)
		}
	}
}

func TestBytesAreNewMemory(t *testing.T) {
	for _, x := range tables {
		one, _ := symbol.Put(x)
		two, _ := symbol.Put(x)
		clear(one[:cap(one)])
		if three, _ := symbol.Put(x); !bytes.Equal(two, bytesOf(x)) || !bytes.Equal(three, bytesOf(x)) {
			t.Errorf("bytes of %.40q, once others are cleared: %.40x, %.40x", x, two, three)
		}
	}
}

func TestTablesThatAreTakenAreNewMemory(t *testing.T) {
	for _, x := range tables {
		b := append(bytesOf(x), bytesOf(x)...)
		was := slices.Clone(b)
		c := cursor.New(b)
		one := symbol.Get(c)
		clear(one[:cap(one)])
		two := symbol.Get(c)
		if !bytes.Equal(b, was) {
			t.Errorf("what is handed in became %.60x", b)
		}
		clear(b)
		if !slices.Equal(two, x) {
			t.Errorf("%.40q is taken as %.40q, once what it stood in is cleared", x, two)
		}
	}
}

func TestOrderedIsNewMemory(t *testing.T) {
	for _, x := range append(slices.Clone(tables), many(300, 8), []string{"abc", "ab", "abc", ""}) {
		l := backwards(x)
		for i, s := range l {
			l[i] = strings.Clone(s)
		}
		one, two := symbol.Order(l), symbol.Order(l)
		for i, s := range one {
			apart(t, "Order", s, two[i])
			for _, other := range l {
				apart(t, "Order", s, other)
			}
		}
		clear(one[:cap(one)])
		clear(l)
		if !slices.Equal(two, orderOf(x)) {
			t.Errorf("Order of %.40q, once others are cleared, is %.40q", x, two)
		}
	}
}

// P1

func TestWhateverTableEnds(t *testing.T) {
	next := draws(7)
	ends := func(x []string, s string) {
		if i, n := symbol.Longest(x, s); i < -1 || i >= len(x) || n < 0 || n > len(s) {
			t.Errorf("Longest of %.40q, %q is %d, %d", x, s, i, n)
		}
	}
	for _, x := range wrong {
		for _, s := range append(slices.Clone(x), "", "a", "ab", "abc", "b", "123456789", "\xff\xff") {
			ends(x, s)
		}
	}
	for range 20000 {
		ends(drawnList(next, 12), drawn(next, 12))
	}
}

func TestLongListsEnd(t *testing.T) {
	l := slices.Repeat(many(1000, 8), 300)
	orders(t, l, many(255, 8))
	isWrong(t, l)
	isWrong(t, many(1<<16, 8))
}

func TestNilCursorGivesNothing(t *testing.T) {
	if x := symbol.Get(nil); len(x) != 0 {
		t.Errorf("Get of a nil cursor is %q", x)
	}
}
