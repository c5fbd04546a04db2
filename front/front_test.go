package front_test

import (
	"bytes"
	"math"
	"slices"
	"strings"
	"testing"
	"unsafe"

	"hopper/api"
	"hopper/cursor"
	"hopper/front"
)

// varint is a number's varint, as chapter 1's words tell it.
func varint(n int) []byte {
	if n < 128 {
		return []byte{byte(n)}
	}
	return append([]byte{byte(n%128 + 128)}, varint(n/128)...)
}

// text is the text of s.
func text(s string) string {
	return string(varint(len(s))) + s
}

// entry is what stands of a string that isn't the first one of its block.
func entry(shared int, rest string) string {
	return string(varint(shared)) + text(rest)
}

// packed are numbers of that width, bit by bit, as chapter 3's words tell it.
func packed(l []int, width int) []byte {
	b := append(varint(len(l)), byte(width))
	var held, bits int
	for _, x := range l {
		for k := range width {
			held |= x >> k & 1 << bits
			bits++
			if bits == 8 {
				b = append(b, byte(held))
				held, bits = 0, 0
			}
		}
	}
	if bits > 0 {
		b = append(b, byte(held))
	}
	return b
}

// numbers are numbers, packed in the least width.
func numbers(l ...int) []byte {
	width := 0
	for _, x := range l {
		for x>>width > 0 {
			width++
		}
	}
	return packed(l, width)
}

// form puts together what stands in a dictionary's bytes.
func form(count, block int, sizes []int, entries ...string) string {
	return string(slices.Concat(varint(count), varint(block), numbers(sizes...))) + strings.Join(entries, "")
}

// sharedOf is how many bytes two strings share at the beginning.
func sharedOf(a, b string) int {
	n := 0
	for n < len(a) && n < len(b) && a[n] == b[n] {
		n++
	}
	return n
}

// entriesOf are a dictionary's entries, as the words tell them, string by
// string, and how many bytes those of each block have.
func entriesOf(l []string, block int) (sizes []int, entries []string) {
	for i, s := range l {
		if i%block == 0 {
			entries = append(entries, text(s))
			sizes = append(sizes, 0)
		} else {
			shared := sharedOf(l[i-1], s)
			entries = append(entries, entry(shared, s[shared:]))
		}
		sizes[i/block] += len(entries[i])
	}
	return sizes, entries
}

// bytesOf are a dictionary's bytes.
func bytesOf(l []string, block int) string {
	sizes, entries := entriesOf(l, block)
	return form(len(l), block, sizes, entries...)
}

// draws answers a function that draws numbers below n, the same each time for
// one seed.
func draws(seed uint32) func(n int) int {
	return func(n int) int {
		seed = seed*1664525 + 1013904223
		return int(seed>>8) % n
	}
}

// drawn are strings that rise, at most n of them, of fewer than size bytes, of
// few sorts.
func drawn(next func(int) int, n, size int) []string {
	var l []string
	for range next(n + 1) {
		b := make([]byte, next(size))
		for i := range b {
			b[i] = "ab\x00\x7f\x80\xfe\xffa"[next(8)]
		}
		l = append(l, string(b))
	}
	slices.Sort(l)
	return slices.Compact(l)
}

// many are n strings of two bytes behind a beginning, rising.
func many(n int, beginning string) []string {
	var l []string
	for i := range n {
		l = append(l, beginning+string([]byte{byte(i >> 8), byte(i)}))
	}
	return l
}

// rising are the beginnings of s, from the empty one on.
func rising(s string) []string {
	var l []string
	for n := range len(s) + 1 {
		l = append(l, s[:n])
	}
	return l
}

// single are the strings of one byte.
func single() []string {
	var l []string
	for x := range 256 {
		l = append(l, string([]byte{byte(x)}))
	}
	return l
}

// long is so many bytes.
func long(n int) string {
	return strings.Repeat("x", n)
}

// blocks are such as a dictionary may have, and wrongBlocks are others.
var (
	blocks      = []int{1, 2, 3, 4, 5, 7, 8, 16, 31, 32, 63, 64}
	wrongBlocks = []int{0, -1, -2, -63, -64, -65, math.MinInt, 65, 66, 127, 128, 192, 256, 257, 320, 4096, 65536 + 1, 1<<32 + 1, math.MaxInt}
)

// dictionaries are lists that rise.
var dictionaries = [][]string{
	nil, {}, {""}, {"a"}, {"", "a"}, {"a", "b"}, {"ab", "abc"}, {"", "a", "ab", "abc"}, {"a", "a\x00"}, {"a", "ab", "b"}, {"aa", "ab", "b", "ba"},
	{"", "a", "apple", "apples", "apply", "b", "banana"}, {"banana", "bananas", "band", "bandana", "c"}, {"A", "B", "a", "b"}, {"abc", "b", "bcd"}, {"a\xc3", "a\u00e4"},
	{"\x00"}, {"\x7f"}, {"\x80"}, {"\xfe"}, {"\xff"}, {"", "\x00", "\x00\x00", "\x7f", "\x7f\x80", "\x80", "\xfe", "\xfe\xff", "\xff", "\xff\x00", "\xff\xff"}, {"a\x00", "a\x7f", "a\x80", "a\xfe", "a\xff"},
	single(), rising("abcdefgh"), rising(long(200)), rising("\x00\x00\x00\x00"), rising("\xff\xff\xff\xff"), many(300, ""), many(130, long(126)), many(130, long(127)),
	{long(127)}, {long(128)}, {long(126), long(127), long(128), long(129)}, {long(127) + "a", long(127) + "b"}, {long(128) + "a", long(128) + "b"}, {long(128) + "a" + long(127), long(128) + "b" + long(128)},
	{long(4095)}, {long(4096)}, {"", long(4096)}, {"a", long(4096), "y"}, {long(4095), long(4096)}, {long(4095) + "a", long(4095) + "b"}, {long(4096), "y" + long(4095)}, {long(4000) + "a" + long(95), long(4000) + "b" + long(95)},
}

// builds checks a dictionary's bytes.
func builds(t *testing.T, l []string, block int, want string) {
	t.Helper()
	if b, e := front.Build(l, block); e != api.OK || string(b) != want {
		t.Errorf("Build of %.60q (%d), %d is %.60x (%d), %d, not %.60x (%d)", l, len(l), block, b, len(b), e, want, len(want))
	}
}

// refuses checks that a dictionary has no bytes.
func refuses(t *testing.T, l []string, block int) {
	t.Helper()
	if b, e := front.Build(l, block); e != api.ErrArg || len(b) != 0 {
		t.Errorf("Build of %.60q (%d), %d is %.60x, %d, not ErrArg alone", l, len(l), block, b, e)
	}
}

// P13.1

func TestBuild(t *testing.T) {
	for _, x := range []struct {
		l     []string
		block int
		b     string
	}{
		{[]string{"ab", "abc"}, 2, "\x02\x02" + "\x01\x03\x06" + "\x02ab" + "\x02\x01c"},
		{[]string{"ab", "abc"}, 1, "\x02\x01" + "\x02\x03\x23" + "\x02ab" + "\x03abc"},
		{[]string{"ab", "abc"}, 64, "\x02\x40" + "\x01\x03\x06" + "\x02ab" + "\x02\x01c"},
		{nil, 1, "\x00\x01" + "\x00\x00"},
		{nil, 64, "\x00\x40" + "\x00\x00"},
		{[]string{""}, 1, "\x01\x01" + "\x01\x01\x01" + "\x00"},
		{[]string{"a"}, 3, "\x01\x03" + "\x01\x02\x02" + "\x01a"},
		{[]string{"", "a"}, 2, "\x02\x02" + "\x01\x03\x04" + "\x00" + "\x00\x01a"},
		{[]string{"", "a"}, 1, "\x02\x01" + "\x02\x02\x09" + "\x00" + "\x01a"},
		{[]string{"b", "c"}, 2, "\x02\x02" + "\x01\x03\x05" + "\x01b" + "\x00\x01c"},
		{[]string{"a", "ab", "abc", "b"}, 3, "\x04\x03" + "\x02\x04\x28" + "\x01a" + "\x01\x01b" + "\x02\x01c" + "\x01b"},
		{[]string{"\x00", "\x7f", "\x80", "\xfe", "\xff"}, 4, "\x05\x04" + "\x02\x04\x2b" + "\x01\x00" + "\x00\x01\x7f" + "\x00\x01\x80" + "\x00\x01\xfe" + "\x01\xff"},
	} {
		builds(t, x.l, x.block, x.b)
	}
}

func TestBuildIsWhatTheWordsSay(t *testing.T) {
	for _, l := range dictionaries {
		for _, block := range blocks {
			builds(t, l, block, bytesOf(l, block))
		}
	}
	next := draws(1)
	for range 3000 {
		l, block := drawn(next, 80, 6), 1+next(64)
		builds(t, l, block, bytesOf(l, block))
	}
}

// As many strings as blocks have, one less and one more, for each block.
func TestBuildOfTheLastBlock(t *testing.T) {
	for block := 1; block <= 64; block++ {
		for _, n := range []int{block - 1, block, block + 1, 2*block - 1, 2 * block, 2*block + 1, 5*block - 1, 5 * block, 5*block + 1} {
			l := many(n, "a")
			builds(t, l, block, bytesOf(l, block))
		}
	}
}

func TestFirstOfABlockIsPutWhole(t *testing.T) {
	builds(t, []string{"aa", "aab", "aac", "aad"}, 2, form(4, 2, []int{6, 7}, text("aa"), entry(2, "b"), text("aac"), entry(2, "d")))
	builds(t, []string{"aa", "aab", "aac"}, 2, form(3, 2, []int{6, 4}, text("aa"), entry(2, "b"), text("aac")))
	builds(t, []string{"abc", "abcd", "abce"}, 1, form(3, 1, []int{4, 5, 5}, text("abc"), text("abcd"), text("abce")))
	builds(t, []string{long(128), long(129)}, 1, form(2, 1, []int{130, 131}, text(long(128)), text(long(129))))
}

func TestBuildOfSharedBytes(t *testing.T) {
	for _, n := range []int{0, 1, 2, 126, 127, 128, 129, 255, 256, 4094, 4095} {
		one, two := long(n)+"a", long(n)+"b"
		builds(t, []string{one, two}, 2, form(2, 2, []int{len(text(one) + entry(n, "b"))}, text(one), entry(n, "b")))
		builds(t, []string{long(n), two}, 2, form(2, 2, []int{len(text(long(n)) + entry(n, "b"))}, text(long(n)), entry(n, "b")))
	}
	builds(t, []string{long(127) + "a", long(127) + "b"}, 2, form(2, 2, []int{2 + 128 + 1 + 2}, "\x80\x01", long(127), "a", "\x7f\x01b"))
	builds(t, []string{long(128) + "a", long(128) + "b"}, 2, form(2, 2, []int{2 + 129 + 2 + 2}, "\x81\x01", long(128), "a", "\x80\x01\x01b"))
}

func TestBuildOfAnotherBlock(t *testing.T) {
	for _, block := range wrongBlocks {
		for _, l := range dictionaries {
			refuses(t, l, block)
		}
		refuses(t, []string{"b", "a"}, block)
	}
}

func TestBuildOfWhatDoesNotRise(t *testing.T) {
	for _, l := range [][]string{
		{"a", "a"}, {"", ""}, {"b", "a"}, {"a", ""}, {"ab", "a"}, {"abc", "ab"}, {"a\x00", "a"}, {"b", "ab"}, {"a", "B"}, {"\x80", "\x7f"}, {"\xff", "\x00"}, {"\xff", "\x7f"}, {"\xff", "\xfe"}, {"\x00", ""}, {"\x00\x00", "\x00"}, {"\xff", "\u00e4"},
		{"a", "a", "b"}, {"a", "b", "b"}, {"a", "c", "b"}, {"b", "a", "c"}, {"b", "c", "a"}, {"a", "b", "a"}, {"a", "b", "c", "b", "d"}, {long(4096), long(4096)}, {long(4096), long(4095)}, {long(128), long(127)},
	} {
		for _, block := range blocks {
			refuses(t, l, block)
		}
	}
}

// Each place of a list, so within blocks, and over their ends.
func TestBuildOfOneThatDoesNotRise(t *testing.T) {
	for i := 1; i < 40; i++ {
		for _, block := range []int{1, 2, 3, 5, 8, 38, 39, 40, 64} {
			like := many(40, "a")
			like[i] = like[i-1]
			refuses(t, like, block)
			less := many(40, "a")
			less[i] = "a"
			refuses(t, less, block)
			turned := many(40, "a")
			turned[i-1], turned[i] = turned[i], turned[i-1]
			refuses(t, turned, block)
		}
	}
}

func TestBuildOfLongStrings(t *testing.T) {
	for _, block := range blocks {
		for i := range 5 {
			l := []string{"a", "b", "c", "d", "e"}
			l[i] += long(4095)
			builds(t, l, block, bytesOf(l, block))
			l[i] += "x"
			refuses(t, l, block)
		}
		for _, n := range []int{4097, 4098, 8192, 8193, 1 << 16} {
			refuses(t, []string{long(n)}, block)
			refuses(t, []string{"a", long(n)}, block)
			refuses(t, []string{long(4096), long(n)}, block)
		}
	}
}

func TestBuildOfManyStrings(t *testing.T) {
	for _, block := range blocks {
		l := many(4096, "")
		builds(t, l, block, bytesOf(l, block))
		builds(t, l[:4095], block, bytesOf(l[:4095], block))
		for _, n := range []int{4097, 4098, 8192, 1<<16 - 1} {
			refuses(t, many(n, ""), block)
		}
	}
}

// P13.2

// holds checks that a dictionary has those strings.
func holds(t *testing.T, d *front.Dict, want []string) {
	t.Helper()
	if d.Len() != len(want) || !slices.Equal(d.All(), want) {
		t.Errorf("there are %d strings, %.60q, not %d, %.60q", d.Len(), d.All(), len(want), want)
		return
	}
	for i, s := range want {
		if got := d.At(i); got != s {
			t.Errorf("at %d stands %.60q, not %.60q", i, got, s)
		}
	}
	for _, i := range []int{-1, -2, -64, -4096, math.MinInt, math.MinInt + 1, len(want), len(want) + 1, len(want) + 64, 4096, 1 << 16, 1 << 32, math.MaxInt - 1, math.MaxInt} {
		if got := d.At(i); got != "" {
			t.Errorf("of %d strings, at %d stands %.60q", len(want), i, got)
		}
	}
}

// opens checks that the dictionary is taken from b, and so many bytes are left.
func opens(t *testing.T, b string, want []string, left int) {
	t.Helper()
	c := cursor.New([]byte(b))
	d := front.Open(c)
	if !c.Good() || c.Left() != left {
		t.Errorf("Open of %.60x (%d): error %d, %d left, not %d", b, len(b), c.End(), c.Left(), left)
	}
	holds(t, d, want)
}

// fails checks that no strings are taken from b, but an error is met.
func fails(t *testing.T, b string, want api.Errno) {
	t.Helper()
	c := cursor.New([]byte(b))
	d := front.Open(c)
	if c.Good() || c.End() != want {
		t.Errorf("Open of %.60x (%d): %.60q, error %d, not %d", b, len(b), d.All(), c.End(), want)
	}
	holds(t, d, nil)
}

func TestOpen(t *testing.T) {
	opens(t, "\x02\x02\x01\x03\x06\x02ab\x02\x01c", []string{"ab", "abc"}, 0)
	opens(t, "\x02\x01\x02\x03\x23\x02ab\x03abc", []string{"ab", "abc"}, 0)
	opens(t, "\x00\x01\x00\x00", nil, 0)
	opens(t, "\x00\x40\x00\x00", nil, 0)
	opens(t, "\x01\x01\x01\x01\x01\x00", []string{""}, 0)
	opens(t, "\x01\x40\x01\x02\x02\x01a", []string{"a"}, 0)
	opens(t, "\x05\x04\x02\x04\x2b\x01\x00\x00\x01\x7f\x00\x01\x80\x00\x01\xfe\x01\xff", []string{"\x00", "\x7f", "\x80", "\xfe", "\xff"}, 0)
	for _, l := range dictionaries {
		for _, block := range blocks {
			opens(t, bytesOf(l, block), l, 0)
		}
	}
}

func TestOpenLeavesWhatIsBehind(t *testing.T) {
	for _, l := range dictionaries {
		for _, rest := range []string{"\x00", "\x01a", "a", "\xff\xff", "\x00\x01\x00\x00", "\x80"} {
			opens(t, bytesOf(l, 3)+rest, l, len(rest))
		}
	}
	c := cursor.New([]byte("\x00\x01\x00\x00a"))
	if d := front.Open(c); d.Len() != 0 || c.End() != api.ErrCut || c.Byte() != 'a' || c.End() != api.OK {
		t.Errorf("a byte behind: %d strings, error %d", d.Len(), c.End())
	}
}

func TestOpenOneBehindTheOther(t *testing.T) {
	for i, x := range dictionaries {
		for k, y := range dictionaries {
			one, two := blocks[i%len(blocks)], blocks[k%len(blocks)]
			c := cursor.New([]byte("abc" + bytesOf(x, one) + bytesOf(y, two) + "d"))
			c.Bytes(3)
			a, b := front.Open(c), front.Open(c)
			if !slices.Equal(a.All(), x) || !slices.Equal(b.All(), y) || c.Byte() != 'd' || c.End() != api.OK {
				t.Errorf("%.40q and %.40q are taken as %.40q and %.40q, error %d", x, y, a.All(), b.All(), c.End())
			}
		}
	}
}

func TestOpenOfEachBeginning(t *testing.T) {
	for i, l := range dictionaries {
		b := bytesOf(l, blocks[i%len(blocks)])
		for n := range len(b) {
			if n < 300 || n > len(b)-20 {
				fails(t, b[:n], api.ErrCut)
			}
		}
	}
	for _, block := range blocks {
		b := bytesOf([]string{"", "a", "apple", "apples", "apply", "b", "banana"}, block)
		for n := range len(b) {
			fails(t, b[:n], api.ErrCut)
		}
	}
}

func TestOpenOfAnotherCount(t *testing.T) {
	for _, n := range []int{4097, 4098, 8192, 1 << 20, 1 << 32, math.MaxInt} {
		fails(t, string(varint(n)), api.ErrForm)
		fails(t, string(varint(n))+"\x01\x00\x00", api.ErrForm)
	}
	l := many(4097, "")
	for _, block := range blocks {
		opens(t, bytesOf(l[:4096], block), l[:4096], 0)
		fails(t, bytesOf(l, block), api.ErrForm)
	}
	// one string less than there is, and one more
	fails(t, form(1, 2, []int{6}, text("ab"), entry(2, "c")), api.ErrForm)
	fails(t, form(3, 3, []int{6}, text("ab"), entry(2, "c")), api.ErrCut)
	opens(t, form(2, 3, []int{6}, text("ab"), entry(2, "c"), entry(2, "d")), []string{"ab", "abc"}, 3)
	fails(t, form(0, 2, []int{6}, text("ab"), entry(2, "c")), api.ErrForm)
	fails(t, form(2, 1, nil), api.ErrForm)
}

func TestOpenOfAnotherBlock(t *testing.T) {
	for _, block := range wrongBlocks {
		if block < 0 {
			continue // no varint tells of it
		}
		for _, n := range []int{0, 1, 2, 4096} {
			fails(t, string(varint(n))+string(varint(block)), api.ErrForm)
			fails(t, form(n, block, nil), api.ErrForm)
			fails(t, form(n, block, []int{2}, text("a")), api.ErrForm)
			fails(t, form(n, block, []int{6}, text("ab"), entry(2, "c")), api.ErrForm)
		}
	}
	l := many(70, "a")
	opens(t, bytesOf(l, 64), l, 0)
	fails(t, bytesOf(l, 65), api.ErrForm)
}

func TestOpenOfWhatDoesNotRise(t *testing.T) {
	for _, x := range [][2]string{{"a", "a"}, {"b", "a"}, {"a", ""}, {"", ""}, {"ab", "a"}, {"a\x00", "a"}, {"\x80", "\x7f"}, {"\xff", "\x00"}, {"b", "ab"}, {long(128), long(127)}, {long(4096), long(4096)}} {
		one, two := x[0], x[1]
		// within a block
		shared := sharedOf(one, two)
		fails(t, bytesOf(x[:], 2), api.ErrForm)
		fails(t, bytesOf([]string{one, two, "z"}, 3), api.ErrForm)
		fails(t, bytesOf([]string{"", one + "a", one, "z"}, 4), api.ErrForm)
		fails(t, form(2, 2, []int{len(text(one) + entry(shared, two[shared:]))}, text(one), entry(shared, two[shared:])), api.ErrForm)
		// behind a block's end
		fails(t, bytesOf(x[:], 1), api.ErrForm)
		fails(t, bytesOf([]string{one, two, "z"}, 1), api.ErrForm)
		fails(t, form(2, 1, []int{len(text(one)), len(text(two))}, text(one), text(two)), api.ErrForm)
		if one != "" {
			fails(t, bytesOf([]string{"", one, two, "z"}, 2), api.ErrForm)
		}
	}
	fails(t, bytesOf([]string{"a", "ab", "ab"}, 2), api.ErrForm)
	fails(t, bytesOf([]string{"a", "ab", "aa", "b"}, 2), api.ErrForm)
	fails(t, bytesOf([]string{"a", "ab", "a", "b"}, 2), api.ErrForm)
	fails(t, bytesOf([]string{"c", "d", "a", "b"}, 2), api.ErrForm)
	fails(t, bytesOf([]string{"a", "b", ""}, 2), api.ErrForm)
}

// One that doesn't rise, at each place, within blocks and over their ends.
func TestOpenOfOneThatDoesNotRise(t *testing.T) {
	for i := 1; i < 20; i++ {
		for _, block := range []int{1, 2, 3, 7, 19, 20, 64} {
			l := many(20, "a")
			l[i] = l[i-1]
			fails(t, bytesOf(l, block), api.ErrForm)
			l[i] = "a"
			fails(t, bytesOf(l, block), api.ErrForm)
		}
	}
}

func TestOpenOfWhatSharesOtherBytes(t *testing.T) {
	two := func(one string, shared int, rest string) string {
		return form(2, 2, []int{len(text(one) + entry(shared, rest))}, text(one), entry(shared, rest))
	}
	opens(t, two("ab", 2, "c"), []string{"ab", "abc"}, 0)
	opens(t, two("ab", 1, "c"), []string{"ab", "ac"}, 0)
	opens(t, two("ab", 0, "c"), []string{"ab", "c"}, 0)
	opens(t, two("", 0, "c"), []string{"", "c"}, 0)
	for _, b := range []string{
		// less than it could
		two("ab", 1, "bc"), two("ab", 0, "abc"), two("ab", 0, "ac"), two("a", 0, "ab"), two("\x00", 0, "\x00\x00"), two(long(128), 127, "xa"), two(long(129), 128, "xy"), two(long(4095), 0, long(4096)),
		// more than there is
		two("ab", 3, "c"), two("ab", 3, ""), two("ab", 4, "c"), two("", 1, ""), two("", 1, "a"), two("a", 2, "b"), two("a", 127, "b"), two("a", 128, "b"), two("a", 4096, "b"), two("a", 4097, "b"), two("a", math.MaxInt, "b"), two(long(127), 128, "x"),
		// all, or a part, of the one ahead, and no rest
		two("ab", 2, ""), two("ab", 1, ""), two("ab", 0, ""), two("", 0, ""), two(long(4096), 4096, ""),
		// what is put together is less
		two("ab", 1, "a"), two("ab", 0, "Z"), two("b", 0, "a"), two("\x80", 0, "\x7f"), two("\xff", 0, "\x00\xff"),
	} {
		fails(t, b, api.ErrForm)
	}
	// of the third one, which begins as the first one does
	fails(t, form(3, 3, []int{11}, text("ab"), entry(1, "c"), entry(3, "a"), "abcd"), api.ErrForm)
	fails(t, form(3, 3, []int{9}, text("abc"), entry(1, "c"), entry(3, "d")), api.ErrForm)
	fails(t, form(3, 3, []int{9}, text("abc"), entry(0, "b"), entry(1, "")), api.ErrForm)
}

func TestOpenOfLongStrings(t *testing.T) {
	two := func(one string, shared int, rest string) string {
		return form(2, 2, []int{len(text(one) + entry(shared, rest))}, text(one), entry(shared, rest))
	}
	opens(t, two(long(4095), 4095, "x"), []string{long(4095), long(4096)}, 0)
	opens(t, two("x", 1, long(4095)), []string{"x", long(4096)}, 0)
	opens(t, two("a", 0, long(4096)), []string{"a", long(4096)}, 0)
	opens(t, two(long(2048)+"a", 2048, long(2048)), []string{long(2048) + "a", long(4096)}, 0)
	for _, b := range []string{
		two(long(4096), 4096, "x"), two(long(4095), 4095, "xx"), two("x", 1, long(4096)), two("a", 0, long(4097)), two(long(2048)+"a", 2048, long(2049)), two(long(4095)+"a", 4095, long(4096)),
		form(1, 1, []int{len(text(long(4097)))}, text(long(4097))), form(2, 1, []int{2, len(text(long(4097)))}, text("a"), text(long(4097))),
	} {
		fails(t, b, api.ErrForm)
	}
}

func TestOpenOfOtherSizes(t *testing.T) {
	l := []string{"", "a", "apple", "apples", "apply", "b", "banana"}
	for _, block := range []int{1, 2, 3, 4, 6, 7, 64} {
		sizes, entries := entriesOf(l, block)
		opens(t, form(7, block, sizes, entries...), l, 0)
		for _, behind := range []string{"", "\x00", "abcdefgh"} {
			othersFail(t, block, sizes, strings.Join(entries, "")+behind)
		}
	}
}

// othersFail checks that no strings are taken of blocks of other sizes.
func othersFail(t *testing.T, block int, sizes []int, entries string) {
	t.Helper()
	for i := range sizes {
		for _, by := range []int{-1, 1, -2, 2, -sizes[i], 8, 100, 4096, 1 << 20, 1<<32 - 1 - sizes[i]} {
			l := slices.Clone(sizes)
			l[i] += by
			if l[i] < 0 {
				continue // no number tells of it
			}
			fails(t, form(7, block, l, entries), api.ErrForm)
			if k := (i + 1) % len(l); k != i && l[k] > by && l[k]-by < 1<<32 {
				l[k] -= by // so that the sum is right
				fails(t, form(7, block, l, entries), api.ErrForm)
			}
		}
		fails(t, form(7, block, slices.Delete(slices.Clone(sizes), i, i+1), entries), api.ErrForm)
		for _, x := range []int{0, 1, sizes[i]} {
			fails(t, form(7, block, slices.Insert(slices.Clone(sizes), i, x), entries), api.ErrForm)
		}
	}
	fails(t, form(7, block, nil, entries), api.ErrForm)
	fails(t, form(7, block, append(slices.Clone(sizes), 0), entries), api.ErrForm)
	fails(t, form(7, block, make([]int, len(sizes)), entries), api.ErrForm)
}

func TestOpenOfSizesWithoutStrings(t *testing.T) {
	for _, sizes := range [][]int{{0}, {1}, {0, 0}, {4096}} {
		fails(t, form(0, 1, sizes), api.ErrForm)
		fails(t, form(0, 64, sizes, text("a")), api.ErrForm)
	}
	for _, n := range []int{2, 64, 4097, 1 << 20, 1 << 31, 1 << 40, math.MaxInt} {
		fails(t, "\x01\x01"+string(varint(n))+"\x00", api.ErrForm)
		fails(t, "\x40\x40"+string(varint(n))+"\x00", api.ErrForm)
	}
}

func TestOpenOfSizesThatChapter3Refuses(t *testing.T) {
	head, entries := "\x02\x02", "\x02ab\x02\x01c"
	opens(t, head+string(packed([]int{6}, 3))+entries, []string{"ab", "abc"}, 0)
	for width := 4; width <= 32; width++ {
		fails(t, head+string(packed([]int{6}, width))+entries, api.ErrForm)
		fails(t, "\x00\x02\x00"+string([]byte{byte(width)}), api.ErrForm)
	}
	for width := 33; width < 256; width++ {
		fails(t, head+"\x01"+string([]byte{byte(width)}), api.ErrForm)
		fails(t, head+"\x01"+string([]byte{byte(width)})+strings.Repeat("\x06", 40)+entries, api.ErrForm)
	}
	for bit := 3; bit < 8; bit++ {
		fails(t, head+"\x01\x03"+string([]byte{6 | 1<<bit})+entries, api.ErrForm)
	}
}

func TestOpenOfVarintsThatAreNotTheShortest(t *testing.T) {
	for _, b := range []string{
		"\x82\x00\x02\x01\x03\x06\x02ab\x02\x01c",
		"\x02\x82\x00\x01\x03\x06\x02ab\x02\x01c",
		"\x02\x02\x81\x00\x03\x06\x02ab\x02\x01c",
		"\x02\x02\x01\x03\x07\x82\x00ab\x02\x01c",
		"\x02\x02\x01\x03\x07\x02ab\x82\x00\x01c",
		"\x02\x02\x01\x03\x07\x02ab\x02\x81\x00c",
		"\x80\x00\x01\x00\x00", "\x00\x81\x00\x00\x00", "\x00\x01\x80\x00\x00",
		strings.Repeat("\x80", 9) + "\x01", "\x02" + strings.Repeat("\x80", 9) + "\x01", "\x02\x02\x01\x03\x06\x02ab" + strings.Repeat("\xff", 9) + "\x01",
	} {
		fails(t, b, api.ErrForm)
	}
}

func TestOpenMeetsTheFirstError(t *testing.T) {
	for _, x := range []struct {
		b    string
		want api.Errno
	}{
		// what can't be, ahead of bytes that are missing
		{"\x81\x20", api.ErrForm}, {"\x02\x00", api.ErrForm}, {"\x02\x41", api.ErrForm}, {"\x02\x01\x03", api.ErrForm}, {"\x02\x01\x02\x21", api.ErrForm},
		{form(2, 2, []int{6}, text("ab"), "\x03"), api.ErrForm}, {form(2, 2, []int{6}, text("ab"), "\x03\x05"), api.ErrForm},
		{form(3, 3, []int{9}, text("ab"), entry(1, "bc")), api.ErrForm}, {form(3, 3, []int{9}, text("ab"), entry(2, "")), api.ErrForm}, {form(3, 3, []int{9}, text("ab"), entry(1, "a")), api.ErrForm},
		{form(3, 1, []int{2, 2, 2}, text("a"), text("a")), api.ErrForm}, {form(3, 1, []int{2, 2, 2}, text("b"), text("a"), "\x01"), api.ErrForm},
		{form(1, 1, []int{9}, "\x81\x20"), api.ErrForm}, {form(2, 2, []int{9}, text("a"), "\x01\x81\x20"), api.ErrForm},
		// entries that are longer, or shorter, than their block's, ahead of bytes that are missing
		{form(2, 2, []int{1}, text("ab")), api.ErrForm}, {form(2, 2, []int{2}, text("ab"), "\x02"), api.ErrForm}, {form(2, 1, []int{2, 3}, text("ab")), api.ErrForm}, {form(2, 1, []int{4, 3}, text("ab")), api.ErrForm}, {form(2, 1, []int{4, 3}, text("ab"), "\x02"), api.ErrForm},
		{form(1, 1, []int{3}, text("a")), api.ErrForm}, {form(1, 1, []int{1 << 31}, text("a")), api.ErrForm},
		// bytes that are missing, where an entry isn't there yet
		{form(2, 2, []int{6}, "\x02a"), api.ErrCut}, {form(2, 2, []int{6}, text("b"), "\x00\x02a"), api.ErrCut}, {form(2, 2, []int{6}, text("ab"), "\x01\x02b"), api.ErrCut}, {form(2, 2, []int{6}, text("ab"), "\x00"), api.ErrCut}, {form(2, 1, []int{2, 2}, text("b"), "\x01"), api.ErrCut},
		{"\x02\x02\x01\x20\x06", api.ErrCut}, {"\x02", api.ErrCut}, {"\x80", api.ErrCut}, {"\x02\x01\x02\x03", api.ErrCut},
	} {
		fails(t, x.b, x.want)
	}
}

func TestOpenBehindAnError(t *testing.T) {
	for _, e := range []api.Errno{api.ErrArg, api.ErrCut, api.ErrForm, api.ErrPlan, api.ErrPattern} {
		for _, b := range []string{"", "\x00\x01\x00\x00", "\x02\x02\x01\x03\x06\x02ab\x02\x01c", "\x02\x00", "\x81\x20", "\x02", "\x02\x02\x01\x03\x07\x02ab\x02\x01c"} {
			c := cursor.New([]byte(b))
			c.Fail(e)
			d := front.Open(c)
			if c.End() != e || c.Left() != len(b) {
				t.Errorf("Open of %x behind the error %d: error %d, %d left", b, e, c.End(), c.Left())
			}
			holds(t, d, nil)
		}
	}
}

func TestOpenKeepsItsError(t *testing.T) {
	for b, want := range map[string]api.Errno{"\x02\x00\x00\x01\x00\x00": api.ErrForm, "\x02\x02\x01\x03\x05\x02ab\x02\x01c\x00\x01\x00\x00": api.ErrForm, "\x02\x02\x01\x03\x06\x02ab\x02\x05c": api.ErrCut} {
		c := cursor.New([]byte(b))
		front.Open(c)
		left := c.Left()
		c.Fail(api.ErrPlan)
		d := front.Open(c)
		if c.End() != want || c.Left() != left {
			t.Errorf("Open of %x again: error %d, %d left", b, c.End(), c.Left())
		}
		holds(t, d, nil)
	}
}

// P13.3

// again checks that a list is built within its bounds, opened as it was, and
// built once more as it stood.
func again(t *testing.T, l []string, block int) {
	t.Helper()
	b, e := front.Build(l, block)
	if e != api.OK {
		t.Fatalf("Build of %.60q (%d), %d: %d", l, len(l), block, e)
	}
	if n := len(strings.Join(l, "")) + 10*len(l) + 10; len(b) > n {
		t.Errorf("Build of %.60q (%d), %d has %d bytes, more than %d", l, len(l), block, len(b), n)
	}
	c := cursor.New(b)
	d := front.Open(c)
	if e := c.End(); e != api.OK || d.Len() != len(l) || !slices.Equal(d.All(), l) {
		t.Errorf("%.60q (%d), built by %d, is opened as %.60q (%d), error %d", l, len(l), block, d.All(), d.Len(), e)
	}
	if two, e := front.Build(d.All(), block); e != api.OK || !bytes.Equal(b, two) {
		t.Errorf("%.60x (%d) is built again as %.60x (%d), error %d", b, len(b), two, len(two), e)
	}
}

func TestWhatIsBuiltIsOpened(t *testing.T) {
	for _, l := range dictionaries {
		for block := 1; block <= 64; block++ {
			again(t, l, block)
		}
	}
	next := draws(2)
	for range 3000 {
		again(t, drawn(next, 200, 9), 1+next(64))
	}
}

func TestAsManyAsMayBe(t *testing.T) {
	for _, block := range []int{1, 63, 64} {
		again(t, many(4096, ""), block)
		again(t, many(4096, long(126)), block)
		again(t, many(4096, long(4094)), block)
		again(t, rising(long(4095)), block)
	}
}

// reader reads what the words tell, and looks at nothing.
type reader struct {
	b    string
	size int
	ok   bool
}

func (r *reader) take(n int) string {
	if r.ok = r.ok && n <= len(r.b)-r.size; !r.ok {
		return ""
	}
	r.size += n
	return r.b[r.size-n : r.size]
}

func (r *reader) number() int {
	n := 0
	for shift := 0; r.ok; shift += 7 {
		s := r.take(1)
		if s == "" || shift > 28 {
			break
		}
		n |= int(s[0]) % 128 << shift
		if s[0] < 128 {
			return n
		}
	}
	r.ok = false
	return 0
}

// standsFor is the dictionary that b begins with, and how many bytes it has:
// what is read stands there just if it rises, and its bytes do.
func standsFor(b string) (l []string, size int, ok bool) {
	r := &reader{b: b, ok: true}
	count, block := r.number(), r.number()
	n, width := r.number(), r.take(1)
	if !r.ok || count > 4096 || block < 1 || block > 64 || n > 4096 {
		return nil, 0, false
	}
	r.take((n*int(width[0]) + 7) / 8)
	for i := range count {
		last, shared := "", 0
		if i%block > 0 {
			last, shared = l[i-1], r.number()
		}
		rest := r.take(r.number())
		if !r.ok || shared > len(last) || i > 0 && l[i-1] >= last[:shared]+rest || shared+len(rest) > 4096 {
			return nil, 0, false
		}
		l = append(l, last[:shared]+rest)
	}
	want := bytesOf(l, block)
	return l, len(want), strings.HasPrefix(b, want)
}

// stands checks that b is opened just if it is what Build answers, and as that.
// It says whether it is.
func stands(t *testing.T, b string) bool {
	t.Helper()
	l, size, ok := standsFor(b)
	c := cursor.New([]byte(b))
	d := front.Open(c)
	switch {
	case c.Good() != ok || !slices.Equal(d.All(), l) && ok || ok && c.Left() != len(b)-size:
		t.Errorf("%x: %q, error %d, %d left; not %q, %t, %d left", b, d.All(), c.End(), c.Left(), l, ok, len(b)-size)
	case !ok && (d.Len() != 0 || len(d.All()) != 0 || c.End() != api.ErrCut && c.End() != api.ErrForm):
		t.Errorf("%x: %q, error %d", b, d.All(), c.End())
	}
	return ok
}

// Each byte of some dictionaries, turned to each other one, taken out, and put
// in: most are refused, and what is opened is built as it stands.
func TestWhatIsOpenedIsBuiltAsItStood(t *testing.T) {
	right := 0
	for _, l := range [][]string{nil, {""}, {"a"}, {"", "a"}, {"ab", "abc"}, {"", "a", "apple", "apples", "apply", "b", "banana"}, {"\x00", "\x00\x01", "\x01", "\x01\x01", "\x02"}} {
		for _, block := range []int{1, 2, 3, 64} {
			b := []byte(bytesOf(l, block))
			for i := range b {
				for x := range 256 {
					turned := slices.Clone(b)
					turned[i] = byte(x)
					for _, s := range []string{string(turned), string(slices.Insert(slices.Clone(b), i, byte(x)))} {
						if stands(t, s) {
							right++
						}
					}
				}
				stands(t, string(slices.Delete(slices.Clone(b), i, i+1)))
				stands(t, string(b[:i]))
			}
		}
	}
	if right < 2000 {
		t.Errorf("but %d stood", right)
	}
}

func TestDrawnBytes(t *testing.T) {
	next := draws(3)
	right := 0
	for range 100000 {
		count, block := next(4), 1+next(3)
		var sizes []int
		for range (count + block - 1) / block {
			sizes = append(sizes, 1+next(4))
		}
		b := []byte(form(count, block, sizes))
		for range next(10) {
			b = append(b, "\x00\x01\x01\x02\x00ab"[next(7)])
		}
		if stands(t, string(b)) {
			right++
		}
	}
	if right < 5000 {
		t.Errorf("but %d stood", right)
	}
}

// P13.4

func TestWhatIsHandedInStays(t *testing.T) {
	for _, was := range [][]string{{"a", "ab", "b", "ba", "c"}, {"c", "b", "b", "", "a"}, {long(5000), "b", "a", "\xff", "x"}} {
		for n := range 6 {
			l := slices.Clone(was)
			for _, block := range []int{-1, 0, 1, 2, 3, 64, 65} {
				front.Build(l[:n], block)
			}
			if !slices.Equal(l, was) {
				t.Errorf("what is handed in, %.60q, became %.60q", was, l)
			}
		}
	}
	b := []byte("\x02\x02\x01\x03\x06\x02ab\x02\x01cdefgh")
	was := slices.Clone(b)
	for n := range b {
		front.Open(cursor.New(b[:n]))
	}
	if !bytes.Equal(b, was) {
		t.Errorf("what is handed in became %x", b)
	}
}

func TestWhatIsHandedInIsNotKept(t *testing.T) {
	want := []string{"a", "ab", "b", "ba", "c"}
	l := slices.Clone(want)
	b, _ := front.Build(l, 2)
	clear(l)
	if string(b) != bytesOf(want, 2) {
		t.Errorf("the bytes became %x", b)
	}
	both := append(slices.Clone(b), bytesOf([]string{"x", "xy"}, 2)...)
	c := cursor.New(both)
	d := front.Open(c)
	clear(b)
	clear(both)
	if two := front.Open(c); !slices.Equal(two.All(), []string{"x", "xy"}) || c.End() != api.OK {
		t.Errorf("behind the first dictionary stands %q, error %d", two.All(), c.End())
	}
	c.Fail(api.ErrPlan)
	holds(t, d, want)
}

func TestAnswersAreNewLists(t *testing.T) {
	for _, l := range dictionaries {
		was := slices.Clone(l)
		one, _ := front.Build(l, 3)
		two, _ := front.Build(l, 3)
		clear(one[:cap(one)])
		three, _ := front.Build(l, 3)
		if want := bytesOf(was, 3); string(two) != want || string(three) != want || !slices.Equal(l, was) {
			t.Errorf("of %.60q come, once others are cleared, %.60x and %.60x", was, two, three)
		}
		d := front.Open(cursor.New(three))
		a, b := d.All(), d.All()
		clear(a[:cap(a)])
		if !slices.Equal(b, was) || !slices.Equal(d.All(), was) {
			t.Errorf("of %.60q come, once others are cleared, %.60q and %.60q", was, b, d.All())
		}
	}
}

// apart checks that strings have no byte where another has it; Go has strings
// of one byte but once.
func apart(t *testing.T, what string, l, others []string) {
	t.Helper()
	begin := func(s string) uintptr { return uintptr(unsafe.Pointer(unsafe.StringData(s))) }
	for _, a := range l {
		for _, b := range others {
			if len(a) > 1 && len(b) > 1 && begin(a) < begin(b)+uintptr(len(b)) && begin(b) < begin(a)+uintptr(len(a)) {
				t.Errorf("%s: %.40q and %.40q have the same memory", what, a, b)
			}
		}
	}
}

func TestAnswersAreNewStrings(t *testing.T) {
	l := []string{"ab", "abc", "abcd", "bcd", "\xff\xff\xff"}
	b, _ := front.Build(l, 3)
	d := front.Open(cursor.New(b))
	one := d.All()
	apart(t, "All", one, l)
	apart(t, "All", one, d.All())
	for i := range one {
		apart(t, "All", one[:i], one[i:])
		apart(t, "At", []string{d.At(i)}, []string{d.At(i), one[i], l[i]})
	}
}

// P1

func TestWhateverIsOpenedEnds(t *testing.T) {
	next := draws(4)
	for range 100000 {
		b := make([]byte, next(30))
		for i := range b {
			b[i] = byte(next(256) >> next(9))
		}
		c := cursor.New(b)
		d := front.Open(c)
		if !c.Good() && (d.Len() != 0 || len(d.All()) != 0 || d.At(0) != "") {
			t.Fatalf("%x is opened as %q, with error %d", b, d.All(), c.End())
		}
	}
}

func TestWhateverIsBuiltEnds(t *testing.T) {
	for _, block := range slices.Concat(blocks, wrongBlocks) {
		for _, l := range [][]string{nil, {""}, {"", ""}, {long(1 << 20)}, slices.Repeat([]string{"a"}, 1<<16), many(1<<16, "b")} {
			if b, e := front.Build(l, block); e != api.OK && len(b) != 0 {
				t.Errorf("Build of %d strings, %d is %.60x, %d", len(l), block, b, e)
			}
		}
	}
}

func TestNothingIsWithoutStrings(t *testing.T) {
	holds(t, nil, nil)
	holds(t, new(front.Dict), nil)
	holds(t, front.Open(nil), nil)
	holds(t, front.Open(new(cursor.Cursor)), nil)
}
