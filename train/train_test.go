package train_test

import (
	"math"
	"math/big"
	"slices"
	"strings"
	"testing"
	"unsafe"

	"hopper/fsst"
	"hopper/symbol"
	"hopper/train"
)

// sampleOf is a sample, as the words tell it, reckoned with whole numbers that
// have no bounds.
func sampleOf(l []string, draws []int) []string {
	var sample []string
	for _, draw := range draws {
		far := new(big.Int).Abs(big.NewInt(int64(draw)))
		place := far.Mod(far, big.NewInt(int64(len(l)))).Int64()
		sample = append(sample, l[place])
	}
	return sample
}

// piecesOf are a string's pieces: the codes that it is encoded as are decoded
// one by one.
func piecesOf(t []string, s string) []string {
	var l []string
	for b := fsst.Encode(t, s); len(b) > 0; {
		n := 1
		if b[0] == 255 {
			n = 2
		}
		piece, _ := fsst.Decode(t, b[:n], 8)
		l = append(l, piece)
		b = b[n:]
	}
	return l
}

// countedOf are the counted strings of a sample, as often as they are counted.
func countedOf(t []string, sample []string) []string {
	var l []string
	for _, s := range sample {
		pieces := piecesOf(t, s)
		l = append(l, pieces...)
		for i := 1; i < len(pieces); i++ {
			if two := pieces[i-1] + pieces[i]; len(two) < 9 {
				l = append(l, two)
			}
		}
	}
	return l
}

// roundOf is the table behind a round, as the words tell it: the one with the
// greatest gain that isn't taken yet is taken again and again.
func roundOf(t []string, sample []string) []string {
	gains := map[string]int{}
	for _, s := range countedOf(t, sample) {
		gains[s] += len(s)
	}
	var best []string
	for len(gains) > 0 && len(best) < 255 {
		first := ""
		for s, gain := range gains {
			if gain > gains[first] || gain == gains[first] && s < first {
				first = s
			}
		}
		best = append(best, first)
		delete(gains, first)
	}
	slices.Sort(best)
	return best
}

// draws answers a function that draws numbers below n, the same each time for
// one seed.
func draws(seed uint32) func(n int) int {
	return func(n int) int {
		seed = seed*1664525 + 1013904223
		return int(seed>>8) % n
	}
}

// drawnList are fewer than n strings of fewer than size bytes, of the first
// sorts.
func drawnList(next func(int) int, n, size, sorts int) []string {
	l := make([]string, next(n))
	for i := range l {
		for range next(size) {
			x := next(sorts)
			l[i] += "ab\x00\x7f\x80\xff\xfecdefghijklmnopqrstuvwxyz"[x : x+1]
		}
	}
	return l
}

// bytesFrom are n strings of one byte, rising.
func bytesFrom(from, n int) []string {
	var l []string
	for x := range n {
		l = append(l, string([]byte{byte(from + x)}))
	}
	return l
}

// times are n of each of the strings.
func times(n int, l []string) []string {
	return slices.Concat(slices.Repeat([][]string{l}, n)...)
}

// tables are right tables.
var tables = [][]string{
	nil, {}, {"a"}, {"ab"}, {"a", "ab"}, {"a", "ab", "b", "ba"}, {"ab", "abc", "cd"}, {"abcdefgh"}, {"abcd", "efgh"}, {"aaaaaaaa"}, {"aaaa", "aaaaa"},
	{"a", "ab", "abc", "abcd", "abcde", "abcdef", "abcdefg", "abcdefgh"},
	{"\x00"}, {"\xff"}, {"\x00", "\x7f", "\x80", "\xfe", "\xff"}, {"\x00\x00", "\x7f\x80", "\x80\x7f", "\xfe\xff", "\xff\xff"}, bytesFrom(0, 255), bytesFrom(1, 255),
}

// samples are samples of all sorts, each with a byte at least.
var samples = [][]string{
	{"a"}, {"", "a", ""}, {"abab"}, {"ab", "ab"}, {"abcabc", "ab"}, {"a", "b", "c"}, {"ba", "ab", "aab"}, {"abcdefghabcdefgh"}, {"abcdefghi", "hgfedcba"}, {strings.Repeat("a", 100)}, {strings.Repeat("abc", 30), "", "cba"},
	{"\x00\x7f\x80\xfe\xff", "\xff\xfe\x80\x7f\x00"}, {"\xff\xff\xff", "\x00\x00"}, {"\u00e4\u00f6\u00e4"}, bytesFrom(0, 256), times(3, bytesFrom(0, 256)), {strings.Join(bytesFrom(0, 256), "")},
	{"the longest of all symbols", "the least of all symbols", "all of it"},
}

// without are samples without bytes.
var without = [][]string{nil, {}, {""}, {"", ""}, make([]string, 1000)}

// P12.1: Sample

func TestSample(t *testing.T) {
	l := []string{"a", "bb", "\x00\xff"}
	for _, x := range []struct {
		l     []string
		draws []int
		want  []string
	}{
		{l, []int{0, 1, 2}, []string{"a", "bb", "\x00\xff"}}, {l, []int{2, 0, 1}, []string{"\x00\xff", "a", "bb"}}, {l, []int{1}, []string{"bb"}}, {l, []int{0, 0, 0, 0}, []string{"a", "a", "a", "a"}},
		// above the number of strings
		{l, []int{3, 4, 5, 6}, []string{"a", "bb", "\x00\xff", "a"}}, {l, []int{3000000001}, []string{"bb"}}, {l, []int{math.MaxInt, math.MaxInt - 1}, []string{"bb", "a"}},
		// below 0
		{l, []int{-1, -2, -3, -4, -5}, []string{"bb", "\x00\xff", "a", "bb", "\x00\xff"}}, {l, []int{math.MinInt, math.MinInt + 1}, []string{"\x00\xff", "bb"}},
		// one string, two alike, and the empty one
		{l[:1], []int{0, 7, -7, math.MinInt, math.MaxInt}, []string{"a", "a", "a", "a", "a"}}, {[]string{"a", "a"}, []int{0, 1, math.MinInt}, []string{"a", "a", "a"}}, {[]string{"", "a"}, []int{0, 1, 2, -1}, []string{"", "a", "", "a"}}, {[]string{""}, []int{5, 6}, []string{"", ""}},
		// no draws, no strings, neither
		{l, nil, nil}, {l, []int{}, nil}, {nil, []int{0}, nil}, {[]string{}, []int{1, -1, 0, math.MinInt, math.MaxInt}, nil}, {nil, nil, nil},
	} {
		if got := train.Sample(x.l, x.draws); !slices.Equal(got, x.want) {
			t.Errorf("Sample of %q by %d is %q, not %q", x.l, x.draws, got, x.want)
		}
	}
}

func TestSampleAsTheWordsSay(t *testing.T) {
	places := []int{math.MinInt, math.MinInt + 1, math.MinInt + 2, math.MinInt32, math.MaxInt32, math.MaxInt - 1, math.MaxInt}
	for x := -600; x <= 600; x++ {
		places = append(places, x)
	}
	for n := range 300 {
		var l []string
		for i := range n {
			l = append(l, strings.Repeat("a", i))
		}
		var want []string
		if n > 0 {
			want = sampleOf(l, places)
		}
		if got := train.Sample(l, places); !slices.Equal(got, want) {
			t.Errorf("Sample of %d strings isn't as the words say", n)
		}
	}
}

// P12.1: Round

// rounds checks the table behind a round.
func rounds(t *testing.T, x, sample, want []string) {
	t.Helper()
	if got := train.Round(x, sample); !slices.Equal(got, want) {
		t.Errorf("Round with %.60q (%d) of %.60q (%d) is %.200q (%d), not %.200q (%d)", x, len(x), sample, len(sample), got, len(got), want, len(want))
	}
}

func TestRound(t *testing.T) {
	for _, x := range []struct{ t, sample, want []string }{
		{nil, []string{"abab"}, []string{"a", "ab", "b", "ba"}}, {nil, []string{"a"}, []string{"a"}}, {nil, []string{"abc"}, []string{"a", "ab", "b", "bc", "c"}}, {nil, []string{"aaa"}, []string{"a", "aa"}}, {[]string{}, []string{"ba"}, []string{"a", "b", "ba"}},
		// no strings, and the empty one
		{nil, nil, nil}, {nil, []string{}, nil}, {nil, []string{""}, nil}, {[]string{"a"}, nil, nil}, {[]string{"a"}, []string{"", ""}, nil}, {nil, []string{"", "ab", ""}, []string{"a", "ab", "b"}},
		// within one string alone
		{nil, []string{"a", "b"}, []string{"a", "b"}}, {nil, []string{"ab", "c"}, []string{"a", "ab", "b", "c"}}, {nil, []string{"a", "", "b"}, []string{"a", "b"}}, {[]string{"ab"}, []string{"ab", "ab"}, []string{"ab"}}, {nil, []string{"a", "a"}, []string{"a"}}, {nil, []string{"ab", "ba"}, []string{"a", "ab", "b", "ba"}},
		// pieces that are symbols
		{[]string{"ab"}, []string{"ab"}, []string{"ab"}}, {[]string{"ab"}, []string{"abab"}, []string{"ab", "abab"}}, {[]string{"ab"}, []string{"ababab"}, []string{"ab", "abab"}}, {[]string{"a", "b"}, []string{"ab"}, []string{"a", "ab", "b"}},
		// pieces of an escape
		{[]string{"x"}, []string{"ab"}, []string{"a", "ab", "b"}}, {[]string{"ab"}, []string{"abc"}, []string{"ab", "abc", "c"}}, {[]string{"ab"}, []string{"cab"}, []string{"ab", "c", "cab"}}, {[]string{"ab"}, []string{"acb"}, []string{"a", "ac", "b", "cb", "c"}}, {[]string{"ab"}, []string{"cabd"}, []string{"ab", "abd", "c", "cab", "d"}},
		{[]string{"bc"}, []string{"abcd"}, []string{"a", "abc", "bc", "bcd", "d"}}, {[]string{"abc"}, []string{"ab"}, []string{"a", "ab", "b"}},
		// the longest, of symbols that begin with one another
		{[]string{"a", "ab"}, []string{"ab"}, []string{"ab"}}, {[]string{"a", "ab", "abc"}, []string{"abcaba"}, []string{"a", "ab", "aba", "abc", "abcab"}}, {[]string{"a", "ab", "bc"}, []string{"abc"}, []string{"ab", "abc", "c"}}, {[]string{"aa", "aaa"}, []string{"aaaaaa"}, []string{"aaa", "aaaaaa"}}, {[]string{"a", "ab", "abcd"}, []string{"abce"}, []string{"ab", "abc", "c", "ce", "e"}},
		// the whole of an old table is gone, but what is counted
		{[]string{"a", "ab", "x", "y"}, []string{"ab"}, []string{"ab"}}, {[]string{"x"}, []string{"a"}, []string{"a"}},
		// two together of eight and of nine bytes
		{[]string{"abcd", "efgh"}, []string{"abcdefgh"}, []string{"abcd", "abcdefgh", "efgh"}}, {[]string{"abcd", "efghi"}, []string{"abcdefghi"}, []string{"abcd", "efghi"}}, {[]string{"abcde", "fgh"}, []string{"abcdefgh"}, []string{"abcde", "abcdefgh", "fgh"}}, {[]string{"abcdefg"}, []string{"abcdefgh"}, []string{"abcdefg", "abcdefgh", "h"}},
		{[]string{"abcdefg"}, []string{"habcdefg"}, []string{"abcdefg", "h", "habcdefg"}}, {[]string{"abcdefgh"}, []string{"abcdefghi"}, []string{"abcdefgh", "i"}}, {[]string{"abcdefgh"}, []string{"iabcdefgh"}, []string{"abcdefgh", "i"}}, {[]string{"abcdefgh"}, []string{"abcdefghabcdefgh"}, []string{"abcdefgh"}}, {[]string{"abcdefg", "hi"}, []string{"abcdefghi"}, []string{"abcdefg", "hi"}},
		{[]string{"abcd", "efgh"}, []string{"abcdefghi"}, []string{"abcd", "abcdefgh", "efgh", "efghi", "i"}}, {[]string{"abcd", "efghi"}, []string{"abcdefghij"}, []string{"abcd", "efghi", "efghij", "j"}},
		// two, not three, and not apart
		{[]string{"b"}, []string{"abc"}, []string{"a", "ab", "b", "bc", "c"}}, {[]string{"ab", "cd", "ef"}, []string{"abcdef"}, []string{"ab", "abcd", "cd", "cdef", "ef"}},
		// bytes of all sorts
		{nil, []string{"\x00\x7f\x80\xfe\xff"}, []string{"\x00", "\x00\x7f", "\x7f", "\x7f\x80", "\x80", "\x80\xfe", "\xfe", "\xfe\xff", "\xff"}}, {nil, []string{"\xff\x00"}, []string{"\x00", "\xff", "\xff\x00"}}, {[]string{"\xff"}, []string{"\xff\xff\xfe"}, []string{"\xfe", "\xff", "\xff\xfe", "\xff\xff"}}, {[]string{"\x00\x7f"}, []string{"\x00\x7f\x80"}, []string{"\x00\x7f", "\x00\x7f\x80", "\x80"}},
		{nil, []string{"\u00e4"}, []string{"\xc3", "\u00e4", "\xa4"}}, {nil, []string{"\x00\x00\x00"}, []string{"\x00", "\x00\x00"}},
	} {
		slices.Sort(x.want)
		rounds(t, x.t, x.sample, x.want)
	}
}

func TestGainsOfOneByte(t *testing.T) {
	all := bytesFrom(0, 256)
	// alike: the first 255, however they come
	rounds(t, nil, all, all[:255])
	rounds(t, nil, all[:255], all[:255])
	rounds(t, nil, all[1:], all[1:])
	back := slices.Clone(all)
	slices.Reverse(back)
	rounds(t, nil, back, all[:255])
	rounds(t, all[:255], back, all[:255])
	// the last one twice: it is in, and the last of the others out
	rounds(t, nil, append(slices.Clone(all), "\xff"), append(slices.Clone(all[:254]), "\xff"))
	rounds(t, nil, append([]string{"\xff"}, all...), append(slices.Clone(all[:254]), "\xff"))
	// each once more but one: that is out
	for i := range all {
		others := slices.Delete(slices.Clone(all), i, i+1)
		rounds(t, nil, slices.Concat(all, others), others)
		rounds(t, nil, slices.Concat(others, back), others)
	}
}

// Each of the 252 bytes up to fb is counted just five times, in strings of its
// own; of what stands beside them only the three best are symbols.
func TestGainsAreCountsTimesLengths(t *testing.T) {
	full := times(5, bytesFrom(0, 252))
	for _, x := range []struct{ t, beside, three []string }{
		// two together, though each of them is but twice there, or once
		{nil, []string{"\xfc\xfd", "\xfc\xfd", "\xfe", "\xfe", "\xfe", "\xff", "\xff", "\xff"}, []string{"\xfc\xfd", "\xfe", "\xff"}},
		{nil, []string{"\xfc\xfd", "\xfe", "\xfe", "\xfe", "\xff", "\xff"}, []string{"\xfc\xfd", "\xfe", "\xff"}},
		// long ones that are there once, or twice
		{[]string{"\xfc2345678"}, append(slices.Repeat([]string{"\xfd"}, 7), "\xfc2345678", "\xfe", "\xff"), []string{"\xfc2345678", "\xfd", "\xfe"}},
		{[]string{"\xfd\xfd", "\xfe\xff\xff"}, []string{"\xfd\xfd", "\xfd\xfd", "\xfe\xff\xff", "\xfc", "\xfc", "\xfe", "\xfe"}, []string{"\xfd\xfd", "\xfe\xff\xff", "\xfc"}},
		// many of one byte, against long ones that are there once
		{[]string{"\xfc2345"}, append(slices.Repeat([]string{"\xfd", "\xfe", "\xff"}, 6), "\xfc2345"), []string{"\xfd", "\xfe", "\xff"}},
		// alike, but of other lengths: those that are less
		{[]string{"\xfc\xfc\xfc\xfc"}, []string{"\xfc\xfc\xfc\xfc", "\xfd", "\xfd", "\xfd", "\xfd", "\xfe", "\xfe", "\xfe", "\xfe", "\xff", "\xff", "\xff", "\xff"}, []string{"\xfc\xfc\xfc\xfc", "\xfd", "\xfe"}},
		{[]string{"\xff\xff\xff\xff"}, []string{"\xff\xff\xff\xff", "\xfd", "\xfd", "\xfd", "\xfd", "\xfe", "\xfe", "\xfe", "\xfe", "\xfc", "\xfc", "\xfc", "\xfc"}, []string{"\xfc", "\xfd", "\xfe"}},
		{[]string{"\xfe\x00"}, []string{"\xfe\x00", "\xfe", "\xfe", "\xfd", "\xfd", "\xfc", "\xfc"}, []string{"\xfc", "\xfd", "\xfe"}},
	} {
		want := append(bytesFrom(0, 252), x.three...)
		slices.Sort(want)
		rounds(t, x.t, slices.Concat(full, x.beside), want)
		rounds(t, x.t, slices.Concat(x.beside, full), want)
	}
}

func TestOnePieceManyTimes(t *testing.T) {
	for _, n := range []int{2, 3, 255, 256, 4096} {
		rounds(t, nil, []string{strings.Repeat("q", n)}, []string{"q", "qq"})
		rounds(t, []string{"q"}, []string{strings.Repeat("q", n)}, []string{"q", "qq"})
		rounds(t, nil, slices.Repeat([]string{"q"}, n), []string{"q"})
		// what is counted so often stays, though 255 others are less
		rounds(t, nil, append(bytesFrom(0, 255), slices.Repeat([]string{"\xff"}, n)...), append(bytesFrom(0, 254), "\xff"))
	}
}

func TestRoundOfEachTable(t *testing.T) {
	for _, x := range tables {
		for _, sample := range samples {
			rounds(t, x, sample, roundOf(x, sample))
			rounds(t, x, slices.Concat(x, sample), roundOf(x, slices.Concat(x, sample)))
			rounds(t, x, []string{strings.Join(x, "")}, roundOf(x, []string{strings.Join(x, "")}))
		}
		for _, sample := range without {
			rounds(t, x, sample, nil)
		}
	}
}

func TestRoundAsTheWordsSay(t *testing.T) {
	next := draws(1)
	full := 0
	for i := range 600 {
		x := symbol.Order(drawnList(next, 200, 9, 2+i%30))
		sample := drawnList(next, 20, 60, 2+i%30)
		want := roundOf(x, sample)
		rounds(t, x, sample, want)
		rounds(t, nil, sample, roundOf(nil, sample))
		rounds(t, want, sample, roundOf(want, sample))
		if len(want) == 255 {
			full++
		}
	}
	if full < 50 {
		t.Errorf("but %d tables were full", full)
	}
}

// P12.1: Train

// trains checks the table behind so many rounds.
func trains(t *testing.T, sample []string, n int, want []string) {
	t.Helper()
	if got := train.Train(sample, n); !slices.Equal(got, want) {
		t.Errorf("Train of %.60q (%d), %d, is %.200q (%d), not %.200q (%d)", sample, len(sample), n, got, len(got), want, len(want))
	}
}

func TestTrain(t *testing.T) {
	trains(t, []string{"abab"}, 1, []string{"a", "ab", "b", "ba"})
	trains(t, []string{"abab"}, 2, []string{"ab", "abab"})
	trains(t, []string{"abab"}, 3, []string{"abab"})
	trains(t, []string{"abab"}, 4, []string{"abab"})
	trains(t, []string{"abcabc", "ab"}, 2, []string{"ab", "abca", "bc", "ca", "cabc"})
}

func TestSoManyRounds(t *testing.T) {
	for _, sample := range slices.Concat(samples, without) {
		for _, n := range []int{0, -1, -8, math.MinInt} {
			trains(t, sample, n, nil)
		}
		var x []string
		for n := 1; n <= 8; n++ {
			x = roundOf(x, sample)
			trains(t, sample, n, x)
		}
		for _, n := range []int{9, 10, 255, 256, math.MaxInt32, math.MaxInt} {
			trains(t, sample, n, x)
		}
	}
}

// The sample's table isn't the same behind any two of nine rounds, so that one
// round more or less is seen.
func TestEachRoundCounts(t *testing.T) {
	sample := restless(t)
	var x []string
	for n := range 9 {
		trains(t, sample, n, x)
		x = roundOf(x, sample)
	}
	eight := train.Train(sample, 8)
	if slices.Equal(eight, x) {
		t.Error("the table stays behind nine rounds")
	}
	for _, n := range []int{9, 16, math.MaxInt} {
		trains(t, sample, n, eight)
	}
}

// restless is a sample whose tables behind none to nine rounds are all unlike.
func restless(t *testing.T) []string {
	t.Helper()
	next := draws(2)
	for range 200 {
		sample := drawnList(next, 30, 80, 4)
		l := [][]string{nil}
		for range 9 {
			x := roundOf(l[len(l)-1], sample)
			if slices.ContainsFunc(l, func(y []string) bool { return slices.Equal(x, y) }) {
				break
			}
			l = append(l, x)
		}
		if len(l) == 10 {
			return sample
		}
	}
	t.Fatal("no sample is found")
	return nil
}

// P12.2

// follows checks that a table that comes of a sample is right, has symbols just
// if the sample has bytes, and has only such as stand in it.
func follows(t *testing.T, x, sample []string) {
	t.Helper()
	if !symbol.Right(x) {
		t.Errorf("of %.60q comes %.200q, which isn't right", sample, x)
	}
	if (len(x) > 0) != (strings.Join(sample, "") != "") {
		t.Errorf("of %.60q come %d symbols", sample, len(x))
	}
	for _, s := range x {
		if !slices.ContainsFunc(sample, func(in string) bool { return strings.Contains(in, s) }) {
			t.Errorf("of %.60q comes the symbol %q", sample, s)
		}
	}
}

func TestTablesAreRight(t *testing.T) {
	for _, sample := range slices.Concat(samples, without) {
		for n := 1; n <= 9; n++ {
			follows(t, train.Train(sample, n), sample)
		}
		for _, x := range tables {
			follows(t, train.Round(x, sample), sample)
		}
	}
	next := draws(3)
	for i := range 300 {
		sample := drawnList(next, 40, 50, 2+i%30)
		follows(t, train.Train(sample, 1+next(8)), sample)
		x := symbol.Order(drawnList(next, 300, 9, 2+i%30))
		follows(t, train.Round(x, sample), sample)
	}
}

func TestWithoutBytes(t *testing.T) {
	for _, sample := range without {
		for n := range 10 {
			trains(t, sample, n, nil)
		}
		trains(t, train.Sample(sample, []int{0, 1, -1}), 8, nil)
	}
	trains(t, train.Sample(nil, []int{1, 2}), 8, nil)
	trains(t, train.Sample([]string{"a"}, nil), 8, nil)
}

// One table comes of one sample, however often it is asked, and in whichever
// order its strings come.
func TestOneSampleOneTable(t *testing.T) {
	next := draws(4)
	for range 20 {
		sample := drawnList(next, 60, 60, 29)
		one := train.Train(sample, 4)
		for range 5 {
			trains(t, slices.Clone(sample), 4, one)
		}
		slices.Reverse(sample)
		trains(t, sample, 4, one)
		slices.Sort(sample)
		trains(t, sample, 4, one)
	}
}

// P12.3

// The lists are written here anew, and out of order, so that no other test can
// have changed them ahead.
func TestWhatIsHandedInStays(t *testing.T) {
	was := [][]string{
		{"b", "ab", "", "b", "aab", "\xff\x00", "abcabc", "z", "y"},
		{"a", "ab", "abc", "\x80", "b", "a", "\x00"},
		{"", "", "b", "a"},
	}
	for _, x := range was {
		for n := range len(x) {
			l, table, places := slices.Clone(x), slices.Clone(was[1]), []int{5, -5, 0, math.MinInt, 3, 2, 1}
			train.Sample(l[:n], places[:4])
			train.Round(table[:4], l[:n])
			train.Train(l[:n], 3)
			if !slices.Equal(l, x) || !slices.Equal(table, was[1]) || !slices.Equal(places, []int{5, -5, 0, math.MinInt, 3, 2, 1}) {
				t.Errorf("of %q, %q and so many draws became %q, %q and %d", x, was[1], l, table, places)
			}
		}
	}
}

func TestAnswersAreNewLists(t *testing.T) {
	for _, sample := range samples {
		for _, answer := range []func() []string{
			func() []string { return train.Sample(sample, []int{0, 1, 2, 0}) },
			func() []string { return train.Round(sample[:0], sample) },
			func() []string { return train.Train(sample, 3) },
		} {
			was := slices.Clone(sample)
			one, two := answer(), answer()
			want := slices.Clone(two)
			clear(one[:cap(one)])
			if three := answer(); !slices.Equal(two, want) || !slices.Equal(three, want) || !slices.Equal(sample, was) {
				t.Errorf("of %.60q come, once others are cleared, %.60q and %.60q, not %.60q", was, two, three, want)
			}
		}
	}
}

// apart checks that strings have no byte where another has it; Go has strings
// of one byte but once.
func apart(t *testing.T, what string, l, others []string) {
	t.Helper()
	begin := func(s string) uintptr { return uintptr(unsafe.Pointer(unsafe.StringData(s))) }
	for _, a := range l {
		for _, b := range others {
			if len(a) > 1 && len(b) > 1 && begin(a) < begin(b)+uintptr(len(b)) && begin(b) < begin(a)+uintptr(len(a)) {
				t.Errorf("%s: %.40q and %.40q have the same memory", what, a, b)
			}
		}
	}
}

func TestAnswersAreNewStrings(t *testing.T) {
	sample := []string{strings.Repeat("abcdefgh", 4), strings.Clone("the longest of all symbols"), strings.Clone("\xff\xff\x00")}
	table := []string{strings.Clone("abcdefgh"), strings.Clone("of"), strings.Clone("\xff\xff")}
	given := slices.Concat(sample, table)
	drawn := train.Sample(sample, []int{0, 1, 2, 1})
	apart(t, "Sample", drawn, given)
	apart(t, "Sample", drawn, train.Sample(sample, []int{0, 1, 2, 1}))
	for i := range drawn {
		apart(t, "Sample", drawn[:i], drawn[i:])
	}
	one := train.Round(table, sample)
	apart(t, "Round", one, given)
	apart(t, "Round", one, train.Round(table, sample))
	two := train.Train(sample, 3)
	apart(t, "Train", two, given)
	apart(t, "Train", two, train.Train(sample, 3))
}

// P1

func TestWhateverTableEnds(t *testing.T) {
	next := draws(5)
	for _, x := range [][]string{{""}, {"", "a"}, {"b", "a"}, {"a", "a"}, {"abcdefghi"}, {"c", "", "abcdefghijk", "a", "ab"}, bytesFrom(0, 256), times(3, bytesFrom(0, 256)), {strings.Repeat("a", 5000)}} {
		for _, sample := range slices.Concat(samples, without) {
			train.Round(x, sample)
		}
		for range 50 {
			train.Round(x, drawnList(next, 20, 40, 6))
		}
	}
}

func TestLongOnesEnd(t *testing.T) {
	long := strings.Repeat("abcdefghz", 1<<16)
	follows(t, train.Train([]string{long, long}, 8), []string{long})
	next := draws(6)
	b := make([]byte, 1<<19)
	for i := range b {
		b[i] = byte(next(256))
	}
	mixed := []string{string(b)}
	if x := train.Train(mixed, 8); len(x) != 255 || !symbol.Right(x) {
		t.Errorf("of %d bytes come %.60q (%d)", len(b), x, len(x))
	}
	places := make([]int, 1<<19)
	for i := range places {
		places[i] = next(1<<24) - 1<<23
	}
	if l := train.Sample([]string{"a", "b", "c"}, places); len(l) != len(places) {
		t.Errorf("by %d draws come %d strings", len(places), len(l))
	}
}
