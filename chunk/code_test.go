package chunk_test

import (
	"math"
	"slices"
	"strings"
	"testing"

	"hopper/api"
	"hopper/chunk"
)

// P17.1: the bytes, and the measure, of values.

// isCoded holds what is answered of values against the words.
func isCoded(t *testing.T, l []api.Val, o api.Coding) {
	t.Helper()
	want := bytesOf(l, o)
	if b, e := chunk.Code(l, o); e != api.OK || string(b) != want {
		t.Errorf("Code of %s, %+v is %s, error %d; not %s", few(l), o, short(b), e, short(want))
	}
	payload, _ := payloadOf(stringsOf(l), o)
	size := complex(float64(len(payload)), float64(len(stringsOf(l))))
	if m, e := chunk.Measure(l, o); e != api.OK || m != size {
		t.Errorf("Measure of %s, %+v is %v, error %d; not %v", few(l), o, m, e, size)
	}
}

// isRefused says that values, or a coding, may not be.
func isRefused(t *testing.T, l []api.Val, o api.Coding) {
	t.Helper()
	if b, e := chunk.Code(l, o); e != api.ErrArg || len(b) != 0 {
		t.Errorf("Code of %s, kind %d block %d rounds %d draws %d: %s, error %d", few(l), o.Kind, o.Block, o.Rounds, len(o.Draws), short(b), e)
	}
	if m, e := chunk.Measure(l, o); e != api.ErrArg || m != 0 {
		t.Errorf("Measure of %s, kind %d block %d rounds %d draws %d: %v, error %d", few(l), o.Kind, o.Block, o.Rounds, len(o.Draws), m, e)
	}
}

func TestCodeIsTheBytesWritten(t *testing.T) {
	l := []api.Val{{S: "ab"}, none, {S: "abab"}, {S: ""}, {S: "ab"}}
	for _, x := range []struct {
		l    []api.Val
		o    api.Coding
		want string
	}{
		{[]api.Val{{S: "a"}, none}, api.Coding{Kind: api.Plain, Block: 1}, "\x01\x02\x01\x01\x01\x01a"},
		{nil, api.Coding{Kind: api.Plain, Block: 1}, "\x01\x00\x00\x00"},
		{nil, api.Coding{Kind: api.Fsst, Block: 1, Rounds: 8, Draws: []int{1}}, "\x02\x00\x00\x00\x00"},
		{nil, api.Coding{Kind: api.Front, Block: 7}, "\x03\x00\x00\x07\x00\x00\x00\x00"},
		{nil, api.Coding{Block: 64}, "\x01\x00\x00\x00"},
		{[]api.Val{none}, api.Coding{Kind: api.Plain, Block: 1}, "\x01\x01\x00\x00\x00"},
		{[]api.Val{none}, api.Coding{Kind: api.Fsst, Block: 1}, "\x02\x01\x00\x00\x00\x00"},
		{[]api.Val{none}, api.Coding{Kind: api.Front, Block: 64}, "\x03\x01\x00\x00\x40\x00\x00\x00\x00"},
		{vals(""), api.Coding{Kind: api.Plain, Block: 1}, "\x01\x01\x01\x01\x00"},
		{vals(""), api.Coding{Kind: api.Fsst, Block: 1}, "\x02\x01\x01\x00\x01\x00"},
		{vals(""), api.Coding{Kind: api.Front, Block: 1}, "\x03\x01\x01\x01\x01\x01\x01\x01\x00\x01\x00"},
		{l, api.Coding{Kind: api.Plain, Block: 4}, "\x01\x05\x1d\x04\x03\x22\x04abababab"},
		{l, api.Coding{Kind: api.Fsst, Block: 4}, "\x02\x05\x1d\x00\x04\x04\x84\x40\xffa\xffb\xffa\xffb\xffa\xffb\xffa\xffb"},
		{l, api.Coding{Kind: api.Fsst, Block: 4, Rounds: 1, Draws: []int{1}}, "\x02\x05\x1d\x04\x01a\x02ab\x01b\x02ba\x04\x02\x49\x01\x01\x01\x01"},
		{l, api.Coding{Kind: api.Fsst, Block: 4, Rounds: 1, Draws: []int{-5}}, "\x02\x05\x1d\x04\x01a\x02ab\x01b\x02ba\x04\x02\x49\x01\x01\x01\x01"},
		{l, api.Coding{Kind: api.Fsst, Block: 4, Rounds: 2, Draws: []int{1}}, "\x02\x05\x1d\x02\x02ab\x04abab\x04\x01\x0b\x00\x01\x00"},
		{l, api.Coding{Kind: api.Fsst, Block: 4, Rounds: 8, Draws: []int{2}}, "\x02\x05\x1d\x00\x04\x04\x84\x40\xffa\xffb\xffa\xffb\xffa\xffb\xffa\xffb"},
		{l, api.Coding{Kind: api.Front, Block: 4}, "\x03\x05\x1d\x03\x04\x01\x04\x09\x00\x00\x02ab\x02\x02ab\x04\x02\x49"},
		{l, api.Coding{Kind: api.Front, Block: 1}, "\x03\x05\x1d\x03\x01\x03\x03\x59\x01\x00\x02ab\x04abab\x04\x02\x49"},
		{l, api.Coding{Kind: api.Best, Block: 4}, "\x01\x05\x1d\x04\x03\x22\x04abababab"},
	} {
		if b, e := chunk.Code(x.l, x.o); e != api.OK || string(b) != x.want {
			t.Errorf("Code of %s, %+v is %x, error %d; not %x", few(x.l), x.o, b, e, x.want)
		}
		isCoded(t, x.l, x.o)
	}
}

func TestCodeIsTheWords(t *testing.T) {
	for _, l := range lists() {
		for _, kind := range kinds {
			for _, o := range codings(kind) {
				isCoded(t, l, o)
			}
		}
	}
}

func TestCodeOfDrawnValues(t *testing.T) {
	next := draws(17)
	for i := range 600 {
		isCoded(t, drawn(next, 30), drawnCoding(next, kinds[i%4]))
	}
}

func TestCodeOfTheMostValues(t *testing.T) {
	all := slices.Repeat(vals("ab", "", "b", "abc"), api.MaxRows/4)
	some := slices.Repeat([]api.Val{{S: "ab"}, none, none, {S: "abc"}}, api.MaxRows/4)
	unlike := vals(named(api.MaxRows, "")...)
	for _, l := range [][]api.Val{all, some, unlike, slices.Repeat([]api.Val{none}, api.MaxRows)} {
		for _, kind := range kinds {
			o := api.Coding{Kind: kind, Block: 64, Rounds: 2, Draws: []int{0, 3}}
			isCoded(t, l, o)
			isRefused(t, append(slices.Clone(l), none), o)
			isRefused(t, append(slices.Clone(l), api.Val{S: "a"}), o)
		}
	}
}

func TestCodeOfValuesThatMayNotBe(t *testing.T) {
	for _, kind := range kinds {
		o := api.Coding{Kind: kind, Block: 4, Rounds: 1, Draws: []int{0}}
		for _, l := range [][]api.Val{
			{{Null: true, S: "x"}}, {{S: "a"}, {Null: true, S: "\x00"}}, {{Null: true, S: "x"}, {S: "a"}}, {none, {Null: true, S: strings.Repeat("x", 4096)}},
			vals(strings.Repeat("x", 4097)), vals("a", strings.Repeat("x", 4097)), vals(strings.Repeat("x", 4097), "a"), vals(strings.Repeat("x", 8192), ""), {none, {S: strings.Repeat("x", 4097)}, none},
			make([]api.Val, 4097), make([]api.Val, 8192), slices.Repeat([]api.Val{none}, 4097), slices.Repeat(vals("a"), 4097),
		} {
			isRefused(t, l, o)
		}
		isCoded(t, vals(strings.Repeat("x", 4096), "a"), o)
	}
}

func TestCodingsThatMayNotBe(t *testing.T) {
	l := []api.Val{{S: "ab"}, none, {S: "abab"}}
	for _, kind := range []int{math.MinInt, -256, -3, -2, -1, 4, 5, 6, 7, 127, 128, 255, 256, 257, 258, 259, 1 << 32, 1<<32 + 1, math.MaxInt} {
		isRefused(t, l, api.Coding{Kind: kind, Block: 1})
		isRefused(t, nil, api.Coding{Kind: kind, Block: 1})
	}
	for _, kind := range kinds {
		for _, block := range []int{math.MinInt, -64, -1, 0, 65, 66, 128, 256, 257, 1<<32 + 1, math.MaxInt} {
			isRefused(t, l, api.Coding{Kind: kind, Block: block})
			isRefused(t, nil, api.Coding{Kind: kind, Block: block})
		}
		for _, rounds := range []int{math.MinInt, -8, -2, -1, 9, 10, 16, 256, 1 << 32, math.MaxInt} {
			isRefused(t, l, api.Coding{Kind: kind, Block: 1, Rounds: rounds})
			isRefused(t, nil, api.Coding{Kind: kind, Block: 1, Rounds: rounds})
		}
		isRefused(t, l, api.Coding{Kind: kind, Block: 1, Draws: make([]int, api.MaxRows+1)})
		isRefused(t, nil, api.Coding{Kind: kind, Block: 64, Draws: make([]int, 2*api.MaxRows)})
	}
}

func TestCodingsThatMayBe(t *testing.T) {
	l := vals(slices.Concat(named(66, "ab"), named(66, "ab"))...)
	many := make([]int, api.MaxRows)
	for i := range many {
		many[i] = i * i
	}
	for _, kind := range kinds {
		for block := 1; block <= 64; block++ {
			isCoded(t, l, api.Coding{Kind: kind, Block: block})
		}
		for rounds := range 9 {
			isCoded(t, l, api.Coding{Kind: kind, Block: 64, Rounds: rounds, Draws: []int{3, 70}})
		}
		isCoded(t, l, api.Coding{Kind: kind, Block: 64, Rounds: 8, Draws: many})
		isCoded(t, nil, api.Coding{Kind: kind, Block: 64, Rounds: 8, Draws: many})
		for _, draw := range []int{0, 1, -1, 131, 132, 133, -131, -132, -133, math.MaxInt, -math.MaxInt, math.MinInt} {
			isCoded(t, l, api.Coding{Kind: kind, Block: 64, Rounds: 1, Draws: []int{draw}})
		}
	}
}

// A draw is of the strings that are there: those that are none aren't drawn.
func TestDrawsAreOfStringsThatAreThere(t *testing.T) {
	l := []api.Val{none, {S: "abab"}, none, {S: "cdcd"}}
	for draw, want := range map[int]string{0: "\x04\x01a\x02ab\x01b\x02ba", 1: "\x04\x01c\x02cd\x01d\x02dc", 2: "\x04\x01a\x02ab\x01b\x02ba", -3: "\x04\x01c\x02cd\x01d\x02dc"} {
		b := made(t, l, api.Coding{Kind: api.Fsst, Block: 1, Rounds: 1, Draws: []int{draw}})
		if !strings.HasPrefix(string(b), "\x02\x04\x0a"+want) {
			t.Errorf("drawn %d: %x", draw, b)
		}
	}
}

func TestBestIsTheLeast(t *testing.T) {
	train := []int{0, 1, 2, 3}
	seen := map[int]int{}
	for _, x := range []struct {
		what string
		l    []api.Val
		o    api.Coding
		kind int
	}{
		{"few strings", vals("ab", "cd"), api.Coding{Block: 4, Rounds: 1, Draws: train}, api.Plain},
		{"nothing", nil, api.Coding{Block: 4}, api.Plain},
		{"empty ones", slices.Repeat(vals(""), 100), api.Coding{Block: 4}, api.Plain},
		{"a long one that repeats itself", vals(strings.Repeat("abcdefgh", 100), strings.Repeat("abcdefgi", 99)), api.Coding{Block: 4, Rounds: 4, Draws: train}, api.Fsst},
		{"the same without draws", vals(strings.Repeat("abcdefgh", 100), strings.Repeat("abcdefgi", 99)), api.Coding{Block: 4, Rounds: 4}, api.Plain},
		{"the same in no rounds", vals(strings.Repeat("abcdefgh", 100), strings.Repeat("abcdefgi", 99)), api.Coding{Block: 4, Draws: train}, api.Plain},
		{"few unlike ones", slices.Repeat(vals("this is one", "this is another"), 50), api.Coding{Block: 4}, api.Front},
		{"ones that begin alike", vals(named(200, "https://example.org/a/long/path/")...), api.Coding{Block: 64}, api.Front},
		{"these in blocks of one", vals(named(200, "https://example.org/a/long/path/")...), api.Coding{Block: 1}, api.Plain},
	} {
		_, kind := payloadOf(stringsOf(x.l), x.o)
		b := made(t, x.l, x.o)
		if int(b[0]) != x.kind || kind != x.kind {
			t.Errorf("%s: kind %d, by the words %d; not %d", x.what, b[0], kind, x.kind)
		}
		isCoded(t, x.l, x.o)
		seen[x.kind]++
	}
	if len(seen) != 3 {
		t.Errorf("of each kind: %v", seen)
	}
}

// likeOnes draws lists until the payloads of two kinds, that are the least,
// have as many bytes.
func likeOnes(t *testing.T, less, more int) ([]api.Val, api.Coding) {
	next := draws(uint32(less*8 + more))
	for range 200000 {
		s := drawnText(next, 5)
		l := vals(slices.Repeat([]string{s + s + s, s}, next(12))...)
		l = append(l, vals(drawnText(next, 8))...)
		o := api.Coding{Block: next(64) + 1, Rounds: next(3), Draws: []int{0}}
		var sizes [4]int
		for kind := api.Plain; kind <= api.Front; kind++ {
			o.Kind = kind
			b, _ := payloadOf(stringsOf(l), o)
			sizes[kind] = len(b)
		}
		o.Kind = api.Best
		if sizes[less] == sizes[more] && sizes[less] == min(sizes[1], sizes[2], sizes[3]) {
			return l, o
		}
	}
	t.Fatalf("no payloads of kinds %d and %d are alike", less, more)
	return nil, api.Coding{}
}

func TestBestOfLikeOnesIsTheLeastKind(t *testing.T) {
	for _, x := range [][2]int{{api.Plain, api.Fsst}, {api.Plain, api.Front}, {api.Fsst, api.Front}} {
		l, o := likeOnes(t, x[0], x[1])
		if b := made(t, l, o); int(b[0]) > x[0] {
			t.Errorf("%s, %+v: kind %d, though %d and %d are alike", few(l), o, b[0], x[0], x[1])
		}
		isCoded(t, l, o)
	}
}

// P6: Best is no longer than any other kind, and payloads are at most as long
// as the chapters say.
func TestSizes(t *testing.T) {
	next := draws(6)
	for range 300 {
		l := drawn(next, 40)
		o := drawnCoding(next, api.Best)
		best, _ := chunk.Measure(l, o)
		whole, unlike := 0, 0
		for _, s := range stringsOf(l) {
			whole += len(s)
		}
		for _, s := range rising(stringsOf(l)) {
			unlike += len(s) + 10
		}
		for _, x := range []struct{ kind, most int }{{api.Plain, whole}, {api.Fsst, 2296 + 2*whole}, {api.Front, unlike + 10}} {
			o.Kind = x.kind
			m, _ := chunk.Measure(l, o)
			if real(best) > real(m) || imag(m) != imag(best) {
				t.Errorf("%s, %+v: %v, though Best is %v", few(l), o, m, best)
			}
			if numbers := 3 + 4*len(l); real(m) > float64(x.most+numbers) {
				t.Errorf("%s, %+v: %v, above %d", few(l), o, m, x.most+numbers)
			}
		}
	}
}
