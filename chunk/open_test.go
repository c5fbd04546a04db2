package chunk_test

import (
	"slices"
	"strings"
	"testing"

	"hopper/api"
	"hopper/chunk"
	"hopper/cursor"
)

// P17.2 and P17.3: what is opened, and how it stands.

// opened holds what Open takes of bytes, as far as they are told of, against
// the words.
func opened(t *testing.T, what string, b string, x told, e api.Errno, left int) {
	t.Helper()
	c := cursor.New([]byte(b))
	k := chunk.Open(c)
	switch {
	case c.Good() != (e == api.OK):
		t.Errorf("%s: good %v, not %v", what, c.Good(), !c.Good())
	case !c.Good() && c.End() != e:
		t.Errorf("%s: error %d, not %d", what, c.End(), e)
	case c.Good() && c.Left() != left:
		t.Errorf("%s: %d bytes are left, not %d", what, c.Left(), left)
	}
	held(t, what, k, x)
}

// refused says that bytes can't be taken, and why.
func refused(t *testing.T, what string, b string, e api.Errno) {
	t.Helper()
	opened(t, what, b, told{}, e, 0)
	if _, want, _ := openOf(b); want != e {
		t.Errorf("%s: the words tell error %d, not %d", what, want, e)
	}
}

func TestOpenIsWhatWasCoded(t *testing.T) {
	for _, l := range lists() {
		for _, kind := range kinds {
			for _, o := range codings(kind) {
				x, b := toldOf(l, o), bytesOf(l, o)
				opened(t, few(l), b, x, api.OK, 0)
				for _, more := range []string{"\x00", "\x01", "\xff", "abc", b} {
					opened(t, few(l)+" and more", b+more, x, api.OK, len(more))
				}
			}
		}
	}
}

func TestOpenOfDrawnValues(t *testing.T) {
	next := draws(18)
	for i := range 600 {
		l, o := drawn(next, 30), drawnCoding(next, kinds[i%4])
		opened(t, few(l), string(made(t, l, o)), toldOf(l, o), api.OK, 0)
	}
}

func TestOpenOfTheMostValues(t *testing.T) {
	for _, l := range [][]api.Val{
		vals(named(api.MaxRows, "")...), slices.Repeat([]api.Val{{S: "ab"}, none, none, {S: "abc"}}, api.MaxRows/4), slices.Repeat([]api.Val{none}, api.MaxRows), slices.Repeat(vals("x"), api.MaxRows),
	} {
		for _, kind := range kinds {
			o := api.Coding{Kind: kind, Block: 64, Rounds: 2, Draws: []int{0, 3}}
			opened(t, few(l), string(made(t, l, o)), toldOf(l, o), api.OK, 0)
		}
	}
}

func TestOpenOfTheLongestValues(t *testing.T) {
	s := strings.Repeat("x", api.MaxText)
	l := slices.Repeat(vals(s), api.MaxRows)
	for _, kind := range []int{api.Plain, api.Front} {
		c := cursor.New(made(t, l, api.Coding{Kind: kind, Block: 1}))
		if k := chunk.Open(c); c.End() != api.OK || !slices.Equal(k.All(), l) || k.At(api.MaxRows-1).S != s {
			t.Errorf("kind %d: error %d, %s", kind, c.End(), few(k.All()))
		}
	}
}

func TestOpenAtACursorThatHasGoneOn(t *testing.T) {
	for _, l := range lists() {
		for _, kind := range kinds {
			o := api.Coding{Kind: kind, Block: 2, Rounds: 2, Draws: []int{0, 1}}
			b := bytesOf(l, o)
			c := cursor.New([]byte("\x03ab" + b + b + "z"))
			if c.Byte() != 3 || string(c.Bytes(2)) != "ab" {
				t.Fatal("the cursor hasn't gone on")
			}
			held(t, "the first one", chunk.Open(c), toldOf(l, o))
			held(t, "the second one", chunk.Open(c), toldOf(l, o))
			if c.Byte() != 'z' || c.End() != api.OK {
				t.Errorf("%s, %+v: error %d behind it", few(l), o, c.End())
			}
		}
	}
}

func TestOpenBehindAnError(t *testing.T) {
	for _, kind := range kinds {
		b := bytesOf(vals("ab", "abab"), api.Coding{Kind: kind, Block: 2})
		for _, e := range []api.Errno{api.ErrArg, api.ErrCut, api.ErrForm, api.ErrCorrupt, api.ErrLimit, 99} {
			c := cursor.New([]byte(b))
			c.Fail(e)
			held(t, "behind an error", chunk.Open(c), told{})
			if c.End() != e || c.Left() != len(b) {
				t.Errorf("kind %d: error %d, not %d; %d bytes left", kind, c.End(), e, c.Left())
			}
		}
	}
}

func TestOpenOfEveryBeginning(t *testing.T) {
	for _, l := range lists() {
		for _, kind := range kinds {
			for _, o := range codings(kind)[2:4] {
				b := bytesOf(l, o)
				for i := range min(len(b), 300) {
					refused(t, few(l)+", a beginning", b[:i], api.ErrCut)
				}
				if len(b) > 300 {
					refused(t, few(l)+", all but the last byte", b[:len(b)-1], api.ErrCut)
				}
			}
		}
	}
}

func TestOpenOfOtherKindsAndCounts(t *testing.T) {
	for kind := range 256 {
		if kind < api.Plain || kind > api.Front {
			for _, rest := range []string{"", "\x00\x00\x00", "\x01\x01\x01\x01a", "\xff"} {
				refused(t, "another kind", string([]byte{byte(kind)})+rest, api.ErrForm)
			}
		}
	}
	for kind := api.Plain; kind <= api.Front; kind++ {
		k := string([]byte{byte(kind)})
		refused(t, "a kind alone", k, api.ErrCut)
		refused(t, "a count that is cut", k+"\x80", api.ErrCut)
		refused(t, "a count of more bytes than it needs", k+"\x80\x00", api.ErrForm)
		refused(t, "a count of ten bytes", k+strings.Repeat("\xff", 9)+"\x01", api.ErrForm)
		refused(t, "more than MaxRows values", k+varint(4097), api.ErrForm)
		refused(t, "more than MaxRows values, all there", k+bitmapOf(here(4097)...)+plainOf(make([]string, 4097)), api.ErrForm)
		refused(t, "many more", k+varint(1<<40), api.ErrForm)
		refused(t, "MaxRows values, and no bits", k+varint(4096), api.ErrCut)
		refused(t, "a bitmap that is cut", k+"\x09\xff", api.ErrCut)
		refused(t, "bits that are left", k+"\x01\x03"+plainOf(texts("a")), api.ErrForm)
		refused(t, "bits that are left of none", k+"\x03\x08", api.ErrForm)
		refused(t, "a bitmap and nothing else", k+bitmapOf(true), api.ErrCut)
	}
}

// texts are some strings.
func texts(l ...string) []string {
	return l
}

// numbersThatCantBe are numbers that can't be those of two strings, whichever
// bytes come behind them.
func numbersThatCantBe() map[string]string {
	return map[string]string{
		"fewer":                        numbersOf(1),
		"none":                         numbersOf(),
		"fewer, of width 0":            numbersOf(0),
		"more":                         numbersOf(0, 1, 1),
		"more, of width 0":             numbersOf(0, 0, 0),
		"many more":                    varint(1<<40) + "\x00",
		"of width 33":                  "\x02\x21" + strings.Repeat("\x00", 9),
		"of width 255":                 "\x02\xff" + strings.Repeat("\x00", 64),
		"of more width than they need": "\x02\x02" + packed([]int{0, 1}, 2),
		"of a width, though all are 0": "\x02\x01\x00",
		"with bits that are left":      "\x02\x01\x07",
		"with a count of two bytes":    "\x82\x00\x01\x03",
	}
}

func TestOpenOfNumbersThatCantBe(t *testing.T) {
	two := bitmapOf(true, false, true)
	for what, b := range numbersThatCantBe() {
		for _, more := range []string{"", "ab", "\x00\x00\x00\x00"} {
			refused(t, "Plain, numbers "+what, "\x01"+two+b+more, api.ErrForm)
			refused(t, "Fsst, numbers "+what, "\x02"+two+tableOf("a")+b+more, api.ErrForm)
			refused(t, "Front, numbers "+what, "\x03"+two+dictionaryOf([]string{"a", "b"}, 4)+b+more, api.ErrForm)
		}
	}
	for _, b := range []string{"", "\x02", "\x80", "\x02\x01", "\x02\x08\x01", "\x02\x20\x01\x00\x00\x00\x00\x00\x00"} {
		refused(t, "Plain, numbers cut", "\x01"+two+b, api.ErrCut)
		refused(t, "Fsst, numbers cut", "\x02"+two+tableOf("a")+b, api.ErrCut)
		refused(t, "Front, numbers cut", "\x03"+two+dictionaryOf([]string{"a", "b"}, 4)+b, api.ErrCut)
	}
	for kind, payload := range map[int]string{api.Plain: "", api.Fsst: tableOf(), api.Front: dictionaryOf([]string{"a"}, 1)} {
		for _, so := range [][]bool{{}, {false}, {false, false}} {
			refused(t, "a number of no string", head(kind, so...)+payload+numbersOf(0), api.ErrForm)
			refused(t, "no numbers, of width 1", head(kind, so...)+payload+"\x00\x01", api.ErrForm)
		}
	}
}

func TestOpenOfPlain(t *testing.T) {
	longest, more := strings.Repeat("x", 4096), strings.Repeat("x", 4097)
	opened(t, "the longest one", head(1, true)+plainOf(texts(longest)), told{kind: api.Plain, l: vals(longest)}, api.OK, 0)
	refused(t, "one that is longer", head(1, true)+plainOf(texts(more)), api.ErrForm)
	refused(t, "one that is longer, behind another", head(1, true, true)+plainOf(texts("a", more)), api.ErrForm)
	refused(t, "one that is longer, ahead of another", head(1, true, false, true)+plainOf(texts(more, "a")), api.ErrForm)
	refused(t, "one that is longer, and isn't there", head(1, true)+numbersOf(4097), api.ErrForm)
	refused(t, "the longest one, that isn't there", head(1, true)+numbersOf(4096), api.ErrCut)
	refused(t, "one that is much longer", head(1, true)+numbersOf(1<<32-1), api.ErrForm)
	refused(t, "one that is cut", head(1, true, true)+numbersOf(2, 3)+"abcd", api.ErrCut)
	refused(t, "one that isn't there", head(1, true, true)+numbersOf(2, 3)+"ab", api.ErrCut)
}

func TestOpenOfFsst(t *testing.T) {
	code := func(n int) string { return strings.Repeat("\x00", n) }
	all := make([]string, 255)
	for i := range all {
		all[i] = string([]byte{byte(i)})
	}
	escaped := encodedOf(nil, long(4096))
	for _, x := range []struct {
		what  string
		table []string
		raws  []string
		l     []string
	}{
		{"codes", texts("a", "ab"), texts("\x00", "\x01", "\x01\x00\x00\xffc"), texts("a", "ab", "abaac")},
		{"a table that no training makes", texts("q", "zz"), texts("\xffa", "\x01\x00"), texts("a", "zzq")},
		{"a byte that is 255", texts("a"), texts("\xff\xff", "\xff\xff\x00\xff\xff"), texts("\xff", "\xffa\xff")},
		{"a full table", all, texts("\x00\xfe\xff\xff"), texts("\x00\xfe\xff")},
		{"the longest one", texts("a"), texts(code(4096)), texts(strings.Repeat("a", 4096))},
		{"the longest one of few codes", texts("abcdefgh"), texts(code(512)), texts(strings.Repeat("abcdefgh", 512))},
		{"the longest one of escapes", nil, texts(escaped, ""), texts(long(4096), "")},
		{"the empty one", texts("a"), texts("", ""), texts("", "")},
	} {
		opened(t, x.what, head(2, here(len(x.l))...)+tableOf(x.table...)+plainOf(x.raws), told{kind: api.Fsst, l: vals(x.l...), table: x.table}, api.OK, 0)
	}
	for _, x := range []struct {
		what  string
		table []string
		raw   string
	}{
		{"a code that the table hasn't", texts("a"), "\x01"},
		{"a code of no table", nil, "\x00"},
		{"a code that the table hasn't, at the end", texts("a", "b"), "\x00\x01\x02"},
		{"the code 254", texts("a"), "\xfe"},
		{"255 at the end", texts("a"), "\xff"},
		{"255 at the end, behind codes", texts("a"), "\x00\x00\xff"},
		{"255 at the end, of a full table", all, "\x00\xff"},
		{"255 at the end, behind an escape of it", texts("a"), "\xff\xff\xff"},
		{"an escape of a symbol", texts("a"), "\xffa"},
		{"an escape of a symbol at the end", texts("a", "ab"), "\x01\xffa"},
		{"an escape of a symbol's beginning", texts("ab"), "\xffa\xffb"},
		{"codes in place of a longer symbol", texts("a", "ab", "b"), "\x00\x02"},
		{"a code and an escape in place of a longer symbol", texts("a", "ab"), "\x00\xffb"},
		{"codes in place of a longer one's beginning", texts("a", "aaa"), "\x00\x00\x00\x00"},
		{"one that is longer", texts("a"), code(4097)},
		{"one of few codes that is longer", texts("abcdefgh"), code(513)},
		{"one of escapes that is longer", nil, encodedOf(nil, long(4097))},
		{"one that an escape makes longer", texts("abcdefgh"), code(512) + "\xffa"},
		{"one of very many codes", texts("a"), code(8193)},
		{"one of more codes than can be", texts("a"), code(9000)},
	} {
		refused(t, x.what, head(2, true)+tableOf(x.table...)+plainOf(texts(x.raw)), api.ErrForm)
		refused(t, x.what+", with more behind it", head(2, true)+tableOf(x.table...)+plainOf(texts(x.raw))+"\x00\xff", api.ErrForm)
		refused(t, x.what+", behind another", head(2, true, true)+tableOf(x.table...)+plainOf(texts("", x.raw)), api.ErrForm)
		refused(t, x.what+", ahead of one that isn't there", head(2, true, true)+tableOf(x.table...)+numbersOf(len(x.raw), 1)+x.raw, api.ErrForm)
	}
	refused(t, "one that is cut", head(2, true)+tableOf("a")+numbersOf(3)+"\x00\x00", api.ErrCut)
	refused(t, "one that isn't there, ahead of nothing", head(2, true, true)+tableOf("a")+numbersOf(1, 4)+"\x00", api.ErrCut)
	refused(t, "one of more bytes than can be, that isn't there", head(2, true)+tableOf("a")+numbersOf(8193), api.ErrForm)
	refused(t, "one of as many bytes as can be, that isn't there", head(2, true)+tableOf("a")+numbersOf(8192), api.ErrCut)
}

func TestOpenOfTablesThatCantBe(t *testing.T) {
	for _, rest := range []string{"", plainOf(texts("")), plainOf(texts("\x00")), strings.Repeat("\x00", 40)} {
		for _, table := range []string{"\x01\x00", "\x01\x09abcdefghi", "\x02\x01b\x01a", "\x02\x01a\x01a", "\x02\x02ab\x01a", "\x02\x01a\x00", "\x03\x01a\x02ab\x02aa"} {
			refused(t, "a table that can't be", head(2, true)+table+rest, api.ErrForm)
		}
	}
	for _, table := range []string{"", "\x01", "\x01\x01", "\x01\x03ab", "\x02\x01a", "\xff"} {
		refused(t, "a table that is cut", head(2, true)+table, api.ErrCut)
		refused(t, "a table that is cut, of no strings", head(2)+table, api.ErrCut)
	}
	refused(t, "a table that can't be, of no strings", head(2, false)+"\x01\x00"+numbersOf(), api.ErrForm)
}

func TestOpenOfFront(t *testing.T) {
	longest, more := strings.Repeat("x", 4096), strings.Repeat("x", 4097)
	for _, x := range []struct {
		what  string
		dict  []string
		codes []int
	}{
		{"each string", texts("a", "b"), []int{0, 1}},
		{"in whatever order", texts("", "a", "b"), []int{2, 0, 1, 1, 2}},
		{"strings that no value is", texts("a", "ab", "b"), []int{1, 1}},
		{"none of the strings", texts("a", "ab", "b"), nil},
		{"the longest one", texts("a", longest), []int{1}},
		{"none", nil, nil},
	} {
		var l []api.Val
		for _, code := range x.codes {
			l = append(l, api.Val{S: x.dict[code]})
		}
		for _, block := range []int{1, 2, 64} {
			opened(t, x.what, head(3, here(len(l))...)+dictionaryOf(x.dict, block)+numbersOf(x.codes...), told{kind: api.Front, l: l, dict: x.dict}, api.OK, 0)
		}
	}
	for _, x := range []struct {
		what  string
		dict  string
		codes []int
	}{
		{"a code that the dictionary hasn't", dictionaryOf(texts("a"), 1), []int{1}},
		{"such a code, of no strings", dictionaryOf(nil, 1), []int{0}},
		{"such a code, behind others", dictionaryOf(texts("a", "b", "c"), 2), []int{0, 2, 3}},
		{"such a code, ahead of others", dictionaryOf(texts("a", "b", "c"), 2), []int{3, 0, 2}},
		{"the greatest code", dictionaryOf(texts("a"), 1), []int{1<<32 - 1}},
		{"a block of none", "\x01\x00\x01\x02\x02\x01a", []int{0}},
		{"a block of none, of no strings", "\x00\x00\x00\x00", nil},
		{"a block of too many", "\x01\x41\x01\x02\x02\x01a", []int{0}},
		{"strings that don't rise", dictionaryOf(texts("b", "a"), 1), []int{0, 1}},
		{"strings that are alike", dictionaryOf(texts("a", "a"), 1), []int{0, 1}},
		{"a string that is longer", dictionaryOf(texts(more), 1), []int{0}},
		{"too many strings", dictionaryOf(named(4097, ""), 64), []int{0}},
		{"a block of other bytes", "\x01\x01\x01\x02\x03\x01a\x00", []int{0}},
	} {
		b := head(3, here(len(x.codes))...) + x.dict + numbersOf(x.codes...)
		refused(t, x.what, b, api.ErrForm)
		refused(t, x.what+", and more", b+"\x00a", api.ErrForm)
	}
	refused(t, "no dictionary", head(3, true), api.ErrCut)
	refused(t, "a dictionary and nothing else", head(3, true)+dictionaryOf(texts("a"), 1), api.ErrCut)
	refused(t, "a dictionary that is cut", head(3, true)+"\x01\x01\x01\x02\x02\x01", api.ErrCut)
}

// Coded answers how any string would stand, as long as it may be.
func TestCodedOfLongStrings(t *testing.T) {
	for _, kind := range kinds[1:] {
		l, o := vals("yyyy", "abcabc"), api.Coding{Kind: kind, Block: 2, Rounds: 2, Draws: []int{0, 1}}
		k, x := chunk.Open(cursor.New(made(t, l, o))), toldOf(l, o)
		for _, s := range []string{strings.Repeat("y", 4096), strings.Repeat("yab", 1366), long(4096), long(9000)} {
			b, ok := k.Coded(s)
			if want, so := x.coded(s); string(b) != want || ok != so {
				t.Errorf("kind %d: Coded(%s) is %s, %v; not %s, %v", kind, short(s), short(b), ok, short(want), so)
			}
		}
	}
}

// small are the bytes of some small chunks.
func small() []string {
	l := []api.Val{{S: "ab"}, none, {S: "abab"}, {S: ""}, {S: "ab"}}
	var all []string
	for kind := api.Plain; kind <= api.Front; kind++ {
		o := api.Coding{Kind: kind, Block: 2, Rounds: 1, Draws: []int{1}}
		all = append(all, bytesOf(l, o), bytesOf(vals("a", "b", "abc", "abd"), o), bytesOf([]api.Val{none, none}, o), bytesOf(nil, o), bytesOf(vals(named(9, "x")...), o))
		o.Draws = nil
		all = append(all, bytesOf(l, o), bytesOf(vals("\xff\xff"), o))
	}
	return all
}

// isToldByTheWords holds what Open takes of whatever bytes against the words;
// it answers whether that is a chunk.
func isToldByTheWords(t *testing.T, b string) bool {
	t.Helper()
	x, e, left := openOf(b)
	opened(t, short(b), b, x, e, left)
	return e == api.OK
}

func TestOpenOfTurnedBytes(t *testing.T) {
	taken, not := 0, 0
	for _, b := range small() {
		for i := range b {
			for turned := range 256 {
				if isToldByTheWords(t, b[:i]+string([]byte{byte(turned)})+b[i+1:]) {
					taken++
				} else {
					not++
				}
			}
			isToldByTheWords(t, b[:i]+b[i+1:])
			for _, more := range []string{"\x00", "\x01", "\x02", "\x7f", "\x80", "\xff", b[i : i+1]} {
				isToldByTheWords(t, b[:i]+more+b[i:])
			}
		}
	}
	if taken < 1000 || not < 1000 {
		t.Errorf("%d are taken, and %d aren't", taken, not)
	}
}

func TestOpenOfDrawnBytes(t *testing.T) {
	next := draws(71)
	taken := 0
	for range 20000 {
		b := make([]byte, next(14))
		for i := range b {
			b[i] = "\x00\x00\x01\x01\x02\x03\x04\x07\xffa"[next(10)]
		}
		if isToldByTheWords(t, "\x01\x01"[:next(2)]+string(b)) {
			taken++
		}
	}
	if taken < 100 {
		t.Errorf("%d are taken", taken)
	}
}
