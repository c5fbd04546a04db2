package view_test

import (
	"encoding/binary"
	"math"
	"strings"
	"testing"

	"hopper/api"
	"hopper/view"
)

// letters is a string of n bytes: a, b and so on, over and over.
func letters(n int) string {
	return strings.Repeat("abcdefghijklmnopqrstuvwxyz", n/26+1)[:n]
}

// some is a string of n bytes of all sorts, the same each time for one seed.
func some(n int, seed uint32) string {
	b := make([]byte, n)
	for i := range b {
		seed = seed*1664525 + 1013904223
		b[i] = byte(seed >> 24)
	}
	return string(b)
}

// edges are the lengths of strings where views change, and some around them.
var edges = []int{0, 1, 2, 3, 4, 5, 6, 11, 12, 13, 14, 255, 256, 257, 4095, 4096}

// texts are strings of all sorts that have views.
func texts() []string {
	var l []string
	for _, n := range edges {
		l = append(l, letters(n), some(n, 1), strings.Repeat("\x00", n), strings.Repeat("\xff", n))
	}
	return append(l, "ä", "\x00a", "a\x00", "a\x00b", "日本語", "日本語日本語", "\x00\x00\x00\x00\x01", "twelve bytes", "thirteen long")
}

// place is a buffer's number, and an offset there.
type place struct{ buf, at int }

// places are those where a long string may stand: the edges, and some between.
var places = []place{
	{0, 0}, {0, 1}, {1, 0}, {1, 2}, {9, 255}, {255, 256}, {256, 4096}, {258, 65536}, {65534, 65535}, {65535, 65536}, {65535, 0}, {0, 65536}, {0x1234, 0xabcd},
}

// noPlaces are those where none may stand.
var noPlaces = []place{
	{-1, 0}, {65536, 0}, {0, -1}, {0, 65537}, {-1, -1}, {65536, 65537}, {65535, 65537}, {65536, 65536}, {-1, 65536}, {65535, -1},
	{65536 + 1, 0}, {1 << 24, 0}, {1 << 31, 0}, {1 << 32, 0}, {1<<32 + 5, 0}, {math.MaxInt, 0}, {math.MinInt, 0}, {-1 << 32, 0},
	{0, 65536 + 2}, {0, 1 << 17}, {0, 1 << 24}, {0, 1 << 31}, {0, 1 << 32}, {0, 1<<32 + 5}, {0, math.MaxInt}, {0, math.MinInt}, {0, -1 << 32},
	{math.MaxInt, math.MaxInt}, {math.MinInt, math.MinInt},
}

// raw are the bytes of four numbers, the lowest byte of each first.
func raw(length, prefix, buf, at uint32) [16]byte {
	var v [16]byte
	for i, n := range []uint32{length, prefix, buf, at} {
		binary.LittleEndian.PutUint32(v[4*i:], n)
	}
	return v
}

// asWords is the view, as the chapter's words say it.
func asWords(s string, p place) [16]byte {
	b := binary.LittleEndian.AppendUint32(nil, uint32(len(s)))
	if len(s) <= 12 {
		b = append(b, s...)
		return [16]byte(append(b, make([]byte, 16-len(b))...))
	}
	b = append(b, s[:4]...)
	b = binary.LittleEndian.AppendUint32(b, uint32(p.buf))
	return [16]byte(binary.LittleEndian.AppendUint32(b, uint32(p.at)))
}

// rightAsWords says whether a view is right, as the chapter's words say it.
func rightAsWords(v [16]byte) bool {
	n := binary.LittleEndian.Uint32(v[:])
	if n > 12 {
		return n <= 4096 && binary.LittleEndian.Uint32(v[8:]) <= 65535 && binary.LittleEndian.Uint32(v[12:]) <= 65536
	}
	return strings.Trim(string(v[4+n:]), "\x00") == ""
}

// made is the view of a string that has one.
func made(t *testing.T, s string, p place) [16]byte {
	t.Helper()
	v, e := view.Make(s, p.buf, p.at)
	if e != api.OK {
		t.Fatalf("Make of %d bytes, %+v is refused, error %d", len(s), p, e)
	}
	return v
}

// refused checks that a string has no view there.
func refused(t *testing.T, s string, p place) {
	t.Helper()
	if v, e := view.Make(s, p.buf, p.at); e != api.ErrArg || v != [16]byte{} {
		t.Errorf("Make of %d bytes, %+v: % x, error %d", len(s), p, v, e)
	}
}

// P6.1

func TestMakeOfShortStrings(t *testing.T) {
	for _, x := range []struct {
		s string
		v [16]byte
	}{
		{"", [16]byte{}},
		{"a", [16]byte{1, 0, 0, 0, 'a'}},
		{"ab", [16]byte{2, 0, 0, 0, 'a', 'b'}},
		{"abc", [16]byte{3, 0, 0, 0, 'a', 'b', 'c'}},
		{"abcd", [16]byte{4, 0, 0, 0, 'a', 'b', 'c', 'd'}},
		{"abcde", [16]byte{5, 0, 0, 0, 'a', 'b', 'c', 'd', 'e'}},
		{"\x00", [16]byte{1}},
		{"\xff\x00", [16]byte{2, 0, 0, 0, 0xff}},
		{"twelve bytes", [16]byte{12, 0, 0, 0, 't', 'w', 'e', 'l', 'v', 'e', ' ', 'b', 'y', 't', 'e', 's'}},
	} {
		if v := made(t, x.s, place{}); v != x.v {
			t.Errorf("Make of %q is % x, not % x", x.s, v, x.v)
		}
	}
}

func TestMakeOfLongStrings(t *testing.T) {
	for _, x := range []struct {
		s string
		p place
		v [16]byte
	}{
		{"thirteen long", place{0, 0}, [16]byte{13, 0, 0, 0, 't', 'h', 'i', 'r'}},
		{"thirteen long", place{258, 65536}, [16]byte{13, 0, 0, 0, 't', 'h', 'i', 'r', 2, 1, 0, 0, 0, 0, 1, 0}},
		{"thirteen long", place{65535, 0x1234}, [16]byte{13, 0, 0, 0, 't', 'h', 'i', 'r', 0xff, 0xff, 0, 0, 0x34, 0x12, 0, 0}},
		{letters(256), place{1, 2}, [16]byte{0, 1, 0, 0, 'a', 'b', 'c', 'd', 1, 0, 0, 0, 2, 0, 0, 0}},
		{letters(4096), place{1, 65535}, [16]byte{0, 16, 0, 0, 'a', 'b', 'c', 'd', 1, 0, 0, 0, 0xff, 0xff, 0, 0}},
		{"\xff\xfe\x00\x80 and more", place{7, 8}, [16]byte{13, 0, 0, 0, 0xff, 0xfe, 0, 0x80, 7, 0, 0, 0, 8, 0, 0, 0}},
	} {
		if v := made(t, x.s, x.p); v != x.v {
			t.Errorf("Make of %d bytes, %+v is % x, not % x", len(x.s), x.p, v, x.v)
		}
	}
}

func TestMakeAsTheWordsSay(t *testing.T) {
	for _, s := range texts() {
		for _, p := range places {
			if v, want := made(t, s, p), asWords(s, p); v != want {
				t.Errorf("Make of %d bytes, %+v is % x, not % x", len(s), p, v, want)
			}
		}
	}
}

func TestMakeOfAShortStringWhateverItsPlace(t *testing.T) {
	for _, s := range texts() {
		if len(s) > 12 {
			continue
		}
		for _, p := range append(noPlaces, places...) {
			if v, want := made(t, s, p), asWords(s, place{}); v != want {
				t.Errorf("Make of %q, %+v is % x, not % x", s, p, v, want)
			}
		}
	}
}

func TestMakeOfAStringThatIsTooLong(t *testing.T) {
	for _, n := range []int{4097, 4098, 8192, 65536, 65536 + 1, 65536 + 12, 65536 + 13, 1 << 24} {
		s := letters(n)
		for _, p := range append(noPlaces, places...) {
			refused(t, s, p)
		}
	}
}

func TestMakeOfALongStringNowhere(t *testing.T) {
	for _, s := range texts() {
		if len(s) <= 12 {
			continue
		}
		for _, p := range noPlaces {
			refused(t, s, p)
		}
	}
}

func TestMakeAtTheEdgesOfPlaces(t *testing.T) {
	numbers := []int{-2, -1, 0, 1, 65534, 65535, 65536, 65537, 65538}
	for _, n := range []int{13, 4096} {
		for _, buf := range numbers {
			for _, at := range numbers {
				s, p := letters(n), place{buf, at}
				if buf < 0 || buf > 65535 || at < 0 || at > 65536 {
					refused(t, s, p)
				} else if v := made(t, s, p); v != asWords(s, p) {
					t.Errorf("Make of %d bytes, %+v is % x", n, p, v)
				}
			}
		}
	}
}

func TestRight(t *testing.T) {
	for _, v := range [][16]byte{
		{}, {1}, {1, 0, 0, 0, 'a'}, {12}, {13}, {0, 1}, {0, 16}, {0xff, 15},
		{2, 0, 0, 0, 'x', 'y'},
		{12, 0, 0, 0, 1, 2, 3, 4, 5, 6, 7, 8, 9, 10, 11, 12},
		{12, 0, 0, 0, 0xff, 0xff, 0xff, 0xff, 0xff, 0xff, 0xff, 0xff, 0xff, 0xff, 0xff, 0xff},
		{13, 0, 0, 0, 1, 1, 1, 1, 0xff, 0xff, 0, 0, 0xff, 0xff, 0, 0},
		{13, 0, 0, 0, 1, 1, 1, 1, 0xff, 0xff, 0, 0, 0, 0, 1, 0},
		{0, 16, 0, 0, 1, 1, 1, 1, 0xff, 0xff, 0, 0, 0, 0, 1, 0},
	} {
		if !view.Right(v) {
			t.Errorf("% x isn't right", v)
		}
	}
}

func TestRightOfAByteBehindAShortString(t *testing.T) {
	for n := range 13 {
		for _, s := range []string{letters(n), some(n, 3), strings.Repeat("\x00", n)} {
			whole := asWords(s, place{})
			for i := range 16 {
				for bit := range 8 {
					v := whole
					v[i] ^= 1 << bit
					if i >= 4 && view.Right(v) != (i < 4+n) {
						t.Errorf("% x: %v", v, view.Right(v))
					}
				}
			}
		}
	}
}

func TestRightOfLengths(t *testing.T) {
	for n := range uint32(70000) {
		if view.Right(raw(n, 0, 0, 0)) != (n <= 4096) {
			t.Errorf("length %d", n)
		}
	}
	for _, low := range []uint32{0, 1, 12, 13, 4096} {
		for bit := 13; bit < 32; bit++ {
			if n := low | 1<<bit; view.Right(raw(n, 0, 0, 0)) {
				t.Errorf("length %d", n)
			}
		}
	}
	for _, n := range []uint32{4096 + 1, 4096 + 4096, 1 << 16, 1 << 24, 1 << 31, 1<<31 + 4, math.MaxUint32 - 3, math.MaxUint32} {
		for _, v := range [][16]byte{raw(n, 0, 0, 0), raw(n, 0x61626364, 1, 1), raw(n, 0, 65535, 65536)} {
			if view.Right(v) {
				t.Errorf("% x is right", v)
			}
		}
	}
}

func TestRightOfLongPlaces(t *testing.T) {
	numbers := []uint32{0, 1, 255, 256, 65534, 65535, 65536, 65537, 65538, 1 << 17, 1 << 24, 1<<24 + 1, 1 << 31, 1<<31 + 1, math.MaxUint32}
	for _, length := range []uint32{13, 14, 256, 4095, 4096} {
		for _, buf := range numbers {
			for _, at := range numbers {
				v := raw(length, 0xfffefdfc, buf, at)
				if want := buf <= 65535 && at <= 65536; view.Right(v) != want {
					t.Errorf("length %d, buffer %d, offset %d: %v", length, buf, at, !want)
				}
			}
		}
	}
}

// P6.2

func TestWhatAShortViewSays(t *testing.T) {
	for _, x := range []struct {
		v      [16]byte
		text   string
		prefix string
	}{
		{[16]byte{}, "", ""},
		{[16]byte{1}, "\x00", "\x00"},
		{[16]byte{1, 0, 0, 0, 'a'}, "a", "a"},
		{[16]byte{3, 0, 0, 0, 'a', 'b', 'c'}, "abc", "abc"},
		{[16]byte{4, 0, 0, 0, 'a', 'b', 'c', 'd'}, "abcd", "abcd"},
		{[16]byte{4, 0, 0, 0, 'a'}, "a\x00\x00\x00", "a\x00\x00\x00"},
		{[16]byte{5, 0, 0, 0, 'a', 'b', 'c', 'd', 'e'}, "abcde", "abcd"},
		{[16]byte{12, 0, 0, 0, 't', 'w', 'e', 'l', 'v', 'e', ' ', 'b', 'y', 't', 'e', 's'}, "twelve bytes", "twel"},
	} {
		if n := view.Len(x.v); n != len(x.text) || !view.Short(x.v) {
			t.Errorf("% x: length %d, short: %v", x.v, n, view.Short(x.v))
		}
		if text, prefix := view.Text(x.v), view.Prefix(x.v); text != x.text || prefix != x.prefix {
			t.Errorf("% x: %q, prefix %q", x.v, text, prefix)
		}
		if buf, at := view.Place(x.v); buf != 0 || at != 0 {
			t.Errorf("% x: at %d of %d", x.v, at, buf)
		}
	}
}

func TestWhatALongViewSays(t *testing.T) {
	for _, x := range []struct {
		v      [16]byte
		length int
		prefix string
		p      place
	}{
		{[16]byte{13}, 13, "\x00\x00\x00\x00", place{}},
		{[16]byte{13, 0, 0, 0, 't', 'h', 'i', 'r', 2, 1, 0, 0, 0, 0, 1, 0}, 13, "thir", place{258, 65536}},
		{[16]byte{14, 0, 0, 0, 0xff, 0xfe, 0xfd, 0xfc, 0xff, 0xff, 0, 0, 0xff, 0xff, 0, 0}, 14, "\xff\xfe\xfd\xfc", place{65535, 65535}},
		{[16]byte{0, 1, 0, 0, 'a', 'b', 'c', 'd', 1, 0, 0, 0, 2}, 256, "abcd", place{1, 2}},
		{[16]byte{0xff, 15, 0, 0, 'a', 0, 'c', 0, 0, 1, 0, 0, 0, 2}, 4095, "a\x00c\x00", place{256, 512}},
		{[16]byte{0, 16, 0, 0, 'a', 'b', 'c', 'd'}, 4096, "abcd", place{}},
	} {
		if n := view.Len(x.v); n != x.length || view.Short(x.v) {
			t.Errorf("% x: length %d, short: %v", x.v, n, view.Short(x.v))
		}
		if text, prefix := view.Text(x.v), view.Prefix(x.v); text != "" || prefix != x.prefix {
			t.Errorf("% x: %q, prefix %q", x.v, text, prefix)
		}
		if buf, at := view.Place(x.v); buf != x.p.buf || at != x.p.at {
			t.Errorf("% x: at %d of %d", x.v, at, buf)
		}
	}
}

func TestShortEndsAtTwelve(t *testing.T) {
	for n := range 4097 {
		if v := raw(uint32(n), 0, 0, 0); view.Short(v) != (n <= 12) || view.Len(v) != n {
			t.Errorf("length %d: %d, short: %v", n, view.Len(v), view.Short(v))
		}
	}
}

func TestTextAndPrefixEndAtTheLength(t *testing.T) {
	twelve := "twelve bytes"
	for n := range 13 {
		v := made(t, twelve[:n], place{})
		if text, prefix := view.Text(v), view.Prefix(v); text != twelve[:n] || prefix != twelve[:min(4, n)] {
			t.Errorf("%d bytes: %q, prefix %q", n, text, prefix)
		}
	}
}

// P6.3

// saysAll checks that a view says what it was made of.
func saysAll(t *testing.T, v [16]byte, s string, p place) {
	t.Helper()
	text := s
	if len(s) > 12 {
		text = ""
	} else {
		p = place{}
	}
	if !view.Right(v) || view.Len(v) != len(s) || view.Short(v) != (len(s) <= 12) {
		t.Errorf("of %d bytes: right: %v, length %d, short: %v", len(s), view.Right(v), view.Len(v), view.Short(v))
	}
	if got, prefix := view.Text(v), view.Prefix(v); got != text || prefix != s[:min(4, len(s))] {
		t.Errorf("of %d bytes: %q, prefix %q", len(s), got, prefix)
	}
	if buf, at := view.Place(v); buf != p.buf || at != p.at {
		t.Errorf("of %d bytes, %+v: at %d of %d", len(s), p, at, buf)
	}
}

func TestWhatIsMadeSaysWhatItWasMadeOf(t *testing.T) {
	for _, s := range texts() {
		for _, p := range places {
			saysAll(t, made(t, s, p), s, p)
		}
	}
	for n := range 4097 {
		s, p := some(n, uint32(n)), place{n, 65536 - n}
		saysAll(t, made(t, s, p), s, p)
	}
	for n := range 65536 {
		p := place{n, 65536 - n}
		saysAll(t, made(t, "thirteen long", p), "thirteen long", p)
	}
}

func TestShortStringsAreAlikeJustIfTheirViewsAre(t *testing.T) {
	short := []string{""}
	for from, n := 0, 1; n < 4; n++ {
		to := len(short)
		for _, s := range short[from:to] {
			short = append(short, s+"\x00", s+"a", s+"b", s+"\xff")
		}
		from = to
	}
	for n := 4; n < 13; n++ {
		short = append(short, letters(n), letters(n-1)+"\x00", strings.Repeat("\x00", n), some(n, 1), some(n, 2))
	}
	for i, a := range short {
		for k, b := range short {
			one, two := made(t, a, place{i, k}), made(t, b, place{-k, -i})
			if (one == two) != (a == b) {
				t.Errorf("%q and %q: % x and % x", a, b, one, two)
			}
		}
	}
}

func TestRightViewsAreMade(t *testing.T) {
	for n := range 13 {
		for seed := range uint32(50) {
			v := asWords(some(n, seed), place{})
			if again := made(t, view.Text(v), place{}); again != v {
				t.Errorf("% x is made again as % x", v, again)
			}
		}
	}
	for _, n := range edges {
		for _, p := range places {
			if n <= 12 {
				continue
			}
			v := raw(uint32(n), 0xfc80ff00, uint32(p.buf), uint32(p.at))
			buf, at := view.Place(v)
			s := view.Prefix(v) + letters(view.Len(v)-4)
			if again := made(t, s, place{buf, at}); again != v {
				t.Errorf("% x is made again as % x", v, again)
			}
		}
	}
}

// Rules 5 and 6

func TestTwoAnswersAreApart(t *testing.T) {
	for _, s := range []string{"short", "thirteen long"} {
		one, two := made(t, s, place{3, 4}), made(t, s, place{3, 4})
		was, text, prefix := two, view.Text(one), view.Prefix(one)
		clear(one[:])
		if two != was || made(t, s, place{3, 4}) != was {
			t.Errorf("%q: % x is not % x", s, two, was)
		}
		if text != view.Text(two) || prefix != view.Prefix(two) {
			t.Errorf("%q: %q, prefix %q, once its view is cleared", s, text, prefix)
		}
	}
}

// P1

func TestWhateverViewEnds(t *testing.T) {
	draw := uint32(1)
	next := func(n int) int {
		draw = draw*1664525 + 1013904223
		return int(draw>>8) % n
	}
	right := 0
	for range 200000 {
		var v [16]byte
		for i := range v {
			if next(3) == 0 {
				v[i] = byte(next(256) >> next(9))
			}
		}
		text, prefix := view.Text(v), view.Prefix(v)
		buf, at := view.Place(v)
		if view.Right(v) != rightAsWords(v) {
			t.Errorf("% x: right: %v", v, view.Right(v))
		}
		if !view.Right(v) {
			continue
		}
		right++
		s := text
		if !view.Short(v) {
			s = prefix + letters(view.Len(v)-4)
		}
		if again := made(t, s, place{buf, at}); again != v {
			t.Errorf("% x is made again as % x", v, again)
		}
	}
	if right < 100 {
		t.Errorf("but %d are right", right)
	}
}

func TestGreatestNumbersEnd(t *testing.T) {
	for _, length := range []uint32{0, 5, 12, 13, 4096, 4097, math.MaxInt32, 1 << 31, 1<<31 + 5, math.MaxUint32} {
		v := raw(length, math.MaxUint32, math.MaxUint32, math.MaxUint32)
		view.Len(v)
		view.Short(v)
		view.Text(v)
		view.Prefix(v)
		view.Place(v)
		if view.Right(v) != (length == 12) {
			t.Errorf("% x: right: %v", v, view.Right(v))
		}
	}
}
