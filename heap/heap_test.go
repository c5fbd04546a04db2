package heap_test

import (
	"bytes"
	"encoding/binary"
	"math"
	"slices"
	"strings"
	"testing"

	"hopper/api"
	"hopper/heap"
	"hopper/view"
)

// letters is a string of n bytes: a, b and so on, over and over.
func letters(n int) string {
	return strings.Repeat("abcdefghijklmnopqrstuvwxyz", n/26+1)[:n]
}

// some is a string of n bytes of all sorts, the same each time for one seed.
func some(n int, seed uint32) string {
	b := make([]byte, n)
	for i := range b {
		seed = seed*1664525 + 1013904223
		b[i] = byte(seed >> 24)
	}
	return string(b)
}

// draws answers a function that draws numbers below n, the same each time for
// one seed.
func draws(seed uint32) func(n int) int {
	return func(n int) int {
		seed = seed*1664525 + 1013904223
		return int(seed>>8) % n
	}
}

// raw are the bytes of a length, a prefix of four bytes, and two numbers, the
// lowest byte of each first.
func raw(length uint32, prefix string, buf, at uint32) [16]byte {
	var v [16]byte
	binary.LittleEndian.PutUint32(v[:], length)
	copy(v[4:8], prefix)
	binary.LittleEndian.PutUint32(v[8:], buf)
	binary.LittleEndian.PutUint32(v[12:], at)
	return v
}

// of is the view of a string that stands there.
func of(s string, buf, at int) [16]byte {
	if len(s) > 12 {
		return raw(uint32(len(s)), s[:4], uint32(buf), uint32(at))
	}
	v := [16]byte{byte(len(s))}
	copy(v[4:], s)
	return v
}

// added is the view of a string that is added.
func added(t *testing.T, h *heap.Heap, s string) [16]byte {
	t.Helper()
	v, e := h.Add(s)
	if e != api.OK {
		t.Fatalf("Add of %d bytes is refused, error %d", len(s), e)
	}
	return v
}

// addedAt adds a string, and checks where it stands.
func addedAt(t *testing.T, h *heap.Heap, s string, buf, at int) [16]byte {
	t.Helper()
	v := added(t, h, s)
	if v != of(s, buf, at) {
		t.Errorf("Add of %d bytes is % x, not % x", len(s), v, of(s, buf, at))
	}
	return v
}

// refused checks that a string is refused, and that nothing is added.
func refused(t *testing.T, h *heap.Heap, s string, want api.Errno) {
	t.Helper()
	size, all := h.Size(), h.Bytes()
	if v, e := h.Add(s); e != want || v != [16]byte{} {
		t.Errorf("Add of %d bytes: % x, error %d, not %d", len(s), v, e, want)
	}
	holds(t, h, string(all))
	if h.Size() != size {
		t.Errorf("%d bytes, and not %d, once %d are refused", h.Size(), size, len(s))
	}
}

// holds checks a heap's bytes.
func holds(t *testing.T, h *heap.Heap, all string) {
	t.Helper()
	if h.Size() != len(all) || string(h.Bytes()) != all {
		t.Errorf("Size is %d, Bytes has %d (the same: %v), not %d", h.Size(), len(h.Bytes()), string(h.Bytes()) == all, len(all))
	}
}

// got checks the string of a view of the heap.
func got(t *testing.T, h *heap.Heap, v [16]byte, want string) {
	t.Helper()
	if s, ok := h.Get(v); !ok || s != want {
		t.Errorf("Get of % x: %d bytes, %v, not %d", v, len(s), ok, len(want))
	}
}

// notGot checks that a view isn't one of the heap.
func notGot(t *testing.T, h *heap.Heap, v [16]byte) {
	t.Helper()
	if s, ok := h.Get(v); ok || s != "" {
		t.Errorf("Get of % x: %q, %v", v, s, ok)
	}
}

// compared checks how the views of two strings compare, either way round.
func compared(t *testing.T, h *heap.Heap, a, b [16]byte, x, y string) {
	t.Helper()
	want := bytes.Compare([]byte(x), []byte(y))
	if c := h.Compare(a, b); c != want {
		t.Errorf("Compare of % x, % x (%.20q, %.20q) is %d", a, b, x, y, c)
	}
	if c := h.Compare(b, a); c != -want {
		t.Errorf("Compare of % x, % x (%.20q, %.20q) is %d", b, a, y, x, c)
	}
	if h.Equal(a, b) != (x == y) || h.Equal(b, a) != (x == y) {
		t.Errorf("Equal of % x, % x (%.20q, %.20q): %v, %v", a, b, x, y, h.Equal(a, b), h.Equal(b, a))
	}
}

// words is a heap as the chapter's words say it: a list of buffers.
type words struct {
	most    int
	buffers []string
}

// all are all buffers' bytes.
func (w *words) all() string {
	return strings.Join(w.buffers, "")
}

// add adds a string.
func (w *words) add(s string) ([16]byte, api.Errno) {
	switch {
	case len(s) > 4096:
		return [16]byte{}, api.ErrArg
	case len(s) <= 12:
		return of(s, 0, 0), api.OK
	case len(w.all())+len(s) > w.most:
		return [16]byte{}, api.ErrLimit
	}
	if n := len(w.buffers); n == 0 || len(w.buffers[n-1])+len(s) > 65536 {
		w.buffers = append(w.buffers, "")
	}
	last := len(w.buffers) - 1
	at := len(w.buffers[last])
	w.buffers[last] += s
	return of(s, last, at), api.OK
}

// get answers the string of a view of the heap.
func (w *words) get(v [16]byte) (string, bool) {
	n, buf, at := binary.LittleEndian.Uint32(v[:]), binary.LittleEndian.Uint32(v[8:]), binary.LittleEndian.Uint32(v[12:])
	switch {
	case n <= 12:
		s := string(v[4 : 4+n])
		return s, v == of(s, 0, 0)
	case n > 4096 || uint64(buf) >= uint64(min(65536, len(w.buffers))) || uint64(at)+uint64(n) > uint64(len(w.buffers[buf])):
		return "", false
	}
	s := w.buffers[buf][at : at+n]
	return s, s[:4] == string(v[4:8])
}

// P7.1

func TestAddOfShortStringsTakesNoRoom(t *testing.T) {
	for _, most := range []int{math.MinInt, -1, 0, 1, 12, 13, 100} {
		h := heap.New(most)
		for n := range 13 {
			addedAt(t, h, letters(n), 0, 0)
			addedAt(t, h, some(n, 1), 0, 0)
			addedAt(t, h, strings.Repeat("\x00", n), 0, 0)
			holds(t, h, "")
		}
	}
}

func TestAddOfLongStrings(t *testing.T) {
	h := heap.New(10000)
	all, at := "", 0
	for _, n := range []int{13, 14, 0, 255, 12, 256, 4095, 4096, 1, 13} {
		s := some(n, uint32(n))
		addedAt(t, h, s, 0, at)
		if n > 12 {
			all += s
			at += n
		}
		holds(t, h, all)
	}
}

func TestAddOfThirteen(t *testing.T) {
	h := heap.New(100)
	if v := added(t, h, "thirteen long"); v != [16]byte{13, 0, 0, 0, 't', 'h', 'i', 'r'} || h.Size() != 13 {
		t.Errorf("% x, Size %d", v, h.Size())
	}
	if v := added(t, h, "thirteen long"); v != [16]byte{13, 0, 0, 0, 't', 'h', 'i', 'r', 0, 0, 0, 0, 13} || h.Size() != 26 {
		t.Errorf("% x, Size %d", v, h.Size())
	}
}

func TestAddOfAStringThatIsTooLong(t *testing.T) {
	for _, most := range []int{-1, 0, 13, 4096, 1 << 20, math.MaxInt} {
		for _, n := range []int{4097, 4098, 65536, 65537, 65536 + 12, 1 << 20} {
			h := heap.New(most)
			refused(t, h, letters(n), api.ErrArg)
			holds(t, h, "")
		}
	}
	h := heap.New(1 << 20)
	addedAt(t, h, letters(4096), 0, 0)
	refused(t, h, letters(4097), api.ErrArg)
	addedAt(t, h, letters(4096), 0, 4096)
}

func TestAddWhereNothingMayBe(t *testing.T) {
	for _, most := range []int{math.MinInt, -4096, -13, -1, 0, 1, 12} {
		h := heap.New(most)
		for _, n := range []int{13, 14, 4096} {
			refused(t, h, letters(n), api.ErrLimit)
		}
		refused(t, h, letters(4097), api.ErrArg)
		holds(t, h, "")
	}
}

func TestAddReachesTheMostAndDoesNotPassIt(t *testing.T) {
	for _, n := range []int{13, 14, 255, 4095, 4096} {
		for _, ahead := range []int{0, 13, 100, 4096} {
			s := some(n, 3)
			reached, passed := heap.New(ahead+n), heap.New(ahead+n-1)
			if ahead > 0 {
				added(t, reached, letters(ahead))
				added(t, passed, letters(ahead))
			}
			addedAt(t, reached, s, 0, ahead)
			holds(t, reached, letters(ahead)+s)
			refused(t, reached, "thirteen long", api.ErrLimit)
			refused(t, reached, letters(4097), api.ErrArg)
			addedAt(t, reached, "twelve bytes", 0, 0)
			refused(t, passed, s, api.ErrLimit)
			holds(t, passed, letters(ahead))
		}
	}
}

func TestAddOfAShorterOneBehindOneThatIsRefused(t *testing.T) {
	h := heap.New(40)
	addedAt(t, h, letters(20), 0, 0)
	refused(t, h, letters(21), api.ErrLimit)
	addedAt(t, h, "", 0, 0)
	addedAt(t, h, some(20, 1), 0, 20)
	addedAt(t, h, "short", 0, 0)
	holds(t, h, letters(20)+some(20, 1))
}

func TestAddFillsABuffer(t *testing.T) {
	h := heap.New(1 << 20)
	for i := range 16 {
		addedAt(t, h, some(4096, uint32(i)), 0, 4096*i)
	}
	addedAt(t, h, "twelve bytes", 0, 0)
	if h.Size() != 65536 {
		t.Errorf("Size is %d", h.Size())
	}
	addedAt(t, h, "thirteen long", 1, 0)
	addedAt(t, h, "thirteen more", 1, 13)
	if h.Size() != 65536+26 {
		t.Errorf("Size is %d", h.Size())
	}
}

// filled is a heap whose only buffer has so much room left, and its bytes.
func filled(t *testing.T, most, room int) (*heap.Heap, string) {
	t.Helper()
	h, all := heap.New(most), ""
	for left := 65536 - room; left > 0; left = 65536 - room - len(all) {
		n := left
		if left > 4096 {
			n = min(4096, left-13) // What is left is never short.
		}
		addedAt(t, h, some(n, uint32(left)), 0, len(all))
		all += some(n, uint32(left))
	}
	return h, all
}

func TestAddWhereTheRoomJustDoesOrIsOneTooLittle(t *testing.T) {
	for _, n := range []int{13, 14, 100, 4095, 4096} {
		s := some(n, 5)
		h, all := filled(t, 1<<20, n)
		addedAt(t, h, s, 0, 65536-n)
		holds(t, h, all+s)
		addedAt(t, h, letters(13), 1, 0)
		holds(t, h, all+s+letters(13))

		h, all = filled(t, 1<<20, n-1)
		addedAt(t, h, s, 1, 0)
		holds(t, h, all+s)
		// What still has room in the buffer ahead stands in the last one.
		addedAt(t, h, letters(13), 1, n)
		holds(t, h, all+s+letters(13))
		got(t, h, of(s, 1, 0), s)
		notGot(t, h, of(s, 0, 65536-n+1))
	}
}

func TestTheMostIsOfBytesAndNotOfRoom(t *testing.T) {
	h, all := filled(t, 65536-99+100, 99)
	addedAt(t, h, letters(50), 0, 65536-99)
	refused(t, h, letters(51), api.ErrLimit)
	addedAt(t, h, some(50, 1), 1, 0)
	holds(t, h, all+letters(50)+some(50, 1))
	refused(t, h, "thirteen long", api.ErrLimit)

	h, all = filled(t, 65536-20+20, 20)
	refused(t, h, letters(21), api.ErrLimit)
	addedAt(t, h, letters(20), 0, 65536-20)
	holds(t, h, all+letters(20))
}

func TestManyBuffers(t *testing.T) {
	h := heap.New(math.MaxInt)
	s := some(4001, 1)
	for i := range 300 * 16 {
		addedAt(t, h, s, i/16, 4001*(i%16))
		if h.Size() != 4001*(i+1) {
			t.Fatalf("%d: Size is %d", i, h.Size())
		}
	}
	holds(t, h, strings.Repeat(s, 300*16))
}

func TestNoBytesAtFirst(t *testing.T) {
	for _, most := range []int{math.MinInt, -1, 0, 1, 1 << 20, math.MaxInt} {
		h := heap.New(most)
		if h == nil {
			t.Fatal("nil")
		}
		holds(t, h, "")
	}
}

// P7.2

func TestGetOfAHeapsViews(t *testing.T) {
	h := heap.New(1 << 20)
	var views [][16]byte
	var l []string
	for _, n := range []int{0, 1, 4, 12, 13, 14, 255, 256, 4095, 4096} {
		for _, s := range []string{letters(n), some(n, 9), strings.Repeat("\x00", n), strings.Repeat("\xff", n)} {
			views, l = append(views, added(t, h, s)), append(l, s)
		}
	}
	for i, v := range views {
		got(t, h, v, l[i])
	}
}

func TestGetOfShortViewsThatWereNotAdded(t *testing.T) {
	for _, h := range []*heap.Heap{heap.New(0), heap.New(100), heap.Of(nil, 0), heap.Of([]byte(letters(20)), 5)} {
		for n := range 13 {
			got(t, h, of(letters(n), 0, 0), letters(n))
			got(t, h, of(some(n, 2), 0, 0), some(n, 2))
		}
	}
}

func TestGetOfBytesWhereverTheyAre(t *testing.T) {
	h := heap.New(1000)
	added(t, h, letters(30))
	added(t, h, some(30, 1))
	all := letters(30) + some(30, 1)
	for from := range 61 {
		for n := 13; n < 63; n++ {
			if from+n > 60 {
				notGot(t, h, raw(uint32(n), all[min(from, 56):][:4], 0, uint32(from)))
			} else {
				got(t, h, of(all[from:from+n], 0, from), all[from:from+n])
			}
		}
	}
}

// strangers are views that aren't the heap's that has some(4096, 1) and
// some(100, 2), and no more.
func strangers() [][16]byte {
	s := some(4096, 1) + some(100, 2)
	l := [][16]byte{
		// One that isn't right.
		{1, 0, 0, 0, 'a', 'b'}, {0, 0, 0, 0, 0, 0, 0, 0, 0, 0, 0, 0, 0, 0, 0, 1}, {11, 0, 0, 0, 'e', 'l', 'e', 'v', 'e', 'n', ' ', 'b', 'y', 't', 'e', 's'},
		raw(4097, s, 0, 0), raw(4097, s[50:], 0, 50), raw(1<<31+13, s, 0, 0), raw(math.MaxUint32, s, 0, 0), raw(1<<16+13, s, 0, 0),
		raw(13, s, 65536, 0), raw(13, s, 1<<31, 0), raw(13, s, math.MaxUint32, 0), raw(13, s, 0, 65537), raw(13, s, 0, 1<<31), raw(13, s, 0, math.MaxUint32),
		// A buffer that isn't there.
		raw(13, s, 1, 0), raw(13, s, 2, 0), raw(13, s, 256, 0), raw(13, s, 65535, 0), raw(13, s[13:], 1, 13), raw(13, "", 1, 0),
		// Bytes that aren't there.
		raw(13, s[4184:], 0, 4184), raw(101, s[4096:], 0, 4096), raw(4096, s[101:], 0, 101), raw(13, s[4192:], 0, 4192), raw(13, s[4195:], 0, 4195), raw(13, "", 0, 4196), raw(13, "", 0, 4197), raw(13, "", 0, 65535), raw(13, "", 0, 65536), raw(4096, s, 0, 65536),
		// Another prefix.
		raw(13, "", 0, 0), raw(13, s[:3], 0, 0), raw(13, s[1:], 0, 0), raw(13, s, 0, 1), raw(4096, s[4:], 0, 0), raw(100, s, 0, 4096),
	}
	for bit := range 8 * 4 {
		v := of(s[:4096], 0, 0)
		v[4+bit/8] ^= 1 << (bit % 8)
		l = append(l, v)
	}
	return l
}

// host is the heap that strangers speaks of.
func host(t *testing.T) *heap.Heap {
	h := heap.New(5000)
	addedAt(t, h, some(4096, 1), 0, 0)
	addedAt(t, h, some(100, 2), 0, 4096)
	return h
}

func TestGetOfOtherViews(t *testing.T) {
	h := host(t)
	for _, v := range strangers() {
		notGot(t, h, v)
	}
	s := some(4096, 1) + some(100, 2)
	for _, from := range []int{0, 1, 100, 4096, 4183} {
		got(t, h, of(s[from:from+13], 0, from), s[from:from+13])
	}
	got(t, h, of(s[100:4196], 0, 100), s[100:])
}

func TestGetOfAnotherHeapsView(t *testing.T) {
	one, two := heap.New(100), heap.New(100)
	v := added(t, one, "thirteen long")
	notGot(t, two, v)
	added(t, two, "another of many bytes")
	notGot(t, two, v)
	compared(t, two, v, [16]byte{}, "", "")
}

// alike are strings that mostly are alike at their beginnings.
func alike() []string {
	l := []string{
		"", "a", "ab", "abc", "abcd", "abcde", "abcd\x00", "abcd\xff", "abc\x00", "abc\xff", "b", "\x00", "\x00\x00", "\xff", "\xff\xff", "\x7f", "\x80", "z\x7f", "z\x80",
		"abcdefghijkl", "abcdefghijkm", "abcdefghijk", "abcdefghijklm", "abcdefghijkln", "abcdefghijklmn", "abcdefghijkl\x00", "abcdefghijkl\xff", "abcd\x7fefghijklmn", "abcd\x80efghijklmn", "abcdzzzzz",
		"abc\x00efghijklmn", "abc\xffefghijklmn", "\x00bcdefghijklmn", "\xffbcdefghijklmn", "\x7fbcdefghijklmn", "\x80bcdefghijklmn",
		"a string of many bytes", "a string of many more", "a string of many bytes and more", "a st", "a str", "a s",
		letters(4096), letters(4095), letters(4095) + "\x00", letters(4095) + "\xff", letters(2000) + "\x00" + letters(2000), letters(26), letters(27),
		"ä", "ö", "äöüäöüäöü", "äöüäöüäöu", "日本語日本語",
	}
	for _, n := range []int{4, 5, 11, 12, 13, 14, 100, 4096} {
		l = append(l, strings.Repeat("\x00", n), strings.Repeat("\xff", n), strings.Repeat("\x7f", n), strings.Repeat("\x80", n))
	}
	return l
}

func TestCompareAndEqual(t *testing.T) {
	h := heap.New(1 << 20)
	l := alike()
	var once, again [][16]byte
	for _, s := range l {
		once = append(once, added(t, h, s))
	}
	for _, s := range l {
		again = append(again, added(t, h, s))
	}
	for i, a := range l {
		for k, b := range l {
			compared(t, h, once[i], once[k], a, b)
			compared(t, h, once[i], again[k], a, b)
		}
	}
}

func TestCompareIsBelowOneAndAboveMinusOne(t *testing.T) {
	h := heap.New(1000)
	a, b, c := added(t, h, "abcdefghijklmnop"), added(t, h, "abcdefghijklmzzz"), added(t, h, "zzzzzzzzzzzzzzzz")
	d, e := added(t, h, "\x00"), added(t, h, "\xff\xff\xff\xff\xff")
	for _, x := range []struct {
		a, b [16]byte
		want int
	}{
		{a, b, -1}, {b, a, 1}, {a, c, -1}, {c, a, 1}, {d, e, -1}, {e, d, 1}, {a, a, 0}, {d, d, 0}, {[16]byte{}, d, -1}, {a, [16]byte{}, 1},
	} {
		if c := h.Compare(x.a, x.b); c != x.want {
			t.Errorf("Compare of % x, % x is %d", x.a, x.b, c)
		}
	}
}

func TestCompareAndEqualOfOtherViews(t *testing.T) {
	h := host(t)
	long, short := of(some(100, 2), 0, 4096), of("ab", 0, 0)
	for _, v := range strangers() {
		compared(t, h, v, [16]byte{}, "", "")
		compared(t, h, v, v, "", "")
		compared(t, h, v, long, "", some(100, 2))
		compared(t, h, v, short, "", "ab")
		compared(t, h, v, of("\x00", 0, 0), "", "\x00")
		for _, w := range strangers() {
			compared(t, h, v, w, "", "")
		}
	}
}

// P7.3

func TestOfNoBytes(t *testing.T) {
	for _, n := range []int{0, 1, 13, 65535, 65536, 65537, math.MaxInt} {
		for _, b := range [][]byte{nil, {}} {
			h := heap.Of(b, n)
			holds(t, h, "")
			for _, v := range [][16]byte{raw(13, "", 0, 0), raw(13, "abcd", 0, 0), raw(13, "", 1, 0)} {
				notGot(t, h, v)
			}
			addsNothing(t, h)
		}
	}
}

// addsNothing checks that but short strings can be added.
func addsNothing(t *testing.T, h *heap.Heap) {
	t.Helper()
	all := string(h.Bytes())
	for _, n := range []int{13, 14, 100, 4096} {
		refused(t, h, letters(n), api.ErrLimit)
	}
	for _, n := range []int{4097, 65537} {
		refused(t, h, letters(n), api.ErrArg)
	}
	for n := range 13 {
		got(t, h, addedAt(t, h, letters(n), 0, 0), letters(n))
	}
	holds(t, h, all)
}

// cut are the buffers that come of n bytes each, as the chapter says it.
func cut(b string, n int) []string {
	if n == 0 || n > 65536 {
		n = 65536
	}
	var l []string
	for len(b) > n {
		l, b = append(l, b[:n]), b[n:]
	}
	if len(b) > 0 {
		l = append(l, b)
	}
	return l
}

func TestOfHasTheBytes(t *testing.T) {
	for _, size := range []int{1, 12, 13, 30, 4096, 65535, 65536, 65537, 140000} {
		for _, n := range []int{0, 1, 2, 13, 29, 30, 31, 4096, 65535, 65536, 65537, 1 << 20, math.MaxInt} {
			s := some(size, uint32(n))
			h := heap.Of([]byte(s), n)
			holds(t, h, s)
			addsNothing(t, h)
		}
	}
}

func TestOfWithBuffers(t *testing.T) {
	for _, size := range []int{13, 30, 45, 65535, 65536, 65537, 2*65536 + 13, 2*65536 + 12, 3 * 65536} {
		for _, n := range []int{0, 1, 12, 13, 14, 15, 29, 30, 31, 4095, 4096, 4097, 65535, 65536, 65537, 1 << 20, math.MaxInt} {
			s := some(size, uint32(n+size))
			h, w := heap.Of([]byte(s), n), words{buffers: cut(s, n)}
			for buf, b := range w.buffers {
				if buf > 5 && buf < len(w.buffers)-3 {
					continue
				}
				reachesTheEnd(t, h, buf, b)
			}
			notGot(t, h, raw(13, s, uint32(len(w.buffers)), 0))
			notGot(t, h, raw(13, "", uint32(len(w.buffers)), 0))
		}
	}
}

// reachesTheEnd checks that a buffer has its bytes, and none behind them.
func reachesTheEnd(t *testing.T, h *heap.Heap, buf int, b string) {
	t.Helper()
	for _, n := range []int{13, 14, 100, 4096} {
		for _, at := range []int{0, 1, len(b) - n - 1, len(b) - n, len(b) - n + 1, len(b) - 4, len(b) - 1, len(b), len(b) + 1, 65536} {
			switch {
			case at < 0 || at > 65536:
			case at+n <= len(b):
				got(t, h, of(b[at:at+n], buf, at), b[at:at+n])
			default:
				prefix := b[min(at, len(b)):]
				notGot(t, h, raw(uint32(n), prefix[:min(4, len(prefix))], uint32(buf), uint32(at)))
			}
		}
	}
}

func TestOfBytesThatEndWithinABuffer(t *testing.T) {
	b := "0123456789abcdefghijklmnopqrstuvwxyzABCDE"
	h := heap.Of([]byte(b), 15)
	got(t, h, of("0123456789abcde", 0, 0), "0123456789abcde")
	got(t, h, of("123456789abcde", 0, 1), "123456789abcde")
	notGot(t, h, of("123456789abcdef", 0, 1))
	got(t, h, of("fghijklmnopqrst", 1, 0), "fghijklmnopqrst")
	notGot(t, h, of("fghijklmnopqrstu", 1, 0))
	notGot(t, h, of("uvwxyzABCDEFG", 2, 0))
	notGot(t, h, of("fghijklmnopqrst", 0, 15))
	notGot(t, h, of("fghijklmnopqrst", 2, 0))
	h = heap.Of([]byte(b+"FG"), 15)
	got(t, h, of("uvwxyzABCDEFG", 2, 0), "uvwxyzABCDEFG")
	notGot(t, h, of("vwxyzABCDEFGH", 2, 1))
	notGot(t, h, of("uvwxyzABCDEFGH", 2, 0))
	notGot(t, h, of("uvwxyzABCDEFG", 3, 0))
}

func TestOfWithBuffersOfMaxHeap(t *testing.T) {
	s := some(65536+20, 1)
	for _, n := range []int{0, 65536, 65537, 1 << 20, math.MaxInt} {
		h := heap.Of([]byte(s), n)
		got(t, h, of(s[65536-13:65536], 0, 65536-13), s[65536-13:65536])
		notGot(t, h, of(s[65536-12:65536+1], 0, 65536-12))
		got(t, h, of(s[65536:], 1, 0), s[65536:])
		notGot(t, h, of(s[65536:], 0, 65536))
	}
	h := heap.Of([]byte(s), 65535)
	got(t, h, of(s[65535:], 1, 0), s[65535:])
	notGot(t, h, of(s[65536-13:65536], 0, 65536-13))
}

func TestOfWithMoreBuffersThanViewsTellOf(t *testing.T) {
	s := some(65536*13+30, 1)
	h := heap.Of([]byte(s), 13)
	holds(t, h, s)
	for _, buf := range []int{0, 1, 65534, 65535} {
		got(t, h, of(s[buf*13:][:13], buf, 0), s[buf*13:][:13])
		notGot(t, h, of(s[buf*13:][:14], buf, 0))
		notGot(t, h, of(s[buf*13+1:][:13], buf, 1))
	}
	notGot(t, h, of(s[65536*13:][:13], 65536, 0))
	addsNothing(t, h)
}

func TestOfWithBuffersTooSmallForLongStrings(t *testing.T) {
	s := letters(100)
	for _, n := range []int{1, 2, 12} {
		h := heap.Of([]byte(s), n)
		for buf := range 101 {
			for _, at := range []int{0, 1, n - 1, n, 13} {
				notGot(t, h, raw(13, s[min(96, buf*n+at):][:4], uint32(buf), uint32(at)))
			}
		}
	}
}

func TestCompareOfWhatOfHas(t *testing.T) {
	all := letters(26*3) + strings.ToUpper(letters(26)) + letters(25)
	h := heap.Of([]byte(all), 26)
	var views [][16]byte
	var l []string
	for _, p := range [][3]int{{0, 0, 26}, {1, 0, 26}, {1, 0, 25}, {2, 3, 23}, {3, 0, 13}, {3, 3, 20}, {4, 0, 25}, {4, 3, 13}, {0, 3, 13}} {
		s := all[26*p[0]+p[1]:][:p[2]]
		views, l = append(views, of(s, p[0], p[1])), append(l, s)
	}
	for _, v := range [][16]byte{of(all[:26], 5, 0), of(all[:27], 0, 0), raw(26, "abce", 0, 0), raw(26, "abcd", 4, 0)} {
		views, l = append(views, v), append(l, "")
	}
	for i, a := range l {
		for k, b := range l {
			compared(t, h, views[i], views[k], a, b)
		}
	}
}

// P7.4

func TestWhatIsAddedIsGotHoweverMuchIsAddedBehindIt(t *testing.T) {
	h, next := heap.New(1<<21), draws(7)
	var views [][16]byte
	var l []string
	for i := range 2000 {
		s := some(next([]int{5, 13, 40, 4097}[next(4)]), uint32(i))
		views, l = append(views, added(t, h, s)), append(l, s)
		for _, k := range []int{0, i / 2, i} {
			got(t, h, views[k], l[k])
		}
	}
	for i, v := range views {
		got(t, h, v, l[i])
	}
	buf, _ := view.Place(views[slices.IndexFunc(views, func(v [16]byte) bool { b, _ := view.Place(v); return b > 5 })])
	if buf < 5 {
		t.Errorf("but %d buffers", buf)
	}
}

func TestWhatIsAddedIsGotThoughStringsAreRefusedBehindIt(t *testing.T) {
	h := heap.New(100)
	v := added(t, h, letters(90))
	for _, n := range []int{4097, 4096, 13, 11} {
		h.Add(some(n, 1))
		got(t, h, v, letters(90))
	}
}

func TestViewsCompareAsStringsDo(t *testing.T) {
	h, next := heap.New(1<<21), draws(3)
	var views [][16]byte
	var l []string
	for range 400 {
		s := strings.Repeat("ab\xff", next(8)) + strings.Repeat("\x00", next(3)) + some(next(6), uint32(next(9)))
		views, l = append(views, added(t, h, s)), append(l, s)
	}
	for i, a := range l {
		for k, b := range l {
			compared(t, h, views[i], views[k], a, b)
		}
	}
	slices.SortFunc(views, h.Compare)
	slices.Sort(l)
	for i, v := range views {
		got(t, h, v, l[i])
	}
}

func TestWhatAHeapHasIsTheSameInAnotherOfItsBytes(t *testing.T) {
	h := heap.New(1 << 20)
	var views [][16]byte
	var l []string
	for i := range 300 {
		s := some(i%64*4, uint32(i))
		views, l = append(views, added(t, h, s)), append(l, s)
	}
	o := heap.Of(h.Bytes(), 0)
	if h.Size() > 65536 || o.Size() != h.Size() {
		t.Fatalf("Size is %d, and %d", h.Size(), o.Size())
	}
	for i, v := range views {
		got(t, o, v, l[i])
	}
}

func TestAddAsTheWordsSay(t *testing.T) {
	for seed := range uint32(20) {
		next := draws(seed)
		most := []int{-5, 0, 13, 100, 65536, 200000, 1 << 20}[seed%7] + next(100)
		h, w := heap.New(most), words{most: most}
		for i := range 300 {
			s := some(next([]int{14, 100, 4200, 4200}[next(4)]), uint32(i))
			v, e := h.Add(s)
			if want, wantE := w.add(s); v != want || e != wantE {
				t.Fatalf("most %d, Add of %d bytes: % x, error %d, not % x, error %d", most, len(s), v, e, want, wantE)
			}
		}
		holds(t, h, w.all())
		asTheWordsGet(t, h, w, next)
	}
}

func TestOfAsTheWordsSay(t *testing.T) {
	for seed := range uint32(60) {
		next := draws(seed)
		s, n := some(next([]int{60, 5000, 200000}[seed%3]), seed), []int{0, 1, 13, 15, 100, 4096, 65535, 65536, 65537, 1 << 20}[next(10)]
		h := heap.Of([]byte(s), n)
		holds(t, h, s)
		asTheWordsGet(t, h, words{buffers: cut(s, n)}, next)
	}
}

// asTheWordsGet checks Get and Compare of views that are the heap's, and of
// some that just aren't.
func asTheWordsGet(t *testing.T, h *heap.Heap, w words, next func(n int) int) {
	t.Helper()
	last, lastText := [16]byte{}, ""
	for range 2000 {
		v := near(w, next)
		want, ok := w.get(v)
		if !ok {
			want = ""
		}
		if s, is := h.Get(v); is != ok || s != want {
			t.Fatalf("Get of % x: %d bytes, %v, not %d, %v", v, len(s), is, len(want), ok)
		}
		compared(t, h, v, last, want, lastText)
		last, lastText = v, want
	}
}

// near is a view of bytes of a buffer, or of some that are about there.
func near(w words, next func(n int) int) [16]byte {
	buf := next(len(w.buffers) + 1)
	b := ""
	if buf < len(w.buffers) {
		b = w.buffers[buf]
	}
	at := next(len(b) + 2)
	if next(3) == 0 {
		at = max(0, len(b)-next(40))
	}
	n := next([]int{14, 40, 4100}[next(3)])
	from := b[min(at, len(b)):]
	v := raw(uint32(n), from[:min(4, len(from))], uint32(buf), uint32(at))
	if n <= 12 {
		v = of(letters(n), 0, 0)
	}
	if next(5) == 0 {
		v[next(16)] ^= 1 << next(8)
	}
	return v
}

// P7.5

func TestOfKeepsNoBytes(t *testing.T) {
	b := []byte(letters(40))
	h := heap.Of(b, 20)
	if string(b) != letters(40) {
		t.Errorf("%q is handed in, and changed", b)
	}
	v := of(letters(40)[20:33], 1, 0)
	clear(b)
	holds(t, h, letters(40))
	got(t, h, v, letters(40)[20:33])
}

func TestOfChangesNothingBehindItsBytes(t *testing.T) {
	whole := []byte(letters(60))
	h := heap.Of(whole[:20], 0)
	refused(t, h, "thirteen long", api.ErrLimit)
	if string(whole) != letters(60) {
		t.Errorf("%q", whole)
	}
}

func TestBytesAreNewMemory(t *testing.T) {
	made := heap.New(100)
	added(t, made, letters(30))
	for _, h := range []*heap.Heap{made, heap.Of([]byte(letters(30)), 20), heap.Of([]byte(letters(30)), 0)} {
		one, two := h.Bytes(), h.Bytes()
		clear(one)
		clear(append(one, make([]byte, 5)...))
		if string(two) != letters(30) {
			t.Errorf("%q, once the other answer is cleared", two)
		}
		holds(t, h, letters(30))
	}
	one := made.Bytes()
	added(t, made, some(30, 1))
	if string(one) != letters(30) {
		t.Errorf("%q, once more is added", one)
	}
	one = append(one, letters(30)...)
	holds(t, made, letters(30)+some(30, 1))
}

func TestViewsAndStringsStay(t *testing.T) {
	h := heap.New(1000)
	s := strings.Clone("a string of many bytes")
	a, b := added(t, h, s), added(t, h, "a string of many more")
	one, two := a, b
	h.Get(one)
	h.Equal(one, two)
	h.Compare(one, two)
	if one != a || two != b || s != "a string of many bytes" {
		t.Errorf("% x, % x, %q", one, two, s)
	}
	text, _ := h.Get(a)
	clear(one[:])
	added(t, h, letters(500))
	if text != s {
		t.Errorf("%q, once more is added", text)
	}
	got(t, h, a, s)
}

func TestHeapsAreApart(t *testing.T) {
	one, two := heap.New(100), heap.New(100)
	v := added(t, one, letters(50))
	holds(t, two, "")
	w := added(t, two, some(50, 1))
	got(t, one, v, letters(50))
	got(t, two, w, some(50, 1))
	holds(t, one, letters(50))
	holds(t, two, some(50, 1))
}

// P1

func TestWhateverViewEnds(t *testing.T) {
	next := draws(1)
	h := host(t)
	cut := heap.Of([]byte(some(1000, 4)), 100)
	for range 100000 {
		var v, w [16]byte
		for i := range v {
			if next(3) == 0 {
				v[i], w[i] = byte(next(256)>>next(9)), byte(next(256)>>next(9))
			}
		}
		for _, x := range []*heap.Heap{h, cut} {
			s, ok := x.Get(v)
			r, _ := x.Get(w)
			if !ok && s != "" {
				t.Errorf("Get of % x: %q", v, s)
			}
			compared(t, x, v, w, s, r)
		}
	}
}

func TestGreatestNumbersEnd(t *testing.T) {
	numbers := []uint32{0, 12, 13, 4096, 65535, 65536, math.MaxInt32 - 12, math.MaxInt32, 1 << 31, math.MaxUint32 - 12, math.MaxUint32}
	h := heap.Of([]byte(letters(100000)), 0)
	for _, length := range numbers {
		for _, buf := range numbers {
			for _, at := range numbers {
				v := raw(length, "abcd", buf, at)
				h.Get(v)
				h.Equal(v, v)
				h.Compare(v, [16]byte{})
			}
		}
	}
}

func TestNothingIsNoBytes(t *testing.T) {
	for _, h := range []*heap.Heap{nil, {}, heap.Of([]byte(letters(20)), -1)} {
		size := h.Size()
		if len(h.Bytes()) != size {
			t.Errorf("%d bytes, Size %d", len(h.Bytes()), size)
		}
		if v, e := h.Add(letters(13)); e != api.ErrLimit || v != [16]byte{} {
			t.Errorf("% x, error %d", v, e)
		}
		got(t, h, added(t, h, "ab"), "ab")
		notGot(t, h, raw(13, "bcde", 0, 0))
		if h.Compare(of("ab", 0, 0), of("b", 0, 0)) != -1 || !h.Equal(raw(13, "", 1, 0), [16]byte{}) {
			t.Error("compare")
		}
		if h.Size() != size {
			t.Errorf("Size %d, and not %d", h.Size(), size)
		}
	}
}
