package cursor_test

import (
	"bytes"
	"math"
	"math/bits"
	"slices"
	"strings"
	"testing"

	"hopper/api"
	"hopper/cursor"
)

// varints are numbers with their bytes, at each edge of a length.
var varints = []struct {
	n int
	b []byte
}{
	{0, []byte{0}},
	{1, []byte{1}},
	{127, []byte{0x7f}},
	{128, []byte{0x80, 1}},
	{300, []byte{0xac, 2}},
	{1<<14 - 1, []byte{0xff, 0x7f}},
	{1 << 14, []byte{0x80, 0x80, 1}},
	{1<<56 - 1, []byte{0xff, 0xff, 0xff, 0xff, 0xff, 0xff, 0xff, 0x7f}},
	{1 << 56, []byte{0x80, 0x80, 0x80, 0x80, 0x80, 0x80, 0x80, 0x80, 1}},
	{1 << 62, []byte{0x80, 0x80, 0x80, 0x80, 0x80, 0x80, 0x80, 0x80, 0x40}},
	{math.MaxInt, []byte{0xff, 0xff, 0xff, 0xff, 0xff, 0xff, 0xff, 0xff, 0x7f}},
}

// texts are strings at the edges of a length's varint, and of MaxText.
func texts() []string {
	l := []string{"", "a", "abc", "\x00\xff\x80", "käse"}
	for _, n := range []int{127, 128, api.MaxText - 1, api.MaxText} {
		l = append(l, strings.Repeat("x", n))
	}
	return l
}

// repeat answers n bytes x, and those of tail.
func repeat(x byte, n int, tail ...byte) []byte {
	return append(bytes.Repeat([]byte{x}, n), tail...)
}

// taker is one way of taking, and what it answers where nothing is taken.
type taker struct {
	name string
	take func(c *cursor.Cursor) any
	zero any
}

func takers() []taker {
	return []taker{
		{"Byte", func(c *cursor.Cursor) any { return c.Byte() }, 0},
		{"Number", func(c *cursor.Cursor) any { return c.Number() }, 0},
		{"Most", func(c *cursor.Cursor) any { return c.Most(200) }, 0},
		{"Most of below 0", func(c *cursor.Cursor) any { return c.Most(-1) }, 0},
		{"Bytes", func(c *cursor.Cursor) any { return string(c.Bytes(2)) }, ""},
		{"Bytes of none", func(c *cursor.Cursor) any { return string(c.Bytes(0)) }, ""},
		{"Bytes of below 0", func(c *cursor.Cursor) any { return string(c.Bytes(-1)) }, ""},
		{"Bytes of many", func(c *cursor.Cursor) any { return string(c.Bytes(math.MaxInt)) }, ""},
		{"Bytes of least", func(c *cursor.Cursor) any { return string(c.Bytes(math.MinInt)) }, ""},
		{"Text", func(c *cursor.Cursor) any { return c.Text() }, ""},
	}
}

// P1.1

func TestPut(t *testing.T) {
	for _, x := range varints {
		if b := cursor.Put(x.n); !bytes.Equal(b, x.b) {
			t.Errorf("Put(%d) is %x, not %x", x.n, b, x.b)
		}
	}
}

func TestPutBelowZero(t *testing.T) {
	for _, n := range []int{-1, -127, -128, -300, math.MinInt} {
		if b := cursor.Put(n); len(b) != 0 {
			t.Errorf("Put(%d) is %x, not nothing", n, b)
		}
	}
}

func TestPutHasNoMoreBytesThanItNeeds(t *testing.T) {
	for i := range 63 {
		for _, n := range []int{1<<i - 1, 1 << i, 1<<i | 1} {
			want := max(1, (bits.Len(uint(n))+6)/7)
			b := cursor.Put(n)
			if len(b) != want {
				t.Errorf("Put(%d) has %d bytes, not %d", n, len(b), want)
			}
			for k, x := range b {
				if x&128 != 0 != (k < len(b)-1) {
					t.Errorf("Put(%d) is %x", n, b)
				}
			}
		}
	}
}

func TestPutText(t *testing.T) {
	long := strings.Repeat("z", 300)
	for s, want := range map[string]string{
		"":         "\x00",
		"abc":      "\x03abc",
		"\x00\xff": "\x02\x00\xff",
		long:       "\xac\x02" + long,
	} {
		if b := cursor.PutText(s); string(b) != want {
			t.Errorf("PutText of %q is %x, not %x", s, b, want)
		}
	}
}

func TestPutTextHasNoLimit(t *testing.T) {
	s := strings.Repeat("x", api.MaxText+1)
	if b := cursor.PutText(s); string(b) != "\x81\x20"+s {
		t.Errorf("PutText of %d bytes has %d bytes", len(s), len(b))
	}
}

// P1.2: what is there

func TestTakesOneBehindTheOther(t *testing.T) {
	b := slices.Concat([]byte{0, 255}, []byte("xyz"), []byte{0xac, 2}, []byte{0x80, 1}, []byte{2, 'o', 'k'}, []byte{7})
	c := cursor.New(b)
	left := len(b)
	step := func(name string, ok bool, n int) {
		t.Helper()
		left -= n
		if !ok || c.Left() != left || !c.Good() {
			t.Errorf("%s: taken wrong, or %d left, not %d", name, c.Left(), left)
		}
	}
	step("New", true, 0)
	step("Byte", c.Byte() == 0, 1)
	step("Byte", c.Byte() == 255, 1)
	step("Bytes of none", len(c.Bytes(0)) == 0, 0)
	step("Bytes", string(c.Bytes(3)) == "xyz", 3)
	step("Number", c.Number() == 300, 2)
	step("Most", c.Most(128) == 128, 2)
	step("Text", c.Text() == "ok", 3)
	step("End", c.End() == api.ErrCut, 0)
	step("Byte", c.Byte() == 7, 1)
	step("End", c.End() == api.OK, 0)
}

func TestBytes(t *testing.T) {
	for _, x := range []struct {
		n    int
		want string
		e    api.Errno
	}{
		{0, "", api.OK},
		{1, "a", api.OK},
		{3, "abc", api.OK},
		{4, "", api.ErrCut},
		{math.MaxInt, "", api.ErrCut},
		{-1, "", api.ErrForm},
		{math.MinInt, "", api.ErrForm},
	} {
		c := cursor.New([]byte("abc"))
		got := string(c.Bytes(x.n))
		holds(t, c, x.e, 3-len(x.want))
		if got != x.want {
			t.Errorf("Bytes(%d) is %q, not %q", x.n, got, x.want)
		}
	}
}

func TestNumber(t *testing.T) {
	for _, x := range varints {
		c := cursor.New(append(slices.Clone(x.b), 0xff))
		if n := c.Number(); n != x.n {
			t.Errorf("Number of %x is %d, not %d", x.b, n, x.n)
		}
		holds(t, c, api.OK, 1)
	}
}

func TestNumberAtFault(t *testing.T) {
	for _, x := range []struct {
		b []byte
		e api.Errno
	}{
		{nil, api.ErrCut},
		{[]byte{0x80}, api.ErrCut},
		{[]byte{0xff, 0xff}, api.ErrCut},
		{repeat(0x80, 8), api.ErrCut},
		{repeat(0x80, 9), api.ErrCut},
		{repeat(0xff, 9), api.ErrCut},
		{[]byte{0x80, 0}, api.ErrForm},
		{[]byte{0x81, 0x80, 0, 1}, api.ErrForm},
		{repeat(0xff, 7, 0), api.ErrForm},
		{repeat(0x80, 8, 0), api.ErrForm},
		{repeat(0xff, 8, 0), api.ErrForm},
		{repeat(0x80, 9, 0), api.ErrForm},
		{repeat(0x80, 9, 1), api.ErrForm},
		{repeat(0xff, 9, 1), api.ErrForm},
		{repeat(0x80, 10), api.ErrForm},
		{repeat(0xff, 30), api.ErrForm},
	} {
		for _, most := range []int{0, 9, math.MaxInt, -1} {
			c := cursor.New(x.b)
			if n := c.Most(most); n != 0 {
				t.Errorf("Most(%d) of %x is %d", most, x.b, n)
			}
			holds(t, c, x.e, len(x.b))
		}
		c := cursor.New(x.b)
		if n := c.Number(); n != 0 {
			t.Errorf("Number of %x is %d", x.b, n)
		}
		holds(t, c, x.e, len(x.b))
	}
}

func TestMost(t *testing.T) {
	for _, x := range []struct {
		b       []byte
		most, n int
		e       api.Errno
	}{
		{[]byte{0}, 0, 0, api.OK},
		{[]byte{1}, 0, 0, api.ErrForm},
		{[]byte{0}, -1, 0, api.ErrForm},
		{[]byte{0}, math.MinInt, 0, api.ErrForm},
		{[]byte{0x80, 1}, 128, 128, api.OK},
		{[]byte{0x80, 1}, 129, 128, api.OK},
		{[]byte{0x80, 1}, 127, 0, api.ErrForm},
		{repeat(0xff, 8, 0x7f), math.MaxInt, math.MaxInt, api.OK},
		{repeat(0xff, 8, 0x7f), math.MaxInt - 1, 0, api.ErrForm},
	} {
		c := cursor.New(x.b)
		if n := c.Most(x.most); n != x.n {
			t.Errorf("Most(%d) of %x is %d, not %d", x.most, x.b, n, x.n)
		}
		left := 0
		if x.e != api.OK {
			left = len(x.b)
		}
		holds(t, c, x.e, left)
	}
}

func TestText(t *testing.T) {
	full := strings.Repeat("x", api.MaxText)
	for i, x := range []struct {
		b    []byte
		want string
		e    api.Errno
		left int
	}{
		{[]byte{0}, "", api.OK, 0},
		{[]byte{0, 5}, "", api.OK, 1},
		{[]byte{2, 'a', 0xff, 'c'}, "a\xff", api.OK, 1},
		{[]byte("\x80\x20" + full), full, api.OK, 0},
		{[]byte("\x80\x20" + full[1:]), "", api.ErrCut, api.MaxText + 1},
		{[]byte("\x81\x20" + full + "x"), "", api.ErrForm, api.MaxText + 3},
		{[]byte("\x81\x20"), "", api.ErrForm, 2},
		{repeat(0xff, 8, 0x7f), "", api.ErrForm, 9},
		{repeat(0x80, 8, 0), "", api.ErrForm, 9},
		{[]byte{0x81, 0, 'a'}, "", api.ErrForm, 3},
		{nil, "", api.ErrCut, 0},
		{[]byte{0x81}, "", api.ErrCut, 1},
		{[]byte{1}, "", api.ErrCut, 1},
		{[]byte{3, 'a', 'b'}, "", api.ErrCut, 3},
	} {
		c := cursor.New(x.b)
		if s := c.Text(); s != x.want {
			t.Errorf("%d: a text of %d bytes, not %d", i, len(s), len(x.want))
		}
		holds(t, c, x.e, x.left)
	}
}

// P1.2: errors

func TestByteAtTheEnd(t *testing.T) {
	for _, b := range [][]byte{nil, {}} {
		c := cursor.New(b)
		if c.Left() != 0 || !c.Good() || c.End() != api.OK {
			t.Error("New of no bytes")
		}
		if c.Byte() != 0 {
			t.Error("Byte of no bytes")
		}
		holds(t, c, api.ErrCut, 0)
	}
}

func TestFirstErrorStays(t *testing.T) {
	c := cursor.New([]byte{0x80, 0})
	c.Number()
	c.Bytes(3)
	c.Fail(api.ErrPlan)
	holds(t, c, api.ErrForm, 2)

	c = cursor.New([]byte{3, 1})
	c.Text()
	c.Bytes(-1)
	c.Fail(api.ErrPlan)
	holds(t, c, api.ErrCut, 2)

	c = cursor.New([]byte{1})
	c.Fail(api.ErrLimit)
	c.Fail(api.ErrPlan)
	c.Bytes(-1)
	holds(t, c, api.ErrLimit, 1)
}

func TestFailOfNoError(t *testing.T) {
	c := cursor.New([]byte{1})
	c.Fail(api.OK)
	if !c.Good() || c.Byte() != 1 || c.End() != api.OK {
		t.Error("OK is no error")
	}
	c.Fail(api.ErrName)
	c.Fail(api.OK)
	holds(t, c, api.ErrName, 0)
}

func TestFailOfAnyNumber(t *testing.T) {
	for _, e := range []api.Errno{api.ErrArg, api.ErrPattern, 99, -1} {
		c := cursor.New([]byte{1})
		c.Fail(e)
		holds(t, c, e, 1)
	}
}

func TestNothingIsTakenBehindAnError(t *testing.T) {
	faults := map[string]func(c *cursor.Cursor){
		"told":   func(c *cursor.Cursor) { c.Fail(api.ErrPlan) },
		"form":   func(c *cursor.Cursor) { c.Bytes(-1) },
		"cut":    func(c *cursor.Cursor) { c.Bytes(9) },
		"number": func(c *cursor.Cursor) { c.Most(0) },
	}
	for name, fault := range faults {
		for _, x := range takers() {
			c := cursor.New([]byte{9, 1, 'a', 1, 'b', 2, 'c', 'd'})
			c.Byte()
			fault(c)
			e := c.End()
			if got := x.take(c); got != x.zero {
				t.Errorf("%s behind an error (%s) takes %v", x.name, name, got)
			}
			holds(t, c, e, 7)
		}
	}
}

func TestEndIsOnlyAnAnswer(t *testing.T) {
	c := cursor.New([]byte{1, 2})
	if c.End() != api.ErrCut || !c.Good() || c.End() != api.ErrCut {
		t.Error("End with two bytes left")
	}
	if c.Byte() != 1 || c.End() != api.ErrCut || c.Byte() != 2 || c.End() != api.OK {
		t.Error("End on the way")
	}
}

// holds checks the error that a cursor keeps, and how many bytes it has left.
func holds(t *testing.T, c *cursor.Cursor, e api.Errno, left int) {
	t.Helper()
	end := e
	if e == api.OK && left > 0 {
		end = api.ErrCut
	}
	if c.Good() != (e == api.OK) || c.End() != end || c.Left() != left {
		t.Errorf("good %v, end %d, left %d; not error %d, left %d", c.Good(), c.End(), c.Left(), e, left)
	}
}

// P1.3

func TestWhatIsPutIsTaken(t *testing.T) {
	var b []byte
	var numbers []int
	for i := range 63 {
		numbers = append(numbers, 1<<i-1, 1<<i, 1<<i|1)
	}
	numbers = append(numbers, math.MaxInt)
	for _, n := range numbers {
		b = append(b, cursor.Put(n)...)
	}
	for _, s := range texts() {
		b = append(b, cursor.PutText(s)...)
	}
	c := cursor.New(b)
	for _, n := range numbers {
		if got := c.Number(); got != n {
			t.Fatalf("%d is taken as %d", n, got)
		}
	}
	for _, s := range texts() {
		if got := c.Text(); got != s {
			t.Fatalf("a text of %d bytes is taken as one of %d", len(s), len(got))
		}
	}
	holds(t, c, api.OK, 0)
}

func TestWhatIsTakenIsPut(t *testing.T) {
	stands := func(b []byte) {
		c := cursor.New(b)
		n := c.Number()
		if size := len(b) - c.Left(); c.Good() && !bytes.Equal(cursor.Put(n), b[:size]) {
			t.Fatalf("%x is taken as %d, which is put as %x", b[:size], n, cursor.Put(n))
		}
	}
	for i := range 1 << 16 {
		b := []byte{byte(i), byte(i >> 8)}
		stands(b)
		stands(append([]byte{0x85}, b...))
		stands(append(b, 3))
		stands(append(repeat(0xa5, 6), b...))
		stands(append(repeat(0xff, 7), b...))
		stands(append(repeat(0x80, 8), b...))
	}
}

// P1.4

func TestWhatIsHandedInIsNotKept(t *testing.T) {
	b := []byte{1, 2, 'a', 'b'}
	c := cursor.New(b)
	clear(b)
	if c.Byte() != 1 || c.Text() != "ab" {
		t.Error("New keeps what is handed in")
	}
}

func TestWhatIsHandedInStays(t *testing.T) {
	b := []byte("abcdef")
	c := cursor.New(b[:4])
	got := c.Bytes(2)
	clear(got)
	_ = append(got, 'x', 'y', 'z')
	if string(b) != "abcdef" {
		t.Errorf("what is handed in became %q", b)
	}
	if string(c.Bytes(2)) != "cd" {
		t.Error("what is answered shares memory with the cursor")
	}
}

func TestAnswersAreNewMemory(t *testing.T) {
	one, two := cursor.New([]byte("aa")), cursor.New([]byte("aa"))
	for name, pair := range map[string][2][]byte{
		"Put":     {cursor.Put(300), cursor.Put(300)},
		"PutText": {cursor.PutText("abc"), cursor.PutText("abc")},
		"Bytes":   {one.Bytes(2), two.Bytes(2)},
	} {
		was := string(pair[1])
		clear(pair[0])
		if string(pair[1]) != was {
			t.Errorf("two answers of %s share memory", name)
		}
	}
}

// P1

func TestWhateverIsTakenEnds(t *testing.T) {
	draw := uint32(1)
	next := func(n int) int {
		draw = draw*1664525 + 1013904223
		return int(draw>>8) % n
	}
	pool := []byte{0, 1, 2, 3, 0x7f, 0x80, 0x81, 0xff}
	for range 20000 {
		b := make([]byte, next(24))
		for i := range b {
			b[i] = pool[next(len(pool))]
		}
		c := cursor.New(b)
		for range 6 {
			x := takers()[next(len(takers()))]
			good, left := c.Good(), c.Left()
			got := x.take(c)
			if c.Left() > left || c.Left() < 0 {
				t.Fatalf("%s of %x: %d left of %d", x.name, b, c.Left(), left)
			}
			if !c.Good() && (got != x.zero || c.Left() != left) {
				t.Fatalf("%s of %x takes %v with an error", x.name, b, got)
			}
			if !good && c.Good() {
				t.Fatalf("%s of %x forgets an error", x.name, b)
			}
		}
	}
}

func TestNilCursorGivesNothing(t *testing.T) {
	var c *cursor.Cursor
	for _, x := range takers() {
		if got := x.take(c); got != x.zero {
			t.Errorf("%s of a nil cursor takes %v", x.name, got)
		}
	}
	c.Fail(api.ErrPlan)
	holds(t, c, api.ErrCut, 0)
}
