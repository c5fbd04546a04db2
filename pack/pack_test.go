package pack_test

import (
	"bytes"
	"math"
	"slices"
	"testing"

	"hopper/api"
	"hopper/cursor"
	"hopper/pack"
)

const (
	greatest = 1<<32 - 1
	farthest = 1 << 20 // the last place that Get is asked for
)

// some answers n numbers of at most so many bits, the same each time.
func some(n, width int) []int {
	l := make([]int, n)
	draw := uint64(n*33+width) + 1
	for i := range l {
		draw = draw*6364136223846793005 + 1442695040888963407
		l[i] = int(draw>>31) & (1<<width - 1)
	}
	return l
}

// all answers n numbers x.
func all(n, x int) []int {
	return slices.Repeat([]int{x}, n)
}

// lists are numbers of at most so many bits: none, the least ones, the
// greatest ones, and others.
func lists(width int) [][]int {
	last := 1<<width - 1
	l := [][]int{nil, {}, {0}, {last}, {0, last}, {last, 0}, {last, 0, last}, all(9, 0), all(9, last)}
	for _, n := range []int{1, 2, 7, 8, 9, 31, 127, 128, 300} {
		l = append(l, some(n, width))
	}
	return l
}

// asWords packs numbers bit by bit, as the chapter's words say it.
func asWords(l []int, width int) []byte {
	b := make([]byte, (len(l)*width+7)/8)
	at := 0
	for _, x := range l {
		for k := range width {
			if x>>k&1 == 1 {
				b[at/8] |= 1 << (at % 8)
			}
			at++
		}
	}
	return b
}

// gotten is the i-th number of packed bytes bit by bit.
func gotten(b []byte, width, i int) int {
	x := 0
	for k := range width {
		if at := i*width + k; at/8 < len(b) && b[at/8]>>(at%8)&1 == 1 {
			x |= 1 << k
		}
	}
	return x
}

// asBytes is count, width and packed bytes, one behind the other.
func asBytes(count, width int, packed ...byte) []byte {
	return slices.Concat(cursor.Put(count), []byte{byte(width)}, packed)
}

// written are numbers with their bytes.
var written = []struct {
	l []int
	b []byte
}{
	{nil, []byte{0, 0}},
	{[]int{0}, []byte{1, 0}},
	{[]int{0, 0, 0}, []byte{3, 0}},
	{[]int{1}, []byte{1, 1, 1}},
	{[]int{0, 1}, []byte{2, 1, 2}},
	{[]int{1, 2, 3}, []byte{3, 2, 0x39}},
	{[]int{5, 0, 7, 1}, []byte{4, 3, 0xc5, 0x03}},
	{[]int{255}, []byte{1, 8, 0xff}},
	{[]int{256}, []byte{1, 9, 0, 1}},
	{[]int{0x1234, 0xabcd}, []byte{2, 16, 0x34, 0x12, 0xcd, 0xab}},
	{[]int{1 << 31}, []byte{1, 32, 0, 0, 0, 0x80}},
	{[]int{greatest}, []byte{1, 32, 0xff, 0xff, 0xff, 0xff}},
	{[]int{1, greatest}, []byte{2, 32, 1, 0, 0, 0, 0xff, 0xff, 0xff, 0xff}},
}

// misfits are numbers that can't be packed in any width.
func misfits() []int {
	return []int{-1, -2, -1 << 31, -greatest, -1 << 32, math.MinInt, greatest + 1, greatest + 2, 1 << 33, 1<<33 - 1, 1 << 62, math.MaxInt}
}

// wrongWidths are widths that numbers haven't.
func wrongWidths() []int {
	return []int{-1, -2, -8, -32, -64, math.MinInt, 33, 34, 40, 63, 64, 65, 256, math.MaxInt}
}

// refused checks that an answer is nothing and ErrArg.
func refused(t *testing.T, what string, b []byte, e api.Errno) {
	t.Helper()
	if e != api.ErrArg || len(b) != 0 {
		t.Errorf("%s is %x, %d", what, b, e)
	}
}

// reads checks that the numbers are taken from b, and so many bytes are left.
func reads(t *testing.T, b []byte, most int, want []int, left int) {
	t.Helper()
	c := cursor.New(b)
	if l := pack.Read(c, most); !slices.Equal(l, want) || !c.Good() || c.Left() != left {
		t.Errorf("Read of %x, at most %d: %v, error %d, %d left; not %v, %d left", b, most, l, c.End(), c.Left(), want, left)
	}
}

// fails checks that b isn't taken, with the error e.
func fails(t *testing.T, what string, b []byte, most int, e api.Errno) {
	t.Helper()
	c := cursor.New(b)
	if l := pack.Read(c, most); len(l) != 0 || c.Good() || c.End() != e {
		t.Errorf("%s: Read of %x, at most %d: %d numbers, error %d (good: %v); not %d", what, b, most, len(l), c.End(), c.Good(), e)
	}
}

// P3.1

func TestWidth(t *testing.T) {
	for _, x := range []struct {
		l     []int
		width int
	}{
		{nil, 0}, {[]int{}, 0}, {[]int{0}, 0}, {all(100, 0), 0}, {all(100, 1), 1}, {[]int{0, 1}, 1},
		{[]int{2}, 2}, {[]int{3}, 2}, {[]int{4}, 3}, {[]int{255}, 8}, {[]int{256}, 9},
		{[]int{1 << 31}, 32}, {[]int{1<<31 - 1}, 31}, {[]int{greatest}, 32},
		{[]int{9, 0, 0}, 4}, {[]int{0, 9, 0}, 4}, {[]int{0, 0, 9}, 4}, {[]int{3, 4, 4}, 3}, {[]int{1, 2, 4}, 3},
	} {
		if width := pack.Width(x.l); width != x.width {
			t.Errorf("Width of %v is %d, not %d", x.l, width, x.width)
		}
	}
}

func TestWidthAtEachEdge(t *testing.T) {
	for width := 1; width <= 32; width++ {
		for _, x := range []int{1 << (width - 1), 1<<(width-1) | 1, 1<<width - 1} {
			if got := pack.Width([]int{0, x, 1}); got != width {
				t.Errorf("Width of %d is %d, not %d", x, got, width)
			}
		}
	}
}

func TestPutOfKnownNumbers(t *testing.T) {
	for _, x := range []struct {
		l     []int
		width int
		b     []byte
	}{
		{[]int{1, 2, 3}, 2, []byte{0x39}},
		{[]int{5, 0, 7, 1}, 3, []byte{0xc5, 0x03}},
		{[]int{1, 2, 3}, 8, []byte{1, 2, 3}},
		{[]int{1, 2, 3}, 4, []byte{0x21, 0x03}},
		{[]int{1, 0, 1, 1, 0, 0, 0, 0, 1}, 1, []byte{0x0d, 1}},
		{[]int{1}, 32, []byte{1, 0, 0, 0}},
		{[]int{0x12345678}, 32, []byte{0x78, 0x56, 0x34, 0x12}},
		{[]int{greatest}, 32, []byte{255, 255, 255, 255}},
		{[]int{1<<31 - 1, 1}, 31, []byte{255, 255, 255, 255, 0, 0, 0, 0}},
	} {
		if b, e := pack.Put(x.l, x.width); e != api.OK || !bytes.Equal(b, x.b) {
			t.Errorf("Put of %v in %d is %x, %d; not %x", x.l, x.width, b, e, x.b)
		}
	}
}

func TestPutIsWhatTheWordsSay(t *testing.T) {
	for width := range 33 {
		for _, l := range lists(width) {
			want := asWords(l, width)
			if b, e := pack.Put(l, width); e != api.OK || !bytes.Equal(b, want) {
				t.Errorf("Put of %v in %d is %x, %d; not %x", l, width, b, e, want)
			}
		}
	}
}

func TestPutInMoreBitsThanNeeded(t *testing.T) {
	for width := range 33 {
		l := some(21, width)
		for wide := width; wide <= 32; wide++ {
			want := asWords(l, wide)
			if b, e := pack.Put(l, wide); e != api.OK || !bytes.Equal(b, want) {
				t.Errorf("Put of %v in %d is %x, %d; not %x", l, wide, b, e, want)
			}
		}
	}
}

func TestPutOfNothing(t *testing.T) {
	for width := range 33 {
		for _, l := range [][]int{nil, {}} {
			if b, e := pack.Put(l, width); e != api.OK || len(b) != 0 {
				t.Errorf("Put of no numbers in %d is %x, %d", width, b, e)
			}
		}
	}
	if b, e := pack.Put(all(100, 0), 0); e != api.OK || len(b) != 0 {
		t.Errorf("Put of zeros in no bits is %x, %d", b, e)
	}
}

func TestPutLeavesZeroBits(t *testing.T) {
	for width := 1; width <= 32; width++ {
		for n := range 17 {
			b, _ := pack.Put(all(n, 1<<width-1), width)
			if len(b) != (n*width+7)/8 {
				t.Fatalf("Put of %d numbers in %d has %d bytes", n, width, len(b))
			}
			if used := n * width % 8; used > 0 && b[len(b)-1] != 1<<used-1 {
				t.Errorf("Put of %d numbers in %d ends with %x", n, width, b[len(b)-1])
			}
		}
	}
}

func TestPutInAnotherWidth(t *testing.T) {
	for _, width := range wrongWidths() {
		for _, l := range [][]int{nil, {0}, {0, 0}, {1}, {greatest}, {-1}} {
			b, e := pack.Put(l, width)
			refused(t, "Put in another width", b, e)
		}
	}
}

func TestPutOfWhatDoesNotFit(t *testing.T) {
	for width := range 33 {
		for _, x := range append(misfits(), 1<<width, 1<<width+1, 1<<width|1<<40) {
			for place := range 3 {
				l := all(3, 1<<width-1)
				l[place] = x
				b, e := pack.Put(l, width)
				refused(t, "Put of what doesn't fit", b, e)
			}
		}
		if _, e := pack.Put([]int{1<<width - 1}, width); e != api.OK {
			t.Errorf("what just fits %d doesn't", width)
		}
	}
}

func TestGetIsWhatTheWordsSay(t *testing.T) {
	pool := make([]byte, 37)
	for i := range pool {
		pool[i] = byte(i*167 + 201)
	}
	for _, b := range [][]byte{nil, {}, {0}, {255}, {0x39}, bytes.Repeat([]byte{255}, 9), pool} {
		for width := range 33 {
			for i := range 320 {
				if x, want := pack.Get(b, width, i), gotten(b, width, i); x != want {
					t.Fatalf("Get of %x, %d, %d is %d, not %d", b, width, i, x, want)
				}
			}
		}
	}
}

func TestGetOfBitsThatAreNotThere(t *testing.T) {
	b := []byte{255, 255, 255}
	for _, x := range []struct{ width, i, want int }{
		{5, 3, 31}, {5, 4, 15}, {5, 5, 0}, {7, 2, 127}, {7, 3, 7}, {7, 4, 0},
		{8, 2, 255}, {8, 3, 0}, {16, 1, 255}, {16, 2, 0}, {24, 0, 1<<24 - 1}, {24, 1, 0},
		{25, 0, 1<<24 - 1}, {32, 0, 1<<24 - 1}, {32, 1, 0}, {23, 1, 1}, {1, 23, 1}, {1, 24, 0}, {0, 0, 0}, {0, 5, 0},
	} {
		if got := pack.Get(b, x.width, x.i); got != x.want {
			t.Errorf("Get of three bytes 255, %d, %d is %d, not %d", x.width, x.i, got, x.want)
		}
	}
	for width := range 33 {
		for _, i := range []int{25, 1000, 4096, 65536, farthest - 1, farthest} {
			if x := pack.Get(b, width, i) | pack.Get(nil, width, i); x != 0 {
				t.Errorf("Get of %d, %d is %d", width, i, x)
			}
		}
	}
}

func TestGetAtTheFarthestPlace(t *testing.T) {
	for _, width := range []int{1, 7, 32} {
		l := all(farthest+1, 0)
		l[farthest-1], l[farthest] = 1, 1<<width-1
		b, e := pack.Put(l, width)
		if e != api.OK || len(b) != (len(l)*width+7)/8 {
			t.Fatalf("Put of %d numbers in %d: %d bytes, %d", len(l), width, len(b), e)
		}
		if x, y, z := pack.Get(b, width, farthest-2), pack.Get(b, width, farthest-1), pack.Get(b, width, farthest); x != 0 || y != 1 || z != 1<<width-1 {
			t.Errorf("Get at the farthest places, in %d: %d, %d, %d", width, x, y, z)
		}
	}
}

// P3.2

func TestWrite(t *testing.T) {
	for _, x := range written {
		if b, e := pack.Write(x.l); e != api.OK || !bytes.Equal(b, x.b) {
			t.Errorf("Write of %v is %x, %d; not %x", x.l, b, e, x.b)
		}
	}
}

func TestWriteInTheLeastWidth(t *testing.T) {
	for width := range 33 {
		for _, l := range lists(width) {
			least := pack.Width(l)
			want := asBytes(len(l), least, asWords(l, least)...)
			if b, e := pack.Write(l); e != api.OK || !bytes.Equal(b, want) {
				t.Errorf("Write of %v is %x, %d; not %x", l, b, e, want)
			}
		}
	}
}

func TestWriteOfOtherNumbers(t *testing.T) {
	for _, x := range misfits() {
		for place := range 3 {
			l := []int{7, 0, greatest}
			l[place] = x
			b, e := pack.Write(l)
			refused(t, "Write of other numbers", b, e)
		}
		b, e := pack.Write([]int{x})
		refused(t, "Write of another number", b, e)
	}
	if _, e := pack.Write([]int{0, greatest}); e != api.OK {
		t.Errorf("Write of 0 and 2^32 - 1 is refused: %d", e)
	}
}

func TestRead(t *testing.T) {
	for _, x := range written {
		reads(t, x.b, len(x.l), x.l, 0)
		reads(t, append(slices.Clone(x.b), 1, 2, 3), 1000, x.l, 3)
		reads(t, x.b, math.MaxInt, x.l, 0)
	}
	many := some(300, 5)
	reads(t, asBytes(300, 5, asWords(many, 5)...), 300, many, 0)
}

func TestReadOneBehindTheOther(t *testing.T) {
	var b []byte
	for _, x := range written {
		b = append(b, x.b...)
	}
	c := cursor.New(b)
	for _, x := range written {
		if l := pack.Read(c, 4); !slices.Equal(l, x.l) {
			t.Fatalf("%v is taken as %v", x.l, l)
		}
	}
	if c.End() != api.OK {
		t.Errorf("error %d, %d left", c.End(), c.Left())
	}
}

func TestReadOfAtMost(t *testing.T) {
	for _, x := range written {
		reads(t, x.b, len(x.l), x.l, 0)
		fails(t, "above most", x.b, len(x.l)-1, api.ErrForm)
		for _, most := range []int{-1, -2, math.MinInt} {
			fails(t, "above one below 0", x.b, most, api.ErrForm)
		}
	}
	fails(t, "above most, cut", []byte{5}, 4, api.ErrForm)
	fails(t, "above most, width above 32", []byte{5, 33}, 4, api.ErrForm)
}

func TestReadOfTooWide(t *testing.T) {
	for width := 33; width < 256; width++ {
		fails(t, "width above 32", asBytes(1, width, bytes.Repeat([]byte{255}, 40)...), 9, api.ErrForm)
		fails(t, "width above 32, no numbers", asBytes(0, width), 9, api.ErrForm)
		fails(t, "width above 32, cut", asBytes(3, width), 9, api.ErrForm)
	}
}

func TestReadOfAnotherWidth(t *testing.T) {
	for width := range 33 {
		for _, l := range lists(width) {
			least := pack.Width(l)
			for wide := least + 1; wide <= 32; wide++ {
				fails(t, "wider than it needs", asBytes(len(l), wide, asWords(l, wide)...), 1000, api.ErrForm)
			}
		}
	}
}

func TestReadOfBitsThatAreLeft(t *testing.T) {
	for width := 1; width <= 32; width++ {
		for n := 1; n < 9; n++ {
			l := all(n, 1<<width-1)
			b := asBytes(n, width, asWords(l, width)...)
			reads(t, b, 9, l, 0)
			for bit := n * width; bit%8 != 0; bit++ {
				turned := slices.Clone(b)
				turned[2+bit/8] |= 1 << (bit % 8)
				fails(t, "a bit that is left", turned, 9, api.ErrForm)
			}
		}
	}
}

func TestReadOfBytesThatEndTooSoon(t *testing.T) {
	for _, x := range written {
		for n := range x.b {
			fails(t, "cut", x.b[:n], 9, api.ErrCut)
		}
	}
	long := asBytes(300, 7, asWords(some(300, 7), 7)...)
	for n := range long {
		fails(t, "cut", long[:n], 300, api.ErrCut)
	}
	fails(t, "cut, wider than it needs", []byte{9, 32, 0, 0}, 9, api.ErrCut)
	fails(t, "cut behind bits that are left", []byte{9, 1, 0xff}, 9, api.ErrCut)
}

func TestReadOfNoVarint(t *testing.T) {
	fails(t, "longer than it needs", []byte{0x81, 0, 1, 1}, 9, api.ErrForm)
	fails(t, "ten bytes", append(bytes.Repeat([]byte{0x80}, 9), 1, 1, 1), math.MaxInt, api.ErrForm)
	fails(t, "cut", []byte{0x80}, 9, api.ErrCut)
}

func TestReadOfGreatCounts(t *testing.T) {
	for _, count := range []int{1 << 20, 1<<31 - 1, 1 << 31, 1 << 40, 1 << 58, 1 << 59, 1 << 61, math.MaxInt} {
		fails(t, "above most", asBytes(count, 0), 1<<20-1, api.ErrForm)
		for _, width := range []int{1, 8, 31, 32} {
			c := cursor.New(asBytes(count, width, 255, 255))
			if l := pack.Read(c, math.MaxInt); len(l) != 0 || c.Good() {
				t.Errorf("%d numbers of width %d are taken from two bytes", count, width)
			}
		}
	}
	for _, count := range []int{1 << 31, 1 << 40, 1 << 58, math.MaxInt} {
		fails(t, "more than one result may have", asBytes(count, 0), math.MaxInt, api.ErrForm)
	}
	reads(t, asBytes(1<<20, 0), 1<<20, all(1<<20, 0), 0)
}

func TestReadBehindAnError(t *testing.T) {
	for _, e := range []api.Errno{api.ErrArg, api.ErrCut, api.ErrForm, api.ErrPlan, api.ErrPattern} {
		for _, b := range [][]byte{{1, 1, 1}, {0, 0}, {9, 33}, {1, 2, 1}, {1, 1}} {
			c := cursor.New(b)
			c.Fail(e)
			if l := pack.Read(c, 4); len(l) != 0 || c.End() != e || c.Left() != len(b) {
				t.Errorf("behind error %d: %v, error %d, %d left", e, l, c.End(), c.Left())
			}
		}
	}
}

func TestReadKeepsItsError(t *testing.T) {
	c := cursor.New([]byte{5, 1, 1, 1, 1})
	pack.Read(c, 4)
	c.Fail(api.ErrPlan)
	if l := pack.Read(c, 9); len(l) != 0 || c.End() != api.ErrForm {
		t.Errorf("behind its error: %v, error %d", l, c.End())
	}
}

// P3.3

func TestWhatIsPackedIsGot(t *testing.T) {
	for width := range 33 {
		for _, l := range lists(width) {
			b, _ := pack.Put(l, width)
			for i, x := range l {
				if got := pack.Get(b, width, i); got != x {
					t.Fatalf("%d of width %d, at %d, is got as %d", x, width, i, got)
				}
			}
			if got := pack.Get(b, width, len(l)); got != 0 {
				t.Fatalf("behind %d numbers of width %d stands %d", len(l), width, got)
			}
		}
	}
}

func TestWhatIsWrittenIsRead(t *testing.T) {
	for width := range 33 {
		for _, l := range lists(width) {
			b, e := pack.Write(l)
			if e != api.OK {
				t.Fatalf("Write of %v: %d", l, e)
			}
			reads(t, b, len(l), l, 0)
		}
	}
}

func TestWhatIsReadIsWritten(t *testing.T) {
	stands := func(b []byte) {
		c := cursor.New(b)
		l := pack.Read(c, 9)
		if !c.Good() {
			return
		}
		taken := b[:len(b)-c.Left()]
		if again, e := pack.Write(l); e != api.OK || !bytes.Equal(again, taken) {
			t.Fatalf("%x is read as %v, which is written as %x, %d", taken, l, again, e)
		}
	}
	for count := range 10 {
		for width := range 34 {
			for i := range 1 << 8 {
				stands(asBytes(count, width, byte(i)))
				stands(asBytes(count, width, byte(i), 5))
				stands(asBytes(count, width, 0xa5, byte(i)))
				stands(asBytes(count, width, bytes.Repeat([]byte{byte(i)}, 36)...))
			}
		}
	}
}

// P3.4

func TestWhatIsHandedInStays(t *testing.T) {
	l := some(40, 9)
	was := slices.Clone(l)
	pack.Width(l[:20])
	pack.Put(l[:20], 9)
	pack.Put(l[:20], 3)
	pack.Write(l[:20])
	if !slices.Equal(l, was) {
		t.Errorf("what is handed in became %v", l)
	}
	b := []byte{3, 2, 0x39, 7, 7}
	pack.Get(b[:3], 5, 2)
	pack.Get(b[:3], 32, 0)
	pack.Read(cursor.New(b[:3]), 3)
	if !bytes.Equal(b, []byte{3, 2, 0x39, 7, 7}) {
		t.Errorf("what is handed in became %x", b)
	}
}

func TestAnswersAreNewMemory(t *testing.T) {
	l := []int{1, 2, 3}
	for name, put := range map[string]func() []byte{
		"Put":   func() []byte { b, _ := pack.Put(l, 8); return b },
		"Write": func() []byte { b, _ := pack.Write(l); return b },
	} {
		one, two := put(), put()
		was := string(two)
		clear(one)
		_ = append(one, 9, 9, 9)
		if string(two) != was || string(put()) != was {
			t.Errorf("two answers of %s share memory", name)
		}
	}
	if !slices.Equal(l, []int{1, 2, 3}) {
		t.Errorf("answers share memory with what is handed in, now %v", l)
	}
}

func TestReadAnswersNewMemory(t *testing.T) {
	b := []byte{2, 8, 4, 200, 2, 8, 4, 200}
	c := cursor.New(b)
	one := pack.Read(c, 2)
	clear(one)
	_ = append(one, 9, 9)
	if two := pack.Read(c, 2); !slices.Equal(two, []int{4, 200}) {
		t.Errorf("two answers of Read share memory: %v", two)
	}
	if !bytes.Equal(b, []byte{2, 8, 4, 200, 2, 8, 4, 200}) {
		t.Errorf("what is handed in became %x", b)
	}
}

// P1

func TestWhateverIsReadEnds(t *testing.T) {
	draw := uint32(1)
	next := func(n int) int {
		draw = draw*1664525 + 1013904223
		return int(draw>>8) % n
	}
	for range 50000 {
		b := make([]byte, next(20))
		for i := range b {
			b[i] = byte(next(256) >> next(9))
		}
		c := cursor.New(b)
		l := pack.Read(c, 1000)
		if !c.Good() && len(l) != 0 {
			t.Fatalf("%x is read as %v, with error %d", b, l, c.End())
		}
		if c.Good() && len(b)-c.Left() < 2 {
			t.Fatalf("%x is read as %v", b, l)
		}
	}
}

func TestWhateverIsAskedEnds(t *testing.T) {
	b := []byte{1, 2, 3, 4, 5, 6, 7, 8, 9}
	edges := slices.Concat(misfits(), wrongWidths(), []int{0, 1, 7, 8, 31, 32, farthest, farthest + 1, math.MaxInt / 32, math.MaxInt/32 + 1})
	for _, width := range edges {
		for _, i := range edges {
			pack.Get(b, width, i)
			pack.Get(nil, width, i)
			pack.Put([]int{i}, width)
		}
		pack.Width([]int{width})
		pack.Width([]int{width, 1, width})
	}
}

func TestNilCursorGivesNothing(t *testing.T) {
	for _, most := range []int{math.MinInt, 0, 4, math.MaxInt} {
		if l := pack.Read(nil, most); len(l) != 0 {
			t.Errorf("Read of a nil cursor is %v", l)
		}
	}
}
