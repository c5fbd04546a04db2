package bitmap_test

import (
	"bytes"
	"math"
	"slices"
	"testing"

	"hopper/api"
	"hopper/bitmap"
	"hopper/cursor"
)

// rows are those of a text, where 1 is so.
func rows(s string) []bool {
	l := make([]bool, len(s))
	for i := range s {
		l[i] = s[i] == '1'
	}
	return l
}

// ofNumber are n rows, so where the number's bits are 1, the lowest first.
func ofNumber(n, number int) []bool {
	l := make([]bool, n)
	for i := range l {
		l[i] = number>>i&1 == 1
	}
	return l
}

// all answers n rows that are all so, or none.
func all(n int, so bool) []bool {
	return slices.Repeat([]bool{so}, n)
}

// some answers n rows of both sorts, the same each time.
func some(n int) []bool {
	l := make([]bool, n)
	draw := uint32(n) + 7
	for i := range l {
		draw = draw*1664525 + 1013904223
		l[i] = draw>>31 == 1
	}
	return l
}

// lists are rows of all sorts: each list of few rows, and some of more.
func lists() [][]bool {
	l := [][]bool{nil, {}}
	for n := 1; n < 11; n++ {
		for number := range 1 << n {
			l = append(l, ofNumber(n, number))
		}
	}
	for _, n := range []int{11, 15, 16, 17, 63, 64, 65, 127, 128, 129, 1000, 1023, 1024, 1025, api.MaxRows} {
		l = append(l, some(n), all(n, false), all(n, true))
	}
	return l
}

// asWords is the bitmap's bytes, as the chapter's words say it: a byte is the
// sum of what its rows' bits are worth.
func asWords(l []bool) []byte {
	var b []byte
	for byteRows := range slices.Chunk(l, 8) {
		sum, worth := 0, 1
		for _, so := range byteRows {
			if so {
				sum += worth
			}
			worth *= 2
		}
		b = append(b, byte(sum))
	}
	return b
}

// packed is a count and bytes, one behind the other.
func packed(count int, b ...byte) []byte {
	return slices.Concat(cursor.Put(count), b)
}

// written are rows with their bytes.
var written = []struct {
	l string
	b []byte
}{
	{"", nil},
	{"0", []byte{0}},
	{"1", []byte{1}},
	{"101", []byte{5}},
	{"0000001", []byte{0x40}},
	{"1111111", []byte{0x7f}},
	{"00000000", []byte{0}},
	{"10000000", []byte{1}},
	{"00000001", []byte{0x80}},
	{"11111111", []byte{0xff}},
	{"000000000", []byte{0, 0}},
	{"000000001", []byte{0, 1}},
	{"110010011", []byte{0x93, 1}},
	{"111111111", []byte{0xff, 1}},
	{"0000000000000001", []byte{0, 0x80}},
	{"10000000000000001", []byte{1, 0, 1}},
}

// reads checks that the rows are taken from b, and so many bytes are left.
func reads(t *testing.T, b []byte, most int, want []bool, left int) {
	t.Helper()
	c := cursor.New(b)
	if l := bitmap.Read(c, most); !slices.Equal(l, want) || !c.Good() || c.Left() != left {
		t.Errorf("Read of %x, at most %d: %v, error %d, %d left; not %v, %d left", b, most, l, c.End(), c.Left(), want, left)
	}
}

// fails checks that b isn't taken, with the error e.
func fails(t *testing.T, what string, b []byte, most int, e api.Errno) {
	t.Helper()
	c := cursor.New(b)
	if l := bitmap.Read(c, most); len(l) != 0 || c.Good() || c.End() != e {
		t.Errorf("%s: Read of %x, at most %d: %d rows, error %d (good: %v); not %d", what, b, most, len(l), c.End(), c.Good(), e)
	}
}

// P4.1

func TestPut(t *testing.T) {
	for _, x := range written {
		if b := bitmap.Put(rows(x.l)); !bytes.Equal(b, x.b) {
			t.Errorf("Put of %s is %x, not %x", x.l, b, x.b)
		}
	}
	for _, l := range lists() {
		if b := bitmap.Put(l); !bytes.Equal(b, asWords(l)) {
			t.Errorf("Put of %v is %x, not %x", l, b, asWords(l))
		}
	}
}

func TestPutLeavesZeroBits(t *testing.T) {
	for n := 1; n < 40; n++ {
		b := bitmap.Put(all(n, true))
		if len(b) != (n+7)/8 {
			t.Fatalf("Put of %d rows has %d bytes", n, len(b))
		}
		if used := n % 8; used > 0 && b[len(b)-1] != 1<<used-1 {
			t.Errorf("Put of %d rows that are so ends with %x", n, b[len(b)-1])
		}
	}
}

func TestWrite(t *testing.T) {
	for _, x := range written {
		want := append([]byte{byte(len(x.l))}, x.b...)
		if b := bitmap.Write(rows(x.l)); !bytes.Equal(b, want) {
			t.Errorf("Write of %s is %x, not %x", x.l, b, want)
		}
	}
	for _, l := range lists() {
		want := packed(len(l), asWords(l)...)
		if b := bitmap.Write(l); !bytes.Equal(b, want) {
			t.Errorf("Write of %v is %x, not %x", l, b, want)
		}
	}
}

func TestWriteOfManyRowsHasALongerCount(t *testing.T) {
	b := bitmap.Write(all(300, true))
	if len(b) != 2+38 || b[0] != 0xac || b[1] != 2 || b[2] != 0xff || b[39] != 0x0f {
		t.Errorf("Write of 300 rows is %x", b)
	}
}

func TestRead(t *testing.T) {
	for _, x := range written {
		l, b := rows(x.l), packed(len(x.l), x.b...)
		reads(t, b, len(l), l, 0)
		reads(t, b, math.MaxInt, l, 0)
		reads(t, append(b, 1, 0xff, 0), 1000, l, 3)
	}
	for _, l := range lists() {
		reads(t, packed(len(l), asWords(l)...), len(l), l, 0)
	}
}

func TestReadOneBehindTheOther(t *testing.T) {
	var b []byte
	for _, x := range written {
		b = append(b, packed(len(x.l), x.b...)...)
	}
	c := cursor.New(b)
	for _, x := range written {
		if l := bitmap.Read(c, 17); !slices.Equal(l, rows(x.l)) {
			t.Fatalf("%s is taken as %v", x.l, l)
		}
	}
	if c.End() != api.OK {
		t.Errorf("error %d, %d left", c.End(), c.Left())
	}
}

func TestReadOfAtMost(t *testing.T) {
	for _, x := range written {
		l, b := rows(x.l), packed(len(x.l), x.b...)
		reads(t, b, len(l), l, 0)
		reads(t, b, len(l)+1, l, 0)
		fails(t, "above most", b, len(l)-1, api.ErrForm)
		for _, most := range []int{-1, -2, math.MinInt} {
			fails(t, "above one below 0", b, most, api.ErrForm)
		}
	}
	fails(t, "above most, cut", []byte{5}, 4, api.ErrForm)
	fails(t, "above most, bits that are left", []byte{5, 0xff}, 4, api.ErrForm)
	fails(t, "above 0", []byte{1, 1}, 0, api.ErrForm)
}

func TestReadOfBitsThatAreLeft(t *testing.T) {
	for n := 1; n < 26; n++ {
		for _, l := range [][]bool{all(n, true), all(n, false), some(n)} {
			b := packed(n, asWords(l)...)
			reads(t, b, 30, l, 0)
			for bit := n; bit%8 != 0; bit++ {
				turned := slices.Clone(b)
				turned[1+bit/8] |= 1 << (bit % 8)
				fails(t, "a bit that is left", turned, 30, api.ErrForm)
				fails(t, "a bit that is left, more bytes behind it", append(turned, 0, 0), 30, api.ErrForm)
			}
		}
	}
}

func TestReadOfBytesThatEndTooSoon(t *testing.T) {
	for _, x := range written {
		b := packed(len(x.l), x.b...)
		for n := range b {
			fails(t, "cut", b[:n], 99, api.ErrCut)
		}
	}
	long := packed(api.MaxRows, asWords(some(api.MaxRows))...)
	for n := range long {
		fails(t, "cut", long[:n], api.MaxRows, api.ErrCut)
	}
	fails(t, "cut ahead of bits that are left", []byte{17, 0xff, 0xff}, 17, api.ErrCut)
}

func TestReadOfNoVarint(t *testing.T) {
	fails(t, "longer than it needs", []byte{0x81, 0, 1}, 9, api.ErrForm)
	fails(t, "longer than it needs, no rows", []byte{0x80, 0}, 9, api.ErrForm)
	fails(t, "ten bytes", append(bytes.Repeat([]byte{0x80}, 9), 1, 1), math.MaxInt, api.ErrForm)
	fails(t, "cut", []byte{0x80}, 9, api.ErrCut)
}

func TestReadOfGreatCounts(t *testing.T) {
	for _, count := range []int{1 << 20, 1 << 31, 1 << 40, 1 << 60, math.MaxInt - 8, math.MaxInt - 7, math.MaxInt - 1, math.MaxInt} {
		fails(t, "cut", packed(count), math.MaxInt, api.ErrCut)
		fails(t, "cut", packed(count, 0, 0xff, 0, 0xff), count, api.ErrCut)
		fails(t, "above most", packed(count, 0, 0xff, 0, 0xff), count-1, api.ErrForm)
	}
}

func TestReadBehindAnError(t *testing.T) {
	for _, e := range []api.Errno{api.ErrArg, api.ErrCut, api.ErrForm, api.ErrPlan, api.ErrPattern} {
		for _, b := range [][]byte{{3, 5}, {0}, {9, 0xff, 1}, {9, 0xff}, {1, 2}, nil} {
			c := cursor.New(b)
			c.Fail(e)
			if l := bitmap.Read(c, 4); len(l) != 0 || c.Good() || c.End() != e || c.Left() != len(b) {
				t.Errorf("behind error %d: %v, error %d, %d left", e, l, c.End(), c.Left())
			}
		}
	}
}

func TestReadKeepsItsError(t *testing.T) {
	for _, b := range [][]byte{{5, 1, 1, 1, 1}, {1, 2, 1, 1, 1}} {
		c := cursor.New(b)
		bitmap.Read(c, 4)
		left := c.Left()
		c.Fail(api.ErrPlan)
		if l := bitmap.Read(c, 9); len(l) != 0 || c.End() != api.ErrForm || c.Left() != left {
			t.Errorf("behind its error: %v, error %d, %d left", l, c.End(), c.Left())
		}
	}
}

// P4.2

func TestCount(t *testing.T) {
	for s, want := range map[string]int{"": 0, "0": 0, "1": 1, "101": 2, "0000000": 0, "11111111": 8, "100000001": 2, "110010011": 5} {
		if n := bitmap.Count(rows(s)); n != want {
			t.Errorf("Count of %s is %d, not %d", s, n, want)
		}
	}
	for _, n := range []int{0, 1, 7, 8, 9, 64, 65, api.MaxRows} {
		if none, each := bitmap.Count(all(n, false)), bitmap.Count(all(n, true)); none != 0 || each != n {
			t.Errorf("of %d rows %d and %d are so", n, none, each)
		}
	}
}

func TestRank(t *testing.T) {
	for _, l := range lists() {
		n := 0
		for i, so := range l {
			if got := bitmap.Rank(l, i); got != n {
				t.Fatalf("Rank of %v, %d is %d, not %d", l, i, got, n)
			}
			if so {
				n++
			}
		}
		for _, i := range []int{len(l), len(l) + 1, len(l) + 8, 1 << 40, math.MaxInt} {
			if got := bitmap.Rank(l, i); got != n {
				t.Errorf("Rank of %v, %d is %d, not %d", l, i, got, n)
			}
		}
		for _, i := range []int{0, -1, -8, -1 << 40, math.MinInt} {
			if got := bitmap.Rank(l, i); got != 0 {
				t.Errorf("Rank of %v, %d is %d", l, i, got)
			}
		}
	}
}

func TestRankEndsAtTheLength(t *testing.T) {
	l := all(20, true)
	if n := bitmap.Rank(l[:9], 20); n != 9 {
		t.Errorf("Rank of 9 rows, 20 is %d", n)
	}
}

func TestAndOrNot(t *testing.T) {
	a, b := rows("1100"), rows("1010")
	for _, x := range []struct {
		what string
		l    []bool
		want string
	}{
		{"And", bitmap.And(a, b), "1000"}, {"Or", bitmap.Or(a, b), "1110"},
		{"Not of a", bitmap.Not(a), "0011"}, {"Not of b", bitmap.Not(b), "0101"},
	} {
		if !slices.Equal(x.l, rows(x.want)) {
			t.Errorf("%s is %v, not %s", x.what, x.l, x.want)
		}
	}
}

func TestAndOrNotRowByRow(t *testing.T) {
	for _, n := range []int{0, 1, 7, 8, 9, 64, 65, 1000, api.MaxRows} {
		a, b := some(n), some(n + 1)[:n]
		and, or, not := bitmap.And(a, b), bitmap.Or(a, b), bitmap.Not(a)
		if len(and) != n || len(or) != n || len(not) != n {
			t.Fatalf("of %d rows: And %d, Or %d, Not %d", n, len(and), len(or), len(not))
		}
		for i := range n {
			if and[i] != (a[i] && b[i]) || or[i] != (a[i] || b[i]) || not[i] == a[i] {
				t.Errorf("of %d rows, %d: %v and %v: And %v, Or %v, Not %v", n, i, a[i], b[i], and[i], or[i], not[i])
			}
		}
	}
}

func TestAndOrOfOtherLengths(t *testing.T) {
	lengths := []int{0, 1, 2, 7, 8, 9, 10, 100}
	for _, n := range lengths {
		for _, m := range lengths {
			want := n
			if n != m {
				want = 0
			}
			a, b := all(n, true), all(m, true)
			if and, or := bitmap.And(a, b), bitmap.Or(a, b); len(and) != want || len(or) != want {
				t.Errorf("of %d and %d rows: And %v, Or %v", n, m, and, or)
			}
		}
	}
	if and, or := bitmap.And(nil, []bool{}), bitmap.Or([]bool{}, nil); len(and) != 0 || len(or) != 0 {
		t.Errorf("of no rows: And %v, Or %v", and, or)
	}
	if and, or := bitmap.And(nil, all(1, true)), bitmap.Or(all(1, true), nil); len(and) != 0 || len(or) != 0 {
		t.Errorf("of no rows and one: And %v, Or %v", and, or)
	}
}

// P4.3

func TestWhatIsWrittenIsRead(t *testing.T) {
	for _, l := range lists() {
		reads(t, bitmap.Write(l), len(l), l, 0)
	}
}

func TestWhatIsReadIsWritten(t *testing.T) {
	taken := 0
	for count := range 19 {
		for x := range 1 << 8 {
			for _, b := range [][]byte{{byte(x)}, {byte(x), 1}, {0xa5, byte(x)}, {0, 0xff, byte(x), 0x80}} {
				b = packed(count, b...)
				c := cursor.New(b)
				l := bitmap.Read(c, 17)
				if !c.Good() {
					continue
				}
				taken++
				if again := bitmap.Write(l); !bytes.Equal(again, b[:len(b)-c.Left()]) {
					t.Fatalf("%x is read as %v, which is written as %x", b, l, again)
				}
			}
		}
	}
	if taken == 0 {
		t.Error("nothing is read")
	}
}

func TestRulesOfTwo(t *testing.T) {
	for n := range 6 {
		for x := range 1 << n {
			for y := range 1 << n {
				a, b := ofNumber(n, x), ofNumber(n, y)
				and, or := bitmap.And(a, b), bitmap.Or(a, b)
				holds(t, "And of two, turned round", and, bitmap.And(b, a))
				holds(t, "Or of two, turned round", or, bitmap.Or(b, a))
				holds(t, "Not of And", bitmap.Not(and), bitmap.Or(bitmap.Not(a), bitmap.Not(b)))
				holds(t, "Not of Or", bitmap.Not(or), bitmap.And(bitmap.Not(a), bitmap.Not(b)))
				holds(t, "And with Or", bitmap.And(a, or), a)
				holds(t, "Or with And", bitmap.Or(a, and), a)
				if bitmap.Count(and)+bitmap.Count(or) != bitmap.Count(a)+bitmap.Count(b) {
					t.Errorf("%v and %v: And %v, Or %v", a, b, and, or)
				}
			}
		}
	}
}

func TestRulesOfThree(t *testing.T) {
	for x := range 1 << 9 {
		a, b, c := ofNumber(3, x), ofNumber(3, x>>3), ofNumber(3, x>>6)
		holds(t, "And of three", bitmap.And(a, bitmap.And(b, c)), bitmap.And(bitmap.And(a, b), c))
		holds(t, "Or of three", bitmap.Or(a, bitmap.Or(b, c)), bitmap.Or(bitmap.Or(a, b), c))
		holds(t, "And of Or", bitmap.And(a, bitmap.Or(b, c)), bitmap.Or(bitmap.And(a, b), bitmap.And(a, c)))
		holds(t, "Or of And", bitmap.Or(a, bitmap.And(b, c)), bitmap.And(bitmap.Or(a, b), bitmap.Or(a, c)))
	}
}

func TestRulesOfOne(t *testing.T) {
	for _, a := range lists() {
		none, each := all(len(a), false), all(len(a), true)
		not := bitmap.Not(a)
		holds(t, "Not of Not", bitmap.Not(not), a)
		holds(t, "And with itself", bitmap.And(a, a), a)
		holds(t, "Or with itself", bitmap.Or(a, a), a)
		holds(t, "And with its Not", bitmap.And(a, not), none)
		holds(t, "Or with its Not", bitmap.Or(a, not), each)
		holds(t, "And with none", bitmap.And(a, none), none)
		holds(t, "Or with none", bitmap.Or(a, none), a)
		holds(t, "And with all", bitmap.And(a, each), a)
		holds(t, "Or with all", bitmap.Or(a, each), each)
		if bitmap.Count(a)+bitmap.Count(not) != len(a) || bitmap.Rank(a, len(a)) != bitmap.Count(a) {
			t.Errorf("of %v %d are so, of its Not %d", a, bitmap.Count(a), bitmap.Count(not))
		}
	}
}

// holds checks that two lists are alike.
func holds(t *testing.T, rule string, l, want []bool) {
	t.Helper()
	if !slices.Equal(l, want) {
		t.Errorf("%s: %v is not %v", rule, l, want)
	}
}

// P4.4

func TestWhatIsHandedInStays(t *testing.T) {
	a, b := some(40), some(41)
	wasA, wasB := slices.Clone(a), slices.Clone(b)
	bitmap.Put(a[:9])
	bitmap.Write(a[:9])
	bitmap.Count(a[:9])
	bitmap.Rank(a[:9], 30)
	bitmap.And(a[:9], b[:9])
	bitmap.Or(a[:9], b[:9])
	bitmap.And(a[:9], b[:7])
	bitmap.Not(a[:9])
	if !slices.Equal(a, wasA) || !slices.Equal(b, wasB) {
		t.Errorf("what is handed in became %v and %v", a, b)
	}
	p := []byte{9, 0xa5, 1, 7, 7}
	bitmap.Read(cursor.New(p[:3]), 9)
	if !bytes.Equal(p, []byte{9, 0xa5, 1, 7, 7}) {
		t.Errorf("what is handed in became %x", p)
	}
}

func TestBytesAreNewMemory(t *testing.T) {
	l := some(20)
	was := slices.Clone(l)
	for name, put := range map[string]func([]bool) []byte{"Put": bitmap.Put, "Write": bitmap.Write} {
		one, two := put(l), put(l)
		stood := string(two)
		clear(one)
		_ = append(one, 9, 9, 9)
		if string(two) != stood || string(put(l)) != stood {
			t.Errorf("two answers of %s share memory", name)
		}
	}
	if !slices.Equal(l, was) {
		t.Errorf("what is handed in became %v", l)
	}
}

func TestRowsAreNewMemory(t *testing.T) {
	each, none := all(9, true), all(9, false)
	for name, made := range map[string]func() []bool{
		"And":              func() []bool { return bitmap.And(each, each) },
		"And with none":    func() []bool { return bitmap.And(each, none) },
		"Or":               func() []bool { return bitmap.Or(each, each) },
		"Or with none":     func() []bool { return bitmap.Or(each, none) },
		"Not":              func() []bool { return bitmap.Not(none) },
		"Not of those all": func() []bool { return bitmap.Not(each) },
	} {
		one, two := made(), made()
		was := slices.Clone(two)
		for i := range one {
			one[i] = !one[i]
		}
		if !slices.Equal(two, was) || !slices.Equal(made(), was) {
			t.Errorf("two answers of %s share memory", name)
		}
	}
	if bitmap.Count(each) != 9 || bitmap.Count(none) != 0 {
		t.Errorf("answers share memory with what is handed in, now %v and %v", each, none)
	}
}

func TestReadAnswersNewMemory(t *testing.T) {
	b := []byte{9, 0xa5, 1, 9, 0xa5, 1}
	c := cursor.New(b)
	one := bitmap.Read(c, 9)
	clear(one)
	_ = append(one, true, true)
	if two := bitmap.Read(c, 9); !slices.Equal(two, rows("101001011")) {
		t.Errorf("two answers of Read share memory: %v", two)
	}
	if !bytes.Equal(b, []byte{9, 0xa5, 1, 9, 0xa5, 1}) {
		t.Errorf("what is handed in became %x", b)
	}
}

// P1

func TestWhateverIsReadEnds(t *testing.T) {
	draw := uint32(1)
	next := func(n int) int {
		draw = draw*1664525 + 1013904223
		return int(draw>>8) % n
	}
	for range 50000 {
		b := make([]byte, next(20))
		for i := range b {
			b[i] = byte(next(256) >> next(9))
		}
		c := cursor.New(b)
		l := bitmap.Read(c, next(200)-9)
		if !c.Good() && len(l) != 0 {
			t.Fatalf("%x is read as %v, with error %d", b, l, c.End())
		}
		if c.Good() && len(b)-c.Left() != 1+len(l)/8+min(1, len(l)%8) && len(l) < 128 {
			t.Fatalf("%x is read as %v, %d bytes left", b, l, c.Left())
		}
	}
}

func TestWhateverIsAskedEnds(t *testing.T) {
	for _, i := range []int{math.MinInt, -1, 0, 1, math.MaxInt} {
		if n := bitmap.Rank(nil, i); n != 0 {
			t.Errorf("Rank of no rows, %d is %d", i, n)
		}
	}
	for _, l := range [][]bool{nil, {}} {
		answered := len(bitmap.Put(l)) + bitmap.Count(l) + len(bitmap.And(l, l)) + len(bitmap.Or(l, l)) + len(bitmap.Not(l))
		if answered != 0 || !bytes.Equal(bitmap.Write(l), []byte{0}) {
			t.Errorf("no rows are %d, %x", answered, bitmap.Write(l))
		}
	}
}

func TestNilCursorGivesNothing(t *testing.T) {
	for _, most := range []int{math.MinInt, 0, 4, math.MaxInt} {
		if l := bitmap.Read(nil, most); len(l) != 0 {
			t.Errorf("Read of a nil cursor is %v", l)
		}
	}
}
