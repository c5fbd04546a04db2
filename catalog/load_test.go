package catalog_test

import (
	"slices"
	"strings"
	"testing"

	"hopper/api"
)

// P19.3: a table's bytes, and tables of such bytes.

// isExported holds the bytes of a table against the ones that are told.
func isExported(t *testing.T, p *pair, name, want string) {
	t.Helper()
	if b, e := p.Export(name); e != api.OK || string(b) != want {
		t.Errorf("Export of %q is error %d, %x; not %x", name, e, b, want)
	}
}

// isLoaded says that bytes are the table that is told.
func isLoaded(t *testing.T, what, b string, x told) {
	t.Helper()
	p := fresh()
	is(t, what, p.load(t, "a", b), api.OK)
	heldTable(t, what, p.Catalog, named{"a", x})
}

// isSome says that bytes, sealed, are the table that the words tell.
func isSome(t *testing.T, what, inside string) {
	t.Helper()
	x, ok := tableOf(sealed(inside))
	if !ok {
		t.Errorf("%s: the words tell that %s is no table", what, short(inside))
	}
	isLoaded(t, what, sealed(inside), x)
}

// isCorrupt says that bytes are no table's, and change nothing.
func isCorrupt(t *testing.T, what, b string) {
	t.Helper()
	p := fresh()
	p.create(t, "a", 1)
	is(t, what, p.load(t, "b", b), api.ErrCorrupt)
}

// isNone says that bytes, sealed, are no table's, as the words tell, too.
func isNone(t *testing.T, what, inside string) {
	t.Helper()
	if _, ok := tableOf(sealed(inside)); ok {
		t.Errorf("%s: the words tell that %s is a table", what, short(inside))
	}
	isCorrupt(t, what, sealed(inside))
}

// isToldByTheWords holds what Load answers of whatever bytes, sealed, against
// the words; it answers whether they are a table's.
func isToldByTheWords(t *testing.T, inside string) bool {
	t.Helper()
	return fresh().load(t, "a", sealed(inside)) == api.OK
}

func TestExportIsTheBytesWritten(t *testing.T) {
	const (
		empty = "\x01\x00\xbe\x23\xc2\x58"                                             // of a column, and no groups
		row   = "\x01\x01\x01\x00\x00\x00\x01\x01\x01\x01\x01\x01\x61\xd4\x90\x52\x42" // of a row, "a"
		null  = "\x01\x01\x01\x00\x00\x00\x01\x01\x00\x00\x00\x84\x5f\x6c\xd7"         // of a row that is none
		more  = "\x01\x01\x01\x00\x01\x17\x78\x78\x78\x01\x01\x01\x01\x08\xc8"         // of a row of 200 x
		eight = "\x08\x00\xf7\x98\x00\x89"                                             // of eight columns, and no groups
		many  = 130
	)
	long := more + strings.Repeat("x", 200) + "\x60\x19\xa0\xfc"
	for _, x := range []struct {
		cols  int
		parts []string
		want  string
	}{
		{1, nil, "\x01\x00\xbe\x23\xc2\x58"},
		{8, nil, "\x08\x00\xf7\x98\x00\x89"},
		{1, []string{empty}, "\x01\x01\x06" + empty + "\xf6\x4b\x8e\xce"},
		{1, []string{empty, row}, "\x01\x02\x06" + empty + "\x11" + row + "\xa3\xd1\xd5\x28"},
		{1, []string{row, empty}, "\x01\x02\x11" + row + "\x06" + empty + "\xb4\x85\x30\xa7"},
		{1, []string{row, row}, "\x01\x02\x11" + row + "\x11" + row + "\x68\xda\x5a\x33"},
		{1, []string{empty, row, null}, "\x01\x03\x06" + empty + "\x11" + row + "\x0f" + null + "\xea\x4b\xb6\xe7"},
		{1, []string{long}, "\x01\x01\xdb\x01" + long + "\x72\xab\x2c\x89"},
		{1, slices.Repeat([]string{empty}, many), "\x01\x82\x01" + strings.Repeat("\x06"+empty, many) + "\x82\x62\xb8\x49"},
		{8, []string{eight, eight}, "\x08\x02\x06" + eight + "\x06" + eight + "\xd6\x92\x49\x58"},
	} {
		p, q := fresh(), fresh()
		is(t, "a table", p.create(t, "a", x.cols), api.OK)
		for _, b := range x.parts {
			is(t, "a segment", p.Add("a", []byte(b)), api.OK)
		}
		isExported(t, p, "a", x.want)
		is(t, "its bytes", q.load(t, "b", x.want), api.OK)
		isExported(t, q, "b", x.want)
		if _, cols := q.Segments("b"); cols != x.cols {
			t.Errorf("%d columns, not %d", cols, x.cols)
		}
	}
}

func TestExport(t *testing.T) {
	for _, x := range tables() {
		p := fresh()
		p.create(t, "a", x.cols)
		for _, s := range x.parts {
			is(t, "a segment", p.Add("a", []byte(s.b)), api.OK)
		}
		isExported(t, p, "a", x.bytes())
		isExported(t, p, "a", x.bytes())
	}
}

func TestExportOfNoTable(t *testing.T) {
	p := full(t)
	p.drop(t, "t3")
	for _, name := range slices.Concat([]string{"never", "t3", "T1", "t16"}, wrong) {
		if b, e := p.Export(name); e != api.ErrName || b != nil {
			t.Errorf("%q: error %d, %x", name, e, b)
		}
	}
}

func TestLoadOfWhatExportAnswers(t *testing.T) {
	for _, x := range tables() {
		p, q := fresh(), fresh()
		is(t, "a table", p.load(t, "a", x.bytes()), api.OK)
		b, e := p.Export("a")
		is(t, "its bytes", e, api.OK)
		is(t, "under the same name", p.load(t, "a", string(b)), api.ErrName)
		is(t, "under another one", p.load(t, "b", string(b)), api.OK)
		is(t, "in another catalog, under the same name", q.load(t, "a", string(b)), api.OK)
		is(t, "in another catalog, under another name", q.load(t, strings.Repeat("\xff", 32), string(b)), api.OK)
		is(t, "it goes", p.drop(t, "a"), api.OK)
		is(t, "under the same name, that went", p.load(t, "a", string(b)), api.OK)
	}
}

func TestLoadOfNames(t *testing.T) {
	b := told{2, []part{of(2, vals("x", "y"))}}.bytes()
	for _, name := range names {
		p := fresh()
		is(t, "a name", p.load(t, name, b), api.OK)
		is(t, "once more", p.load(t, name, b), api.ErrName)
		is(t, "once more, by Create", p.create(t, name, 2), api.ErrName)
		is(t, "a row", p.add(t, name, of(2, vals("z", "")).b), api.OK)
	}
	for _, p := range []*pair{fresh(), full(t)} {
		for _, name := range wrong {
			is(t, "no name", p.load(t, name, b), api.ErrArg)
			is(t, "no name, and no table", p.load(t, name, ""), api.ErrArg)
		}
	}
}

// Of several errors the one that is named first is answered.
func TestLoadOfSeveralErrors(t *testing.T) {
	p := full(t)
	good := told{1, []part{nones(1)}}.bytes()
	rows := told{1, []part{nones(4096), nones(1)}}.bytes()
	for _, b := range []string{good, rows, "", good + "\x00", sealed("\x09\x00")} {
		is(t, "no name, and as many tables as there may be", p.load(t, "", b), api.ErrArg)
		is(t, "a name that is there, and as many tables as there may be", p.load(t, "t3", b), api.ErrName)
		is(t, "as many tables as there may be", p.load(t, "more", b), api.ErrLimit)
	}
	p.drop(t, "t3")
	for _, b := range []string{rows, "", good + "\x00", sealed("\x09\x00")} {
		is(t, "a name that is there, and no table", p.load(t, "t4", b), api.ErrName)
		is(t, "no table", p.load(t, "t3", b), api.ErrCorrupt)
	}
	is(t, "a table", p.load(t, "t3", good), api.OK)
	is(t, "one more", p.load(t, "more", good), api.ErrLimit)
	is(t, "one more, and no table", p.load(t, "more", ""), api.ErrLimit)
}

func TestLoadOfEveryBeginning(t *testing.T) {
	for _, x := range tables() {
		inside := x.inside()
		for n := range min(len(inside), 120) {
			isNone(t, "a beginning, sealed", inside[:n])
			isCorrupt(t, "a beginning", inside[:n])
		}
		isNone(t, "all but a byte", inside[:len(inside)-1])
		b := sealed(inside)
		for n := range 5 {
			isCorrupt(t, "all but some of the sum", b[:len(b)-1-n])
		}
	}
}

// small are the bytes, ahead of their sums, of some small tables.
func small() []string {
	return []string{
		told{cols: 1}.inside(), told{cols: 8}.inside(), told{1, []part{of(1)}}.inside(), told{1, []part{of(1), of(1), of(1)}}.inside(),
		told{1, []part{one(vals("abcd")...), one(none)}}.inside(), told{2, []part{of(2, vals("a", "b")), of(2), of(2, vals("", "abc"), []api.Val{none, none})}}.inside(),
	}
}

// One byte turned, and not sealed anew, is never a table's.
func TestLoadOfTurnedBytes(t *testing.T) {
	for _, inside := range small() {
		p := fresh()
		p.create(t, "b", 3)
		b := []byte(sealed(inside))
		for i, was := range b {
			for turned := range 256 {
				b[i] = byte(turned)
				if b[i] != was {
					is(t, "a byte turned", p.Load("a", b), api.ErrCorrupt)
				}
			}
			b[i] = was
		}
		p.held(t, "bytes turned")
		is(t, "turned back", p.load(t, "a", string(b)), api.OK)
	}
}

func TestLoadOfTurnedBytesThatAreSealed(t *testing.T) {
	right, not := 0, 0
	for _, inside := range small() {
		for i := range inside {
			for turned := range 256 {
				if isToldByTheWords(t, inside[:i]+string([]byte{byte(turned)})+inside[i+1:]) {
					right++
				} else {
					not++
				}
			}
			isToldByTheWords(t, inside[:i]+inside[i+1:])
			for _, more := range []string{"\x00", "\x01", "\x02", "\x7f", "\x80", "\xff", inside[i : i+1]} {
				isToldByTheWords(t, inside[:i]+more+inside[i:])
			}
		}
	}
	if right < 100 || not < 1000 {
		t.Errorf("%d are tables, and %d aren't", right, not)
	}
}

// A byte of a segment turned, and it sealed anew, and the table, too.
func TestLoadOfSegmentsThatAreTurned(t *testing.T) {
	right, not := 0, 0
	s, front := one(api.Val{S: "abcd"}, none), told{1, []part{one(vals("x")...), of(1)}}
	inside := s.b[:len(s.b)-4]
	for i := range inside {
		for turned := range 256 {
			b := sealed(inside[:i] + string([]byte{byte(turned)}) + inside[i+1:])
			x := told{1, append(slices.Clone(front.parts), part{b: b})}
			if isToldByTheWords(t, x.inside()) {
				right++
			} else {
				not++
			}
		}
	}
	if right < 20 || not < 1000 {
		t.Errorf("%d are tables, and %d aren't", right, not)
	}
}

func TestLoadOfDrawnBytes(t *testing.T) {
	next := draws(193)
	right := 0
	for range 10000 {
		b := "\x01\x02"[:next(3)]
		for range next(5) {
			b += []string{"\x00", "\x01", "\x02", "\x06", "\x06" + of(1).b, "\x06" + of(2).b, "\x0f" + one(none).b, "\x80", "\x86\x00" + of(1).b}[next(9)]
		}
		if isToldByTheWords(t, b) {
			right++
		}
	}
	if right < 100 {
		t.Errorf("%d are tables", right)
	}
}

func TestLoadOfBytesThatAreNotSealed(t *testing.T) {
	for _, b := range []string{"", "\x00", "\x01", "\x01\x00", "\x00\x00\x00", "\x01\x00\x00", "\x00\x00\x00\x00", "\xff\xff\xff\xff", "\x01\x00\x00\x00\x00\x00", "\x01\x00\xff\xff\xff\xff"} {
		isCorrupt(t, "too short, or without a sum", b)
	}
	p := fresh()
	is(t, "nil", p.Load("a", nil), api.ErrCorrupt)
	p.held(t, "nil")
	isNone(t, "nothing, sealed", "")
	isNone(t, "a byte, sealed", "\x01")
	for _, inside := range small() {
		sum := []byte(sumOf(inside))
		isCorrupt(t, "no sum", inside)
		isCorrupt(t, "some of a sum", inside+string(sum[:3]))
		isCorrupt(t, "a sum of three bytes, and one", inside+string(sum[:3])+"\x00")
		isCorrupt(t, "a byte behind the sum", sealed(inside)+"\x00")
		isCorrupt(t, "a byte ahead", "\x01"+sealed(inside))
		isCorrupt(t, "the sum of less", inside+sumOf(inside[1:]))
		isCorrupt(t, "the sum of more", inside+sumOf(inside+"\x00"))
		isCorrupt(t, "the sum ahead", string(sum)+inside)
		slices.Reverse(sum)
		isCorrupt(t, "the highest byte first", inside+string(sum))
		isNone(t, "sealed twice", sealed(inside))
	}
}

func TestLoadOfOtherColumns(t *testing.T) {
	for cols := range 300 {
		if cols >= 1 && cols <= 8 {
			isSome(t, "columns, no segments", varint(cols)+"\x00")
			isSome(t, "columns, and a segment", varint(cols)+"\x01\x06"+of(cols).b)
			continue
		}
		isNone(t, "other columns, no segments", varint(cols)+"\x00")
		isNone(t, "other columns, and a segment", varint(cols)+"\x01\x06"+of(1+(cols+7)%8).b)
		isNone(t, "other columns, also of the segment", varint(cols)+"\x01"+varint(len(varint(cols))+5)+sealed(varint(cols)+"\x00"))
	}
	for _, cols := range []int{1 << 14, 1 << 32, 1<<32 + 1, 1<<63 - 1} {
		isNone(t, "very many columns", varint(cols)+"\x00")
		isNone(t, "very many columns, and a segment", varint(cols)+"\x01\x06"+of(1).b)
	}
}

func TestLoadOfOtherNumbersOfSegments(t *testing.T) {
	s := "\x0f" + one(none).b
	for n := range 6 {
		for says := range 8 {
			b := "\x01" + varint(says) + strings.Repeat(s, n)
			if says == n {
				isSome(t, "as many segments", b)
			} else {
				isNone(t, "more or fewer segments", b)
			}
		}
		for _, says := range []int{127, 128, 4096, 4097, 1 << 20, 1 << 40, 1<<63 - 1} {
			isNone(t, "very many segments", "\x01"+varint(says)+strings.Repeat(s, n))
		}
	}
	isNone(t, "segments of no bytes", "\x01\x03\x00\x00\x00")
	isNone(t, "a segment of no bytes, ahead of one", "\x01\x02\x00"+s)
	isNone(t, "a segment of no bytes, behind one", "\x01\x02"+s+"\x00")
	isSome(t, "many segments without rows", "\x01"+varint(300)+strings.Repeat("\x06"+of(1).b, 300))
	isNone(t, "one less", "\x01"+varint(300)+strings.Repeat("\x06"+of(1).b, 299))
	isNone(t, "one more", "\x01"+varint(300)+strings.Repeat("\x06"+of(1).b, 301))
}

func TestLoadOfSegmentsOfOtherColumns(t *testing.T) {
	for cols := 1; cols <= 8; cols++ {
		own := of(cols, wide(cols, 2, "x")...)
		for other := 1; other <= 8; other++ {
			for _, s := range []part{of(other), of(other, wide(other, 2, "y")...)} {
				for _, l := range [][]part{{s}, {own, s}, {s, own}, {own, s, own}} {
					if other == cols {
						isSome(t, "a segment of its columns", told{cols, l}.inside())
					} else {
						isNone(t, "a segment of other columns", told{cols, l}.inside())
					}
				}
			}
		}
	}
}

func TestLoadOfWhatIsNoSegment(t *testing.T) {
	own := one(vals("x")...)
	good := one(api.Val{S: "abcd"}, none).b
	inside := good[:len(good)-4]
	l := []string{
		"", "\x00", "\x01", sealed(""), sealed("\x00"), sealed("\x01"), sealed("\x00\x00"), sealed("\x09\x00"), sealed("\x01\x00\x00"), sealed("\x81\x00\x00"),
		inside, inside + "\x00\x00\x00\x00", sealed(inside[:len(inside)-1]), sealed(inside + "\x00"), sealed(good), good + "\x00", "\x00" + good, good + good, told{1, []part{own}}.bytes(),
	}
	for n := range good {
		l = append(l, good[:n])
	}
	for _, b := range l {
		s := part{b: b}
		for _, parts := range [][]part{{s}, {own, s}, {s, own}, {own, s, own}} {
			isNone(t, "no segment", told{1, parts}.inside())
		}
	}
	isSome(t, "a segment", told{1, []part{own, {b: good}, own}}.inside())
}

func TestLoadOfMoreRows(t *testing.T) {
	for _, sizes := range [][]int{{4096}, {4095, 1}, {1, 4095}, {0, 4096, 0}, {2048, 2048}, {1000, 0, 1000, 1000, 0, 1000, 96}} {
		x := told{cols: 1}
		for _, n := range sizes {
			x.parts = append(x.parts, nones(n))
		}
		isSome(t, "as many as there may be", x.inside())
		p := fresh()
		p.load(t, "a", x.bytes())
		isFull(t, p)
		for _, n := range []int{1, 2, 4096} {
			isNone(t, "more, behind", told{1, append(slices.Clone(x.parts), nones(n))}.inside())
			isNone(t, "more, ahead", told{1, append([]part{nones(n)}, x.parts...)}.inside())
		}
		isNone(t, "one more, in the first one that has any", told{1, append([]part{nones(1), of(1)}, x.parts...)}.inside())
	}
}

// To a table that was loaded more rows can be put, as to any other.
func TestAddBehindLoad(t *testing.T) {
	p := fresh()
	is(t, "a table", p.load(t, "a", told{1, []part{nones(1000), of(1), nones(96)}}.bytes()), api.OK)
	is(t, "one more than there may be", p.add(t, "a", nones(3001).b), api.ErrLimit)
	is(t, "other columns", p.add(t, "a", of(2).b), api.ErrCorrupt)
	is(t, "as many as there may be", p.add(t, "a", nones(3000).b), api.OK)
	isFull(t, p)
}

func TestLoadOfOtherLengths(t *testing.T) {
	a, b := one(vals("abcd")...).b, one(none).b
	isSome(t, "their lengths", "\x01\x02"+varint(len(a))+a+varint(len(b))+b)
	for n := range 60 {
		for _, inside := range []string{"\x01\x02" + varint(n) + a + varint(len(b)) + b, "\x01\x02" + varint(len(b)) + b + varint(n) + a, "\x01\x01" + varint(n) + a, "\x01\x01" + varint(n) + a + b} {
			isToldByTheWords(t, inside)
		}
		if n != len(a) {
			isNone(t, "another length, of the first one", "\x01\x02"+varint(n)+a+varint(len(b))+b)
			isNone(t, "another length, of the last one", "\x01\x02"+varint(len(b))+b+varint(n)+a)
			isNone(t, "another length, of the only one", "\x01\x01"+varint(n)+a)
		}
	}
	for _, n := range []int{127, 128, 4096, 1 << 20, 1 << 31, 1 << 32, 1<<32 + len(a), 1 << 40, 1<<63 - 1} {
		isNone(t, "a length beyond the end", "\x01\x02"+varint(len(b))+b+varint(n)+a)
		isNone(t, "a length beyond the end, of the first one", "\x01\x02"+varint(n)+b+varint(len(a))+a)
	}
	isNone(t, "one length of both", "\x01\x01"+varint(len(a)+len(b))+a+b)
}

func TestLoadOfVarintsOfMoreBytes(t *testing.T) {
	s := of(1).b
	long := one(vals(strings.Repeat("x", 200))...).b
	isSome(t, "as few as they need", "\x01\x01\x06"+s)
	isSome(t, "two, as it needs", "\x01\x01\xdb\x01"+long)
	for _, b := range []string{
		"\x81\x00\x01\x06" + s, "\x01\x81\x00\x06" + s, "\x01\x01\x86\x00" + s, "\x81\x80\x00\x01\x06" + s, "\x01\x81\x80\x80\x00\x06" + s, "\x01\x01\x86\x80\x00" + s, "\x81\x00\x00", "\x01\x80\x00", "\x01\x01\xdb\x81\x00" + long,
		"\x81\x80\x80\x80\x80\x80\x80\x80\x80\x00\x00", "\x01\x80\x80\x80\x80\x80\x80\x80\x80\x80\x00", "\x01\xff\xff\xff\xff\xff\xff\xff\xff\xff\x01", "\x01\x01\xff\xff\xff\xff\xff\xff\xff\xff\xff\x01" + s,
	} {
		isNone(t, "a varint of more bytes", b)
	}
}

func TestLoadOfBytesThatAreLeft(t *testing.T) {
	for _, inside := range small() {
		for _, more := range []string{"\x00", "\x01", "\xff", "\x00\x00\x00\x00", sumOf(inside), inside, "\x06" + of(1).b} {
			isNone(t, "bytes that are left", inside+more)
		}
	}
}
