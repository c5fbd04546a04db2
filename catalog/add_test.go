package catalog_test

import (
	"slices"
	"strings"
	"testing"

	"hopper/api"
	"hopper/segment"
)

// P19.2: segments behind a table's, its rows, and its segments again.

// isAdded adds segments to a new table, one behind the other.
func isAdded(t *testing.T, x told) {
	t.Helper()
	p := fresh()
	p.create(t, "a", x.cols)
	for _, s := range x.parts {
		is(t, "a segment", p.add(t, "a", s.b), api.OK)
	}
	heldTable(t, "all added", p.Catalog, named{"a", x})
}

func TestAdd(t *testing.T) {
	for _, x := range tables() {
		if len(x.parts) < 100 {
			isAdded(t, x)
		}
	}
	next := draws(192)
	for range 60 {
		x := told{cols: 1 + next(8)}
		for range next(7) {
			x.parts = append(x.parts, drawn(next, x.cols, 12))
		}
		isAdded(t, x)
	}
}

// What segment's Write answers is a segment of the table, of whatever kind.
func TestAddOfWhatWriteAnswers(t *testing.T) {
	for cols := 1; cols <= 8; cols++ {
		rows := wide(cols, 5, "ban")
		for _, kind := range kinds {
			for i, bits := range sizes {
				o := times(cols, api.Coding{Kind: kind, Block: 2, Rounds: 1, Draws: []int{0}})
				b, e := segment.Write(cols, slices.Collect(slices.Chunk(rows, 1+(cols+i)%5)), o, bits)
				if e != api.OK {
					t.Fatal(e)
				}
				p := fresh()
				p.create(t, "a", cols)
				is(t, "a segment", p.add(t, "a", string(b)), api.OK)
				if got, e := p.Rows("a"); e != api.OK || !sameRows(got, rows) {
					t.Errorf("%d columns, kind %d, bits %d: error %d, %s", cols, kind, bits, e, few(got))
				}
			}
		}
	}
}

func TestAddToNoTable(t *testing.T) {
	p := full(t)
	p.drop(t, "t3")
	good := one(vals("x")...).b
	for _, name := range slices.Concat([]string{"never", "t3", "T1", "t", "t1 ", "t16"}, wrong) {
		for _, b := range []string{good, "", "no segment", of(2).b, nones(4096).b} {
			is(t, "no table", p.add(t, name, b), api.ErrName)
		}
	}
}

func TestAddOfOtherColumns(t *testing.T) {
	for cols := 1; cols <= 8; cols++ {
		p := fresh()
		p.create(t, "a", cols)
		p.add(t, "a", of(cols, wide(cols, 2, "x")...).b)
		for other := 1; other <= 8; other++ {
			want := api.ErrCorrupt
			if other == cols {
				want = api.OK
			}
			is(t, "columns", p.add(t, "a", of(other, wide(other, 2, "y")...).b), want)
			is(t, "columns, no rows", p.add(t, "a", of(other).b), want)
		}
	}
}

func TestAddOfNoSegment(t *testing.T) {
	p := fresh()
	p.create(t, "a", 1)
	p.add(t, "a", one(vals("x", "y")...).b)
	is(t, "nil", p.Add("a", nil), api.ErrCorrupt)
	good := one(api.Val{S: "abcd"}, none).b
	inside := good[:len(good)-4]
	for _, b := range []string{
		"", "\x00", "\x01", "\x01\x00", "\x00\x00\x00\x00", "\xff\xff\xff\xff", sealed(""), sealed("\x00"), sealed("\x01"), sealed("\x00\x00"), sealed("\x09\x00"), sealed("\x01\x01"), sealed("\x01\x00\x00"),
		inside, inside + "\x00\x00\x00\x00", sealed(inside[:len(inside)-1]), sealed(inside + "\x00"), sealed(good), good + "\x00", "\x00" + good, good + good, good[1:], told{1, []part{one(none)}}.bytes(),
		sealed("\x81\x00\x00"), sealed("\x01\x80\x00"), strings.Repeat("\x01", 5000),
	} {
		is(t, "no segment", p.add(t, "a", b), api.ErrCorrupt)
	}
	is(t, "a segment", p.add(t, "a", good), api.OK)
	is(t, "the bytes of a table without segments are a segment's", p.add(t, "a", told{cols: 1}.bytes()), api.OK)
}

func TestAddOfEveryBeginning(t *testing.T) {
	for _, cols := range []int{1, 3} {
		p := fresh()
		p.create(t, "a", cols)
		for _, s := range parts(cols) {
			for n := range len(s.b) {
				is(t, "a beginning", p.add(t, "a", s.b[:n]), api.ErrCorrupt)
			}
			is(t, "all of it", p.add(t, "a", s.b), api.OK)
		}
	}
}

// One byte turned, and not sealed anew, is never a segment.
func TestAddOfTurnedBytes(t *testing.T) {
	for _, s := range []part{of(1), one(none), one(vals("abcd", "abc")...), parts(2)[5]} {
		p := fresh()
		p.create(t, "a", s.cols)
		p.add(t, "a", s.b)
		b := []byte(s.b)
		for i, was := range b {
			for turned := range 256 {
				b[i] = byte(turned)
				if b[i] != was {
					is(t, "a byte turned", p.Add("a", b), api.ErrCorrupt)
				}
			}
			b[i] = was
		}
		p.held(t, "bytes turned")
		is(t, "turned back", p.add(t, "a", s.b), api.OK)
	}
}

// Sealed anew it is one wherever chapter 18 reads it, with the table's columns.
func TestAddOfTurnedBytesThatAreSealed(t *testing.T) {
	right, not := 0, 0
	for _, s := range []part{of(1), one(none), one(vals("abcd", "abc")...), of(2, vals("a", "b"))} {
		inside := s.b[:len(s.b)-4]
		for i := range inside {
			for turned := range 256 {
				p := fresh()
				p.create(t, "a", s.cols)
				if p.add(t, "a", sealed(inside[:i]+string([]byte{byte(turned)})+inside[i+1:])) == api.OK {
					right++
				} else {
					not++
				}
			}
		}
	}
	if right < 200 || not < 1000 {
		t.Errorf("%d are segments, and %d aren't", right, not)
	}
}

// isFull says that to a table no row can be put, but segments without rows can.
func isFull(t *testing.T, p *pair) {
	t.Helper()
	for _, n := range []int{1, 2, 4095, 4096} {
		is(t, "more rows", p.add(t, "a", nones(n).b), api.ErrLimit)
	}
	is(t, "no rows", p.add(t, "a", of(1).b), api.OK)
	is(t, "a row, behind no rows", p.add(t, "a", nones(1).b), api.ErrLimit)
}

func TestAddOfMoreRows(t *testing.T) {
	if api.MaxRows != 4096 {
		t.Errorf("%d rows", api.MaxRows)
	}
	for _, sizes := range [][]int{{4096}, {4095, 1}, {1, 4095}, {0, 4096}, {2048, 2048}, {1000, 0, 1000, 1000, 0, 1000, 96}, {1, 1, 1, 4093}} {
		p := fresh()
		p.create(t, "a", 1)
		left := 4096
		for _, n := range sizes {
			if left < 4096 {
				is(t, "one more than there may be", p.add(t, "a", nones(left+1).b), api.ErrLimit)
			}
			is(t, "as many as there may be", p.add(t, "a", nones(n).b), api.OK)
			left -= n
		}
		isFull(t, p)
	}
}

// Rows of one table aren't those of another.
func TestRowsAreCountedTableByTable(t *testing.T) {
	p := fresh()
	for i := range 3 {
		is(t, "a table", p.create(t, nth(i), 1), api.OK)
		is(t, "all rows", p.add(t, nth(i), nones(4096).b), api.OK)
	}
	is(t, "another table", p.create(t, "a", 1), api.OK)
	is(t, "a row", p.add(t, "a", nones(1).b), api.OK)
}

// Rows that aren't put in don't count.
func TestRowsThatAreRefusedAreNotCounted(t *testing.T) {
	p := fresh()
	p.create(t, "a", 1)
	is(t, "some rows", p.add(t, "a", nones(96).b), api.OK)
	for range 5 {
		is(t, "too many", p.add(t, "a", nones(4096).b), api.ErrLimit)
		is(t, "other columns", p.add(t, "a", of(2, wide(2, 3000, "x")...).b), api.ErrCorrupt)
		is(t, "no segment", p.add(t, "a", nones(3000).b+"\x00"), api.ErrCorrupt)
	}
	is(t, "all that there may be", p.add(t, "a", nones(4000).b), api.OK)
	isFull(t, p)
}

// Of several errors the one that is named first is answered.
func TestAddOfSeveralErrors(t *testing.T) {
	p := fresh()
	p.create(t, "a", 1)
	p.add(t, "a", nones(4096).b)
	is(t, "other columns, and too many rows", p.add(t, "a", of(2, vals("x", "y")).b), api.ErrCorrupt)
	is(t, "no segment, and too many rows", p.add(t, "a", nones(1).b+"\x00"), api.ErrCorrupt)
	is(t, "other columns", p.add(t, "a", of(2).b), api.ErrCorrupt)
	is(t, "too many rows", p.add(t, "a", nones(1).b), api.ErrLimit)
	is(t, "no table, and no segment", p.add(t, "b", ""), api.ErrName)
	is(t, "no table, and too many rows", p.add(t, "b", nones(1).b), api.ErrName)
	is(t, "no name", p.add(t, "", ""), api.ErrName)
}

func TestManySegmentsWithoutRows(t *testing.T) {
	p := fresh()
	p.create(t, "a", 1)
	p.add(t, "a", one(vals("x")...).b)
	for range 300 {
		is(t, "no rows", p.Add("a", []byte(of(1).b)), api.OK)
	}
	p.l[0].parts = append(p.l[0].parts, slices.Repeat([]part{of(1)}, 300)...)
	p.held(t, "many segments")
	is(t, "behind them", p.add(t, "a", one(vals("y")...).b), api.OK)
}

// Rows and segments are those of all that were added, in their order.
func TestRowsAndSegmentsInOrder(t *testing.T) {
	p := fresh()
	p.create(t, "a", 2)
	p.create(t, "b", 2)
	var want [][]api.Val
	for i := range 9 {
		rows := wide(2, i%4, nth(i)+"/")
		is(t, "a segment", p.add(t, "a", of(2, rows...).b), api.OK)
		is(t, "another table's", p.add(t, "b", of(2, vals("x", "y")).b), api.OK)
		want = append(want, rows...)
		if got, e := p.Rows("a"); e != api.OK || !sameRows(got, want) {
			t.Errorf("%d segments: error %d, %s", i+1, e, few(got))
		}
		l, cols := p.Segments("a")
		if len(l) != i+1 || cols != 2 || !sameRows(l[i].Rows(), rows) || l[i].Len() != len(rows) {
			t.Errorf("%d segments: %d, of %d columns", i+1, len(l), cols)
		}
	}
	if got, _ := p.Rows("a"); len(got) != 12 || got[0][1].S != "t1/0/1" || got[11][0].S != "t7/2/0" {
		t.Error(few(got))
	}
}

func TestSegmentsAreThoseOfChapter18(t *testing.T) {
	p := fresh()
	p.create(t, "a", 2)
	groups := [][][]api.Val{{vals("banana", "x"), {none, {S: "y"}}}, {vals("plum", "z")}}
	s := written(2, groups, times(2, api.Coding{Kind: api.Front, Block: 2}), 9)
	p.add(t, "a", s.b)
	l, cols := p.Segments("a")
	if len(l) != 1 || cols != 2 || l[0].Cols != 2 || l[0].Len() != 3 || len(l[0].Groups) != 2 {
		t.Fatalf("%d segments, %d columns", len(l), cols)
	}
	g := l[0].Groups[0]
	if g.Rows != 2 || g.Filters[1].Bits != 9 || g.Chunks[0].Kind() != api.Front || g.Chunks[0].At(0).S != "banana" || !g.Chunks[0].At(1).Null {
		t.Errorf("%+v", g)
	}
}
