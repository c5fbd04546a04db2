package catalog_test

import (
	"bytes"
	"math"
	"slices"
	"strings"
	"testing"

	"hopper/api"
	"hopper/catalog"
	"hopper/chunk"
	"hopper/segment"
)

// P19.5: what is handed in stays, and isn't kept; what is answered is new
// memory. P1: every call ends.

// over writes into all of a list, and behind its end.
func over[T any](l []T, x T) {
	l = l[:cap(l)]
	for i := range l {
		l[i] = x
	}
}

// roomy are bytes with room behind their end, where x stands.
func roomy(b string) []byte {
	return []byte(b + "xxxxxxxx")[:len(b)]
}

// stays says that bytes are what they were, with what stands behind their end.
func stays(t *testing.T, what string, b []byte, was string) {
	t.Helper()
	if !strings.HasPrefix(string(b[:cap(b)]), was+"xxxxxxxx") {
		t.Errorf("%s: %x, not %x", what, b[:cap(b)], was)
	}
}

// some is a pair of some tables: "a" of two columns and two segments, "b" of one
// column and none, "c" loaded.
func some(t *testing.T) *pair {
	t.Helper()
	p := fresh()
	p.create(t, "a", 2)
	p.add(t, "a", written(2, [][][]api.Val{{vals("abcd", "x"), {none, {S: "abc"}}}, {vals("bcde", "")}}, times(2, api.Coding{Kind: api.Front, Block: 2}), 0).b)
	p.add(t, "a", written(2, [][][]api.Val{{vals("abcd", "y")}}, times(2, api.Coding{Kind: api.Fsst, Block: 1, Rounds: 1, Draws: []int{0}}), 9).b)
	p.create(t, "b", 1)
	p.load(t, "c", told{2, []part{of(2, vals("abcd", "z"), vals("", "abcd"))}}.bytes())
	return p
}

func TestWhatAddIsGivenStaysAndIsNotKept(t *testing.T) {
	for _, s := range parts(2) {
		p := some(t)
		b := roomy(s.b)
		is(t, "a segment", p.Add("a", b), api.OK)
		p.l[0].parts = append(p.l[0].parts, s)
		stays(t, "a segment", b, s.b)
		over(b, 0xff)
		p.held(t, "its bytes written into")
		is(t, "another one behind it", p.add(t, "a", of(2, vals("p", "q")).b), api.OK)
	}
}

func TestWhatLoadIsGivenStaysAndIsNotKept(t *testing.T) {
	for cols := 1; cols <= 8; cols++ {
		p, x := some(t), told{cols, parts(cols)}
		b := roomy(x.bytes())
		is(t, "a table", p.Load("d", b), api.OK)
		p.l = append(p.l, named{"d", x})
		stays(t, "a table", b, x.bytes())
		over(b, 0xff)
		p.held(t, "its bytes written into")
		is(t, "a segment behind it", p.add(t, "d", of(cols).b), api.OK)
	}
}

// Bytes that are refused stay, too.
func TestWhatIsRefusedStays(t *testing.T) {
	p := some(t)
	for _, was := range append(wrongs(), of(2).b, told{cols: 2}.bytes()) {
		b := roomy(was)
		p.Add("b", b)
		p.Add("never", b)
		p.Load("a", b)
		p.Load("", b)
		stays(t, "bytes that are refused", b, was)
	}
	b := roomy(nones(1).b)
	is(t, "all rows", p.add(t, "b", nones(4096).b), api.OK)
	is(t, "more rows", p.Add("b", b), api.ErrLimit)
	stays(t, "more rows", b, nones(1).b)
}

func TestExportAnswersNewMemory(t *testing.T) {
	p := some(t)
	for _, x := range p.l {
		a, e := p.Export(x.name)
		is(t, "its bytes", e, api.OK)
		b, _ := p.Export(x.name)
		was := bytes.Clone(b)
		over(a, 0xff)
		if !bytes.Equal(b, was) {
			t.Errorf("%q: %x, not %x", x.name, b, was)
		}
		p.held(t, "its bytes written into")
		is(t, "a segment", p.add(t, x.name, of(x.cols).b), api.OK)
		if !bytes.Equal(b, was) {
			t.Errorf("%q: %x, not %x", x.name, b, was)
		}
	}
}

func TestRowsAnswersNewMemory(t *testing.T) {
	p := some(t)
	other := api.Val{S: "other"}
	for _, x := range p.l {
		a, e := p.Rows(x.name)
		is(t, "its rows", e, api.OK)
		b, _ := p.Rows(x.name)
		for i, row := range a {
			over(row, other)
			if !sameRows(a[i+1:], x.rows()[i+1:]) {
				t.Errorf("%q: row %d is shared, %s", x.name, i, few(a))
			}
		}
		over(a, []api.Val{other})
		if !sameRows(b, x.rows()) {
			t.Errorf("%q: %s, not %s", x.name, few(b), few(x.rows()))
		}
		p.held(t, "its rows written into")
	}
}

// spoil writes into all that a segment has.
func spoil(s *segment.Segment) {
	for _, g := range s.Groups {
		for col := range g.Filters {
			over(g.Filters[col].List, 7)
			over(g.Filters[col].Set, true)
			*g.Chunks[col] = chunk.Chunk{}
		}
		over(g.Filters, api.Filter{Bits: 77})
		over(g.Chunks, nil)
	}
	over(s.Groups, segment.Group{Rows: 5})
	s.Cols = 7
}

func TestSegmentsAnswersNewMemory(t *testing.T) {
	p := some(t)
	p.add(t, "a", p.l[0].parts[0].b) // the same bytes as another one's
	for _, x := range p.l {
		a, _ := p.Segments(x.name)
		b, _ := p.Segments(x.name)
		for i, s := range a {
			spoil(s)
			for k := i + 1; k < len(a); k++ {
				heldSegment(t, "one behind it", a[k], x.parts[k])
			}
			p.held(t, "a segment written into")
		}
		over(a, nil)
		for i, s := range b {
			heldSegment(t, "answered a second time", s, x.parts[i])
		}
		p.held(t, "its segments written into")
	}
}

func TestNamesAnswersNewMemory(t *testing.T) {
	p := some(t)
	a, b := p.Names(), p.Names()
	over(a, "other")
	if !slices.Equal(b, []string{"a", "b", "c"}) {
		t.Errorf("%q", b)
	}
	p.held(t, "names written into")
	p.drop(t, "b")
	if !slices.Equal(b, []string{"a", "b", "c"}) {
		t.Errorf("%q, behind a Drop", b)
	}
}

// What was answered stays as it is, whatever is done behind it.
func TestAnswersStay(t *testing.T) {
	p := some(t)
	x := named{"a", told{2, slices.Clone(p.l[0].parts)}}
	b, _ := p.Export("a")
	rows, _ := p.Rows("a")
	l, cols := p.Segments("a")
	p.add(t, "a", of(2, vals("p", "q")).b)
	p.drop(t, "a")
	p.load(t, "a", told{cols: 3}.bytes())
	if string(b) != x.bytes() || !sameRows(rows, x.rows()) || cols != 2 || len(l) != 2 {
		t.Errorf("%s, %s, %d segments of %d columns", short(b), few(rows), len(l), cols)
	}
	for i, s := range l {
		heldSegment(t, "answered ahead", s, x.parts[i])
	}
}

// Tables of the same bytes are apart.
func TestTablesOfTheSameBytesAreApart(t *testing.T) {
	p := fresh()
	b := told{2, parts(2)[:3]}.bytes()
	for _, name := range []string{"a", "b", "c"} {
		is(t, "a table", p.load(t, name, b), api.OK)
	}
	is(t, "a segment", p.add(t, "a", of(2, vals("1", "2")).b), api.OK)
	is(t, "another one", p.add(t, "b", of(2, vals("3", "4")).b), api.OK)
	is(t, "one more", p.add(t, "a", of(2, vals("5", "6")).b), api.OK)
	is(t, "one goes", p.drop(t, "a"), api.OK)
	is(t, "one more", p.add(t, "c", of(2, vals("7", "8")).b), api.OK)
}

// Of nil nothing is promised but that calls end; a Catalog that no New answers
// is one without tables.
func TestCallsOfWhateverCatalogEnd(t *testing.T) {
	var c *catalog.Catalog
	b := []byte(told{cols: 1}.bytes())
	for _, name := range []string{"", "a", strings.Repeat("x", 33)} {
		for _, cols := range []int{math.MinInt, 0, 1, math.MaxInt} {
			if c.Create(name, cols) == api.OK {
				t.Errorf("nil: Create of %q", name)
			}
		}
		if c.Load(name, b) == api.OK || c.Load(name, nil) == api.OK {
			t.Errorf("nil: Load of %q", name)
		}
		is(t, "nil", c.Add(name, b), api.ErrName)
		is(t, "nil", c.Drop(name), api.ErrName)
		isNot(t, "nil", c, name)
	}
	if l := c.Names(); len(l) != 0 {
		t.Errorf("nil: names %q", l)
	}
	for _, first := range []func(p *pair) api.Errno{
		func(p *pair) api.Errno { return p.create(t, "a", 1) },
		func(p *pair) api.Errno { return p.load(t, "a", string(b)) },
	} {
		p := &pair{Catalog: &catalog.Catalog{}}
		p.held(t, "no New's")
		is(t, "no table", p.drop(t, "a"), api.ErrName)
		is(t, "no table", p.add(t, "a", string(b)), api.ErrName)
		is(t, "a table", first(p), api.OK)
		is(t, "a row", p.add(t, "a", nones(1).b), api.OK)
	}
}
