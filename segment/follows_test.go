package segment_test

import (
	"slices"
	"testing"

	"hopper/api"
	"hopper/gram"
	"hopper/need"
	"hopper/segment"
)

// P18.3: what follows. P4: what is read has the same rows.

// rowsIn are all rows of a table, in order.
func rowsIn(x table) [][]api.Val {
	return slices.Concat(x.groups...)
}

func TestWhatIsWrittenIsReadWithTheSameRows(t *testing.T) {
	next := draws(1831)
	for i := range 300 {
		x := drawn(next, 40)
		s := taken(t, made(t, x, drawnCodings(next, x.cols), sizes[i%len(sizes)]))
		if s.Cols != x.cols || s.Len() != len(rowsIn(x)) || !sameRows(s.Rows(), rowsIn(x)) {
			t.Errorf("%s: %d columns, %d rows", few(x), s.Cols, s.Len())
		}
		if len(s.Groups) != len(x.groups) {
			t.Fatalf("%s: %d groups", few(x), len(s.Groups))
		}
		for k, rows := range x.groups {
			alone := segment.Segment{Cols: s.Cols, Groups: s.Groups[k : k+1]}
			if s.Groups[k].Rows != len(rows) || !sameRows(alone.Rows(), rows) {
				t.Errorf("%s: group %d has %d rows", few(x), k, s.Groups[k].Rows)
			}
		}
	}
}

// What is read is written to the same bytes again, in the same groups with the
// same codings and bits.
func TestWhatIsReadIsWrittenAsItStood(t *testing.T) {
	next := draws(1832)
	for i := range 200 {
		x := drawn(next, 30)
		o, bits := drawnCodings(next, x.cols), sizes[i%8]
		b := made(t, x, o, bits)
		rows := taken(t, b).Rows()
		again := table{cols: x.cols}
		for _, group := range x.groups {
			again.groups = append(again.groups, rows[:len(group)])
			rows = rows[len(group):]
		}
		if c := made(t, again, o, bits); string(c) != string(b) {
			t.Errorf("%s: %x, and again %x", few(x), b, c)
		}
	}
}

func TestRowsHangOnNoGroupsCodingsOrBits(t *testing.T) {
	next := draws(1833)
	for range 60 {
		x := drawn(next, 40)
		rows := rowsIn(x)
		for i := range 8 {
			other := table{x.cols, parted(next, rows)}
			s := taken(t, made(t, other, drawnCodings(next, x.cols), sizes[i]))
			if s.Cols != x.cols || s.Len() != len(rows) || !sameRows(s.Rows(), rows) {
				t.Errorf("%s: parted as %s: %d rows", few(x), few(other), s.Len())
			}
		}
	}
}

// filtersHold says that the filters of a segment are those of its values: they
// have each gram that is there, and, if they are exact, no other.
func filtersHold(t *testing.T, s *segment.Segment) {
	t.Helper()
	for i, g := range s.Groups {
		for col, f := range g.Filters {
			l := stringsOf(g.Chunks[col].All())
			for _, x := range gramsOf(l) {
				if !gram.Has(f, x) {
					t.Errorf("group %d, column %d: no gram %x", i, col, x)
				}
			}
			if f.Bits == 0 && !slices.Equal(f.List, gramsOf(l)) {
				t.Errorf("group %d, column %d: %x of %q", i, col, f.List, l)
			}
			for _, s := range l {
				if !gram.May(f, s) {
					t.Errorf("group %d, column %d: may not have %q", i, col, s)
				}
			}
		}
	}
}

// drawnPred is a right predicate for so many columns, at most so deep.
func drawnPred(next func(int) int, cols, deep int) api.Pred {
	if deep > 1 && next(3) == 0 {
		p := api.Pred{Kind: api.PredAnd + next(3)}
		p.Kids = append(p.Kids, drawnPred(next, cols, deep-1))
		for p.Kind != api.PredNot && next(3) > 0 && len(p.Kids) < 4 {
			p.Kids = append(p.Kids, drawnPred(next, cols, deep-1))
		}
		return p
	}
	p := api.Pred{Kind: 1 + next(api.PredNull), Col: next(cols)}
	switch {
	case p.Kind == api.PredLike:
		p.S, p.Esc = []string{"%", "_", ""}[next(3)]+drawnText(next, 7)+[]string{"%", "_", ""}[next(3)], -1
	case p.Kind != api.PredNull:
		p.S = drawnText(next, 7)
	}
	if p.Kind <= api.PredGe {
		p.Coll = next(3)
	}
	return p
}

// skipIsSound says that of the groups which a predicate lets be skipped no row
// is picked; it answers how many are skipped, and how many aren't.
func skipIsSound(t *testing.T, s *segment.Segment, p api.Pred) (skipped, not int) {
	t.Helper()
	for i, g := range s.Groups {
		if !need.Skip(p, g.Filters) {
			not++
			continue
		}
		skipped++
		alone := segment.Segment{Cols: s.Cols, Groups: s.Groups[i : i+1]}
		for _, row := range alone.Rows() {
			if need.Says(p, row) == api.Yes {
				t.Errorf("group %d is skipped by %+v, which picks %s", i, p, fewValues(row))
			}
		}
	}
	return skipped, not
}

// P3: what is skipped has no row of which the predicate says Yes.
func TestSkipOfWhatIsWritten(t *testing.T) {
	next := draws(1834)
	skipped, not := 0, 0
	for i := range 150 {
		x := drawn(next, 30)
		s := taken(t, made(t, x, drawnCodings(next, x.cols), sizes[i%len(sizes)]))
		filtersHold(t, s)
		for range 40 {
			n, m := skipIsSound(t, s, drawnPred(next, x.cols, 3))
			skipped, not = skipped+n, not+m
		}
	}
	if skipped < 2000 || not < 2000 {
		t.Errorf("%d are skipped, and %d aren't", skipped, not)
	}
}

func TestSkipOfWhateverIsRead(t *testing.T) {
	next := draws(1835)
	read, skipped, not := 0, 0, 0
	for _, inside := range small() {
		for i := range inside {
			for turned := range 256 {
				s, e := segment.Read([]byte(sealed(inside[:i] + string([]byte{byte(turned)}) + inside[i+1:])))
				if e != api.OK {
					continue
				}
				read++
				filtersHold(t, s)
				for range 4 {
					n, m := skipIsSound(t, s, drawnPred(next, s.Cols, 2))
					skipped, not = skipped+n, not+m
				}
			}
		}
	}
	if read < 1000 || skipped < 100 || not < 100 {
		t.Errorf("%d are read; %d groups are skipped, and %d aren't", read, skipped, not)
	}
}

// Groups without these grams are skipped, others aren't.
func TestSkipOfSomeGroups(t *testing.T) {
	x := table{2, [][][]api.Val{
		{{{S: "banana"}, {S: "yellow"}}, {{S: "ananas"}, none}},
		{{{S: "cherry"}, {S: "red"}}},
		{{none, {S: "nana"}}, {{S: "na"}, {S: "an"}}},
	}}
	s := taken(t, made(t, x, times(2, plain), 0))
	for _, k := range []struct {
		p    api.Pred
		want []bool
	}{
		{api.Pred{Kind: api.PredHas, Col: 0, S: "nana"}, []bool{false, true, true}},
		{api.Pred{Kind: api.PredHas, Col: 1, S: "nana"}, []bool{true, true, false}},
		{api.Pred{Kind: api.PredEq, Col: 0, S: "cherry"}, []bool{true, false, true}},
		{api.Pred{Kind: api.PredLike, Col: 1, S: "yel%low", Esc: -1}, []bool{false, true, true}},
		{api.Pred{Kind: api.PredHas, Col: 0, S: "na"}, []bool{false, false, false}},
		{api.Pred{Kind: api.PredNull, Col: 0}, []bool{false, false, false}},
	} {
		for i, want := range k.want {
			if got := need.Skip(k.p, s.Groups[i].Filters); got != want {
				t.Errorf("group %d, %+v: skipped %v", i, k.p, got)
			}
		}
		skipIsSound(t, s, k.p)
	}
}
