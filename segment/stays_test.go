package segment_test

import (
	"bytes"
	"math"
	"slices"
	"testing"

	"hopper/api"
	"hopper/chunk"
	"hopper/gram"
	"hopper/segment"
)

// P18.4: what is handed in stays, and isn't kept; what is answered is new
// memory. P1: every call ends.

// over writes into all of a list, and behind its end.
func over[T any](l []T, x T) {
	l = l[:cap(l)]
	for i := range l {
		l[i] = x
	}
}

// roomy is a list with room behind its end, where x stands.
func roomy[T any](l []T, x T) []T {
	all := append(slices.Clone(l), x, x, x)
	return all[:len(l)]
}

// same says whether two lists are the same, with what stands behind their ends.
func same(a, b []api.Val) bool {
	return slices.Equal(a[:cap(a)], b[:cap(b)])
}

// sameCoding says whether two codings are the same.
func sameCoding(a, b api.Coding) bool {
	return a.Kind == b.Kind && a.Block == b.Block && a.Rounds == b.Rounds && slices.Equal(a.Draws, b.Draws)
}

// deep is a copy of groups that shares nothing with them.
func deep(groups [][][]api.Val) [][][]api.Val {
	var all [][][]api.Val
	for _, rows := range groups[:cap(groups)] {
		var l [][]api.Val
		for _, row := range rows[:cap(rows)] {
			l = append(l, slices.Clone(row[:cap(row)]))
		}
		all = append(all, l)
	}
	return all
}

// roomyTable is a table whose lists have room behind their ends.
func roomyTable() table {
	other := api.Val{S: "other"}
	var groups [][][]api.Val
	for _, rows := range [][][]api.Val{{vals("b", "abcd"), {none, {S: "ab"}}}, {vals("abab", "")}} {
		var l [][]api.Val
		for _, row := range rows {
			l = append(l, roomy(row, other))
		}
		groups = append(groups, roomy(l, []api.Val{other}))
	}
	return table{2, roomy(groups, [][]api.Val{{other}})}
}

func TestWhatWriteIsGivenStays(t *testing.T) {
	for _, kind := range kinds {
		x := roomyTable()
		was := deep(x.groups)
		numbers := roomy([]int{3, -1, 2}, 77)
		numbersWere := slices.Clone(numbers[:cap(numbers)])
		o := roomy(times(2, api.Coding{Kind: kind, Block: 2, Rounds: 2, Draws: numbers}), api.Coding{Kind: 99})
		codingsWere := slices.Clone(o[:cap(o)])
		made(t, x, o, 8)
		if _, e := segment.Write(3, x.groups, o, 8); e != api.ErrArg {
			t.Errorf("error %d", e)
		}
		for i, rows := range x.groups[:cap(x.groups)] {
			for k, row := range rows[:cap(rows)] {
				if !same(row, was[i][k]) {
					t.Errorf("kind %d: group %d, row %d is %v, not %v", kind, i, k, row[:cap(row)], was[i][k])
				}
			}
		}
		if !slices.Equal(numbers[:cap(numbers)], numbersWere) {
			t.Errorf("kind %d: draws %v", kind, numbers[:cap(numbers)])
		}
		if !slices.EqualFunc(o[:cap(o)], codingsWere, sameCoding) {
			t.Errorf("kind %d: codings %+v", kind, o[:cap(o)])
		}
	}
}

func TestWhatWriteIsGivenIsNotKept(t *testing.T) {
	for _, kind := range kinds {
		x, draw := roomyTable(), []int{2, 0}
		o := times(2, api.Coding{Kind: kind, Block: 2, Rounds: 2, Draws: draw})
		want := bytesOf(x, o, 0)
		b := made(t, x, o, 0)
		x.groups[0][0][0], x.groups[1][0][1].S = none, "wholly other"
		draw[0] = 1
		if string(b) != want {
			t.Errorf("kind %d: %x, not %x", kind, b, want)
		}
		if other := bytesOf(x, o, 0); string(made(t, x, o, 0)) != other {
			t.Errorf("kind %d: the old ones are kept", kind)
		}
		x.groups[0] = x.groups[0][:1]
		o[0] = plain
		if string(b) != want || string(made(t, x, o, 0)) != bytesOf(x, o, 0) {
			t.Errorf("kind %d: the old groups or codings are kept", kind)
		}
	}
}

func TestWhatReadIsGivenStays(t *testing.T) {
	for _, kind := range kinds {
		x, o := roomyTable(), times(2, api.Coding{Kind: kind, Block: 2, Rounds: 2, Draws: []int{2, 0}})
		for _, bits := range []int{0, 9} {
			want := toldOf(x, o, bits)
			b := roomy(made(t, x, o, bits), 'x')
			was := bytes.Clone(b[:cap(b)])
			s := taken(t, b)
			held(t, "as it stands", s, want)
			if !bytes.Equal(b[:cap(b)], was) {
				t.Errorf("kind %d: %x, not %x", kind, b[:cap(b)], was)
			}
			over(b, 0xff)
			held(t, "with its bytes written into", s, want)
			filtersHold(t, s)
			broken := bytes.Clone(was)
			if _, e := segment.Read(broken[:len(b)-1]); e != api.ErrCorrupt || !bytes.Equal(broken, was) {
				t.Errorf("kind %d: error %d, %x", kind, e, broken)
			}
		}
	}
}

func TestWriteAnswersNewMemory(t *testing.T) {
	for _, kind := range kinds {
		for _, x := range []table{roomyTable(), {2, nil}} {
			o := times(2, api.Coding{Kind: kind, Block: 2, Rounds: 2, Draws: []int{2, 0}})
			want := bytesOf(x, o, 0)
			a, b := made(t, x, o, 0), made(t, x, o, 0)
			over(a, 0)
			if string(b) != want || string(made(t, x, o, 0)) != want {
				t.Errorf("kind %d: %x, not %x", kind, b, want)
			}
		}
	}
}

func TestRowsAnswersNewMemory(t *testing.T) {
	other := api.Val{S: "other"}
	for _, kind := range kinds {
		x, o := roomyTable(), times(2, api.Coding{Kind: kind, Block: 2, Rounds: 2, Draws: []int{2, 0}})
		s, want := taken(t, made(t, x, o, 0)), toldOf(x, o, 0)
		rows, again := s.Rows(), s.Rows()
		for i, row := range rows {
			over(row, other)
			for k := i + 1; k < len(rows); k++ {
				if !slices.Equal(rows[k], again[k]) {
					t.Errorf("kind %d: row %d is %v, with row %d written into", kind, k, rows[k], i)
				}
			}
		}
		over(rows, []api.Val{other})
		if !sameRows(again, want.rows()) {
			t.Errorf("kind %d: %v", kind, again)
		}
		held(t, "Rows written into", s, want)
	}
}

// Nothing that a segment has is another one's, or anything else's of its own.
func TestReadAnswersNewMemory(t *testing.T) {
	for _, bits := range []int{0, 9} {
		x, o := table{3, cut(wide(3, 6), 2)}, []api.Coding{plain, {Kind: api.Front, Block: 2}, {Kind: api.Fsst, Block: 1}}
		b, want := made(t, x, o, bits), toldOf(x, o, bits)
		s, again := taken(t, b), taken(t, b)
		for i := range s.Groups {
			for col := range 3 {
				f := s.Groups[i].Filters[col]
				over(f.List, 7)
				over(f.Set, true)
				s.Groups[i].Filters[col] = api.Filter{Bits: 77}
				*s.Groups[i].Chunks[col] = chunk.Chunk{}
			}
			_ = append(s.Groups[i].Filters, api.Filter{Bits: 78})
			_ = append(s.Groups[i].Chunks, nil)
			held(t, "another one, of the same bytes", again, want)
			rest := told{cols: 3, groups: want.groups[i+1:]}
			held(t, "the groups behind it", &segment.Segment{Cols: 3, Groups: s.Groups[i+1:]}, rest)
		}
		over(s.Groups, segment.Group{})
		held(t, "another one, of the same bytes", again, want)
		held(t, "read anew", taken(t, b), want)
	}
}

func TestFiltersOfOneGroupAreApart(t *testing.T) {
	for _, bits := range []int{0, 9} {
		x := table{3, [][][]api.Val{{vals("abcd", "abcd", "abcd")}}}
		s := taken(t, made(t, x, times(3, plain), bits))
		want := filterOf([]string{"abcd"}, bits)
		over(s.Groups[0].Filters[0].List, 7)
		over(s.Groups[0].Filters[0].Set, true)
		for _, f := range s.Groups[0].Filters[1:] {
			if b := gram.Write(f); string(b) != want {
				t.Errorf("bits %d: %x, not %x", bits, b, want)
			}
		}
	}
}

// Of nil nothing is promised but that calls end; nor of groups that no Read
// answers.
func TestCallsOfWhateverSegmentEnd(t *testing.T) {
	var s *segment.Segment
	if s.Len() != 0 || len(s.Rows()) != 0 {
		t.Errorf("nil: %d, %v", s.Len(), s.Rows())
	}
	if b, e := segment.Read(nil); b != nil || e != api.ErrCorrupt {
		t.Errorf("nil: error %d", e)
	}
	k := taken(t, made(t, one(vals("a", "b")...), times(1, plain), 0)).Groups[0].Chunks[0]
	for _, n := range []int{math.MinInt, -1, 0, 1, 2, 3, 4096, 4097, 1 << 40, math.MaxInt} {
		for _, chunks := range [][]*chunk.Chunk{nil, {nil}, {k}, {k, nil, {}}} {
			for _, cols := range []int{math.MinInt, -1, 0, 1, 9, math.MaxInt} {
				s := segment.Segment{Cols: cols, Groups: []segment.Group{{Rows: n, Chunks: chunks}, {Rows: n}}}
				if rows := s.Rows(); s.Len() != len(rows) || len(rows) > 8192 {
					t.Errorf("%d rows, %d chunks: Len %d, %d rows", n, len(chunks), s.Len(), len(rows))
				}
			}
		}
	}
}

// Whatever is handed in: each call ends, and answers bytes that are read with
// the same rows, or ErrArg.
func TestCallsEnd(t *testing.T) {
	next := draws(1841)
	refused := 0
	for range 3000 {
		x := drawn(next, 12)
		o := drawnCodings(next, x.cols)
		bits := []int{0, 0, 0, 8, 9, 64, 65536, 65537, -1}[next(9)]
		switch next(12) {
		case 0:
			x.cols = next(11) - 1
		case 1:
			o = o[:next(len(o)+1)]
		case 2:
			o[next(len(o))].Block = next(70) - 3
		case 3:
			x.groups = append(x.groups, nil)
		case 4:
			x.groups = append(x.groups, [][]api.Val{slices.Repeat(vals("abc"), next(10))})
		case 5:
			x.groups = append(x.groups, [][]api.Val{slices.Repeat([]api.Val{{Null: next(2) == 0, S: "abc"}}, x.cols)})
		}
		b, e := segment.Write(x.cols, x.groups, o, bits)
		s, e2 := segment.Read(b)
		switch {
		case e == api.ErrArg && len(b) == 0 && e2 == api.ErrCorrupt && s == nil:
			refused++
		case e != api.OK || e2 != api.OK || !sameRows(s.Rows(), rowsIn(x)):
			t.Errorf("%s, bits %d: error %d, and of Read %d", few(x), bits, e, e2)
		}
	}
	if refused < 500 || refused > 2500 {
		t.Errorf("%d of 3000 are refused", refused)
	}
}
