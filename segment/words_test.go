package segment_test

import (
	"slices"
	"strconv"
	"strings"
	"testing"

	"hopper/api"
	"hopper/chunk"
	"hopper/cursor"
	"hopper/gram"
	"hopper/segment"
)

// What the words say: bytes put together part by part, and taken apart one by
// one. Chunks are chapter 17's.

// varint is a number's.
func varint(n int) string {
	if n < 128 {
		return string([]byte{byte(n)})
	}
	return string([]byte{byte(n%128 + 128)}) + varint(n/128)
}

// sumOf are the four bytes of a sum, reckoned bit by bit.
func sumOf(b string) string {
	sum := ^uint32(0)
	for i := range len(b) {
		sum ^= uint32(b[i])
		for range 8 {
			if sum%2 == 1 {
				sum = sum/2 ^ 0xedb88320
			} else {
				sum /= 2
			}
		}
	}
	sum = ^sum
	return string([]byte{byte(sum), byte(sum >> 8), byte(sum >> 16), byte(sum >> 24)})
}

// sealed are bytes and their sum.
func sealed(b string) string {
	return b + sumOf(b)
}

// gramsOf are the grams of strings, rising, each once.
func gramsOf(l []string) []int {
	var all []int
	for _, s := range l {
		for i := 0; i+2 < len(s); i++ {
			all = append(all, int(s[i])*65536+int(s[i+1])*256+int(s[i+2]))
		}
	}
	slices.Sort(all)
	return slices.Compact(all)
}

// packed are numbers of a width, put bit by bit.
func packed(l []int, width int) string {
	b := make([]byte, (len(l)*width+7)/8)
	for i, x := range l {
		for k := range width {
			if at := i*width + k; x>>k&1 == 1 {
				b[at/8] |= 1 << (at % 8)
			}
		}
	}
	return string(b)
}

// listOf are the bytes of an exact filter that has these grams.
func listOf(grams []int) string {
	steps, width := slices.Clone(grams), 0
	for i := len(steps) - 1; i > 0; i-- {
		steps[i] -= steps[i-1]
	}
	for _, x := range steps {
		for x>>width > 0 {
			width++
		}
	}
	return "\x00" + varint(len(steps)) + string([]byte{byte(width)}) + packed(steps, width)
}

// setOf are the bytes of a filter of so many bits that has these grams.
func setOf(grams []int, bits int) string {
	b := make([]byte, (bits+7)/8)
	for _, g := range grams {
		at := g * 40503 % 65521 % bits
		b[at/8] |= 1 << (at % 8)
	}
	return varint(bits) + varint(bits) + string(b)
}

// filterOf are the bytes of the strings' filter; none where there can't be one.
func filterOf(l []string, bits int) string {
	grams := gramsOf(l)
	switch {
	case bits < 0 || bits > 65536 || bits == 0 && len(grams) > 65536:
		return ""
	case bits == 0:
		return listOf(grams)
	}
	return setOf(grams, bits)
}

// stringsOf are the strings that are there.
func stringsOf(l []api.Val) []string {
	var all []string
	for _, v := range l {
		if !v.Null {
			all = append(all, v.S)
		}
	}
	return all
}

// columnOf are the values of a column.
func columnOf(rows [][]api.Val, col int) []api.Val {
	var l []api.Val
	for _, row := range rows {
		l = append(l, row[col])
	}
	return l
}

// chunkOf are the bytes of values, as chapter 17 codes them.
func chunkOf(l []api.Val, o api.Coding) string {
	b, e := chunk.Code(l, o)
	if e != api.OK {
		panic("values that may not be coded")
	}
	return string(b)
}

// plainOf is a chunk of these values, as they are.
func plainOf(l ...api.Val) string {
	return chunkOf(l, plain)
}

// partOf are a column's filter and chunk.
func partOf(l []api.Val, o api.Coding, bits int) string {
	return filterOf(stringsOf(l), bits) + chunkOf(l, o)
}

// groupOf are the bytes of a group.
func groupOf(rows [][]api.Val, o []api.Coding, bits int) string {
	b := varint(len(rows))
	for col := range o {
		b += partOf(columnOf(rows, col), o[col], bits)
	}
	return b
}

// insideOf are the bytes of a table's rows, ahead of their sum.
func insideOf(x table, o []api.Coding, bits int) string {
	var b strings.Builder
	b.WriteString(varint(x.cols) + varint(len(x.groups)))
	for _, rows := range x.groups {
		b.WriteString(groupOf(rows, o, bits))
	}
	return b.String()
}

// bytesOf are the bytes of a table's rows.
func bytesOf(x table, o []api.Coding, bits int) string {
	return sealed(insideOf(x, o, bits))
}

// told is what a segment has.
type told struct {
	cols   int
	groups []toldGroup
}

// toldGroup is what a group has, column by column.
type toldGroup struct {
	rows  int
	parts []toldPart
}

// toldPart is what a group has of a column: a filter's bytes, and a chunk.
type toldPart struct {
	filter string
	kind   int
	l      []api.Val
}

// toldOf is the segment of a table's rows.
func toldOf(x table, o []api.Coding, bits int) told {
	s := told{cols: x.cols}
	for _, rows := range x.groups {
		g := toldGroup{rows: len(rows)}
		for col := range x.cols {
			l := columnOf(rows, col)
			kind := int(chunkOf(l, o[col])[0])
			g.parts = append(g.parts, toldPart{filterOf(stringsOf(l), bits), kind, l})
		}
		s.groups = append(s.groups, g)
	}
	return s
}

// rows are all rows, in order.
func (s told) rows() [][]api.Val {
	var all [][]api.Val
	for _, g := range s.groups {
		for i := range g.rows {
			var row []api.Val
			for _, part := range g.parts {
				row = append(row, part.l[i])
			}
			all = append(all, row)
		}
	}
	return all
}

// reader reads bytes one by one, up to what can't be.
type reader struct {
	b   string
	bad bool
}

// number is a varint's, from least to most.
func (r *reader) number(least, most int) int {
	n := 0
	for i := 0; i < min(len(r.b), 9) && !r.bad; i++ {
		n += int(r.b[i]%128) << (7 * i)
		if r.b[i] >= 128 {
			continue
		}
		r.bad = n < least || n > most || i > 0 && r.b[i] == 0
		r.b = r.b[i+1:]
		return n
	}
	r.bad = true
	return 0
}

// by are the bytes that a chapter below takes.
func (r *reader) by(take func(c *cursor.Cursor)) string {
	c := cursor.New([]byte(r.b))
	take(c)
	r.bad = r.bad || !c.Good()
	size := len(r.b) - c.Left()
	b := r.b[:size]
	r.b = r.b[size:]
	return b
}

// part is a column's filter and chunk, of so many rows.
func (r *reader) part(rows int) toldPart {
	var f api.Filter
	var k *chunk.Chunk
	b := r.by(func(c *cursor.Cursor) { f = gram.Read(c) })
	r.by(func(c *cursor.Cursor) { k = chunk.Open(c) })
	if r.bad || k.Len() != rows || b != filterOf(stringsOf(k.All()), f.Bits) {
		r.bad = true
		return toldPart{}
	}
	return toldPart{b, k.Kind(), k.All()}
}

// readOf is the segment that sealed bytes are, if they are one.
func readOf(b string) (told, bool) {
	at := len(b) - 4
	if at < 0 || sumOf(b[:at]) != b[at:] {
		return told{}, false
	}
	r, rows := reader{b: b[:at]}, 0
	s := told{cols: r.number(1, 8)}
	for range r.number(0, 4096) {
		g := toldGroup{rows: r.number(1, 4096-rows)}
		for col := 0; col < s.cols && !r.bad; col++ {
			g.parts = append(g.parts, r.part(g.rows))
		}
		if r.bad {
			break
		}
		s.groups = append(s.groups, g)
		rows += g.rows
	}
	if r.bad || r.b != "" {
		return told{}, false
	}
	return s, true
}

// Holding one against the other.

// few is a table that is short enough to be told.
func few(x table) string {
	s := strconv.Itoa(x.cols) + " columns, " + strconv.Itoa(len(x.groups)) + " groups"
	for _, rows := range x.groups[:min(len(x.groups), 3)] {
		s += ", " + strconv.Itoa(len(rows)) + " rows"
		for _, row := range rows[:min(len(rows), 2)] {
			s += " " + fewValues(row)
		}
	}
	return s
}

// fewValues is a row that is short enough to be told.
func fewValues(row []api.Val) string {
	s := "("
	for _, v := range row[:min(len(row), 9)] {
		if v.Null {
			s += " none"
		} else {
			s += " " + strconv.Quote(v.S[:min(len(v.S), 12)])
		}
	}
	return s + " )"
}

// short is a string's beginning.
func short[T string | []byte](b T) string {
	return strconv.Itoa(len(b)) + " bytes " + strconv.Quote(string(b[:min(len(b), 60)]))
}

// sameRows says whether rows are the same.
func sameRows(a, b [][]api.Val) bool {
	return slices.EqualFunc(a, b, func(x, y []api.Val) bool { return slices.Equal(x, y) })
}

// held holds a segment against what is told of it.
func held(t *testing.T, what string, s *segment.Segment, x told) {
	t.Helper()
	rows := x.rows()
	if s.Cols != x.cols || len(s.Groups) != len(x.groups) || s.Len() != len(rows) {
		t.Errorf("%s: %d columns, %d groups, Len %d; not %d, %d, %d", what, s.Cols, len(s.Groups), s.Len(), x.cols, len(x.groups), len(rows))
		return
	}
	if got := s.Rows(); !sameRows(got, rows) {
		t.Errorf("%s: Rows are %s; not %s", what, few(table{s.Cols, [][][]api.Val{got}}), few(table{x.cols, [][][]api.Val{rows}}))
	}
	for i, g := range x.groups {
		heldGroup(t, what+", group "+strconv.Itoa(i), s.Groups[i], g)
	}
}

// heldGroup holds a group against what is told of it.
func heldGroup(t *testing.T, what string, g segment.Group, x toldGroup) {
	t.Helper()
	if g.Rows != x.rows || len(g.Filters) != len(x.parts) || len(g.Chunks) != len(x.parts) {
		t.Errorf("%s: %d rows, %d filters, %d chunks; not %d, %d", what, g.Rows, len(g.Filters), len(g.Chunks), x.rows, len(x.parts))
		return
	}
	for col, part := range x.parts {
		f, k := g.Filters[col], g.Chunks[col]
		if b := gram.Write(f); string(b) != part.filter {
			t.Errorf("%s: filter %d is %s; not %s", what, col, short(b), short(part.filter))
		}
		if k.Kind() != part.kind || !slices.Equal(k.All(), part.l) {
			t.Errorf("%s: chunk %d is of kind %d, %s; not %d, %s", what, col, k.Kind(), fewValues(k.All()), part.kind, fewValues(part.l))
		}
	}
}

// Tables, codings, and what is asked.

// table is rows, parted into groups.
type table struct {
	cols   int
	groups [][][]api.Val
}

// none is a value that is none.
var none = api.Val{Null: true}

// plain is a coding that leaves strings as they are.
var plain = api.Coding{Kind: api.Plain, Block: 1}

// kinds are those that a coding may have.
var kinds = []int{api.Best, api.Plain, api.Fsst, api.Front}

// sizes are bits that a filter may have.
var sizes = []int{0, 1, 2, 7, 8, 9, 64, 1000, 65521, 65536}

// vals are strings that are there.
func vals(l ...string) []api.Val {
	var all []api.Val
	for _, s := range l {
		all = append(all, api.Val{S: s})
	}
	return all
}

// rowsOf are rows of one column.
func rowsOf(l ...api.Val) [][]api.Val {
	var rows [][]api.Val
	for _, v := range l {
		rows = append(rows, []api.Val{v})
	}
	return rows
}

// one is a table of one column, and one group of these.
func one(l ...api.Val) table {
	return table{1, [][][]api.Val{rowsOf(l...)}}
}

// named are n strings that rise, and have the same beginning.
func named(n int, begin string) []string {
	l := make([]string, n)
	for i := range l {
		digits := strconv.Itoa(i)
		l[i] = begin + strings.Repeat("0", 5-len(digits)) + digits
	}
	return l
}

// long is a string of so many bytes, others for each seed.
func long(n int, seed uint64) string {
	b := make([]byte, n)
	for i := range b {
		seed = seed*6364136223846793005 + 1442695040888963407
		b[i] = byte(seed >> 40)
	}
	return string(b)
}

// cut parts rows into groups of n.
func cut(rows [][]api.Val, n int) [][][]api.Val {
	return slices.Collect(slices.Chunk(rows, n))
}

// times are n codings that are alike.
func times(n int, o api.Coding) []api.Coding {
	return slices.Repeat([]api.Coding{o}, n)
}

// wide are rows of so many columns, whose values are all unlike.
func wide(cols, rows int) [][]api.Val {
	var all [][]api.Val
	for i := range rows {
		var row []api.Val
		for col := range cols {
			row = append(row, api.Val{S: "r" + strconv.Itoa(i) + "/c" + strconv.Itoa(col)})
		}
		all = append(all, row)
	}
	return all
}

// tables are some that may be.
func tables() []table {
	l := []table{
		{1, nil}, {2, [][][]api.Val{}}, {8, nil},
		one(none), one(vals("")...), one(vals("a")...), one(vals("abc")...), one(vals("abcd")...), one(none, none, none), one(api.Val{S: "abc"}, none, api.Val{S: ""}),
		one(vals("\x00\x00\x00", "\xff\xff\xff", "\x00", "\xff")...), one(vals("banana", "bandana", "nana", "banana")...), one(vals(long(4096, 1), strings.Repeat("ab", 2048))...),
		{1, cut(rowsOf(vals("abc", "", "abc", "abcd", "x")...), 1)},
		{1, cut(rowsOf(vals(named(300, "user/")...)...), 128)},
		{1, cut(rowsOf(slices.Repeat(vals("abc", "bcd"), 75)...), 1)},
		{2, [][][]api.Val{{{{S: "alpha"}, none}, {{S: "beta"}, {S: "x"}}}, {{none, none}}, {{{S: "alpha"}, {S: ""}}}}},
		{3, [][][]api.Val{{{{S: "abcdef"}, {S: "abcdef"}, none}}, {{none, {S: "abcdef"}, {S: "abc"}}, {{S: "\x00\x01\x02"}, none, {S: "abcabc"}}}}},
	}
	for cols := 1; cols <= 8; cols++ {
		l = append(l, table{cols, cut(wide(cols, 7), cols)})
	}
	return l
}

// codings are some for so many columns that may be, each kind in each column.
func codings(cols int) [][]api.Coding {
	var all [][]api.Coding
	for first := range kinds {
		var o []api.Coding
		for col := range cols {
			o = append(o, api.Coding{Kind: kinds[(first+col)%4], Block: 1 + (first*21+col)%64, Rounds: (first + col) % 9, Draws: []int{0, col, -first}[:first]})
		}
		all = append(all, o)
	}
	return all
}

// draws answers a function that draws numbers below n, the same each time for
// one seed.
func draws(seed uint32) func(n int) int {
	return func(n int) int {
		seed = seed*1664525 + 1013904223
		return int(seed>>8) % n
	}
}

// drawnText is a string of fewer than n bytes, of few sorts.
func drawnText(next func(int) int, n int) string {
	b := make([]byte, next(n))
	for i := range b {
		b[i] = "aabb\x00\xff"[next(6)]
	}
	return string(b)
}

// drawnValue is one that is there, or none.
func drawnValue(next func(int) int) api.Val {
	if next(5) == 0 {
		return none
	}
	return api.Val{S: drawnText(next, 9)}
}

// drawn is a table of fewer than n rows, parted into groups.
func drawn(next func(int) int, n int) table {
	x := table{cols: 1 + next(8)}
	var rows [][]api.Val
	for range next(n) {
		var row []api.Val
		for range x.cols {
			row = append(row, drawnValue(next))
		}
		rows = append(rows, row)
	}
	x.groups = parted(next, rows)
	return x
}

// parted are rows, parted into groups wherever it is drawn.
func parted(next func(int) int, rows [][]api.Val) [][][]api.Val {
	var groups [][][]api.Val
	for len(rows) > 0 {
		n := 1 + next(min(len(rows), 9))
		groups = append(groups, rows[:n])
		rows = rows[n:]
	}
	return groups
}

// drawnCodings are as many as there are columns, and may be.
func drawnCodings(next func(int) int, cols int) []api.Coding {
	var l []api.Coding
	for range cols {
		o := api.Coding{Kind: kinds[next(4)], Block: 1 + next(64), Rounds: next(4)}
		for range next(4) {
			o.Draws = append(o.Draws, next(40)-20)
		}
		l = append(l, o)
	}
	return l
}

// made is what Write answers, where it may.
func made(t *testing.T, x table, o []api.Coding, bits int) []byte {
	t.Helper()
	b, e := segment.Write(x.cols, x.groups, o, bits)
	if e != api.OK {
		t.Fatalf("Write of %s, bits %d: error %d", few(x), bits, e)
	}
	return b
}

// taken is what Read answers, where it may.
func taken(t *testing.T, b []byte) *segment.Segment {
	t.Helper()
	s, e := segment.Read(b)
	if e != api.OK {
		t.Fatalf("Read of %s: error %d", short(b), e)
	}
	return s
}
