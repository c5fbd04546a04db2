package catalog_test

import (
	"reflect"
	"slices"
	"strconv"
	"strings"
	"testing"

	"hopper/api"
	"hopper/catalog"
	"hopper/segment"
)

// What the words say: tables as lists of segments, their bytes put together
// part by part, and taken apart one by one. Segments are chapter 18's.

// varint is a number's.
func varint(n int) string {
	if n < 128 {
		return string([]byte{byte(n)})
	}
	return string([]byte{byte(n%128 + 128)}) + varint(n/128)
}

// sumOf are the four bytes of a sum, reckoned bit by bit.
func sumOf(b string) string {
	sum := ^uint32(0)
	for i := range len(b) {
		sum ^= uint32(b[i])
		for range 8 {
			if sum%2 == 1 {
				sum = sum/2 ^ 0xedb88320
			} else {
				sum /= 2
			}
		}
	}
	sum = ^sum
	return string([]byte{byte(sum), byte(sum >> 8), byte(sum >> 16), byte(sum >> 24)})
}

// sealed are bytes and their sum.
func sealed(b string) string {
	return b + sumOf(b)
}

// part is a segment: its bytes, and what they are.
type part struct {
	b    string
	cols int
	rows [][]api.Val
}

// partOf is the segment that bytes are, if they are one.
func partOf(b string) (part, bool) {
	s, e := segment.Read([]byte(b))
	if e != api.OK {
		return part{}, false
	}
	return part{b, s.Cols, s.Rows()}, true
}

// told is a table: its columns, and its segments.
type told struct {
	cols  int
	parts []part
}

// rows are those of all segments, in order.
func (x told) rows() [][]api.Val {
	var all [][]api.Val
	for _, p := range x.parts {
		all = append(all, p.rows...)
	}
	return all
}

// inside are a table's bytes, ahead of their sum.
func (x told) inside() string {
	var b strings.Builder
	b.WriteString(varint(x.cols) + varint(len(x.parts)))
	for _, p := range x.parts {
		b.WriteString(varint(len(p.b)) + p.b)
	}
	return b.String()
}

// bytes are a table's.
func (x told) bytes() string {
	return sealed(x.inside())
}

// with is a table with one segment more; or the error of bytes that are none of
// its.
func (x told) with(b string) (told, api.Errno) {
	p, ok := partOf(b)
	switch {
	case !ok || p.cols != x.cols:
		return x, api.ErrCorrupt
	case len(x.rows())+len(p.rows) > 4096:
		return x, api.ErrLimit
	}
	return told{x.cols, append(slices.Clip(x.parts), p)}, api.OK
}

// reader reads bytes one by one, up to what can't be.
type reader struct {
	b   string
	bad bool
}

// number is a varint's.
func (r *reader) number() int {
	n := 0
	for i := 0; i < min(len(r.b), 9) && !r.bad; i++ {
		n += int(r.b[i]%128) << (7 * i)
		if r.b[i] >= 128 {
			continue
		}
		r.bad = i > 0 && r.b[i] == 0
		r.b = r.b[i+1:]
		return n
	}
	r.bad = true
	return 0
}

// bytes are so many.
func (r *reader) bytes(n int) string {
	r.bad = r.bad || n > len(r.b)
	if r.bad {
		return ""
	}
	b := r.b[:n]
	r.b = r.b[n:]
	return b
}

// tableOf is the table that bytes are, if they are one.
func tableOf(b string) (told, bool) {
	at := len(b) - 4
	if at < 0 || sumOf(b[:at]) != b[at:] {
		return told{}, false
	}
	r := reader{b: b[:at]}
	x := told{cols: r.number()}
	r.bad = r.bad || x.cols < 1 || x.cols > 8
	for n := r.number(); n > 0 && !r.bad; n-- {
		var e api.Errno
		x, e = x.with(r.bytes(r.number()))
		r.bad = r.bad || e != api.OK
	}
	return x, !r.bad && r.b == ""
}

// named is a table under its name.
type named struct {
	name string
	told
}

// list is a catalog, as a list of tables.
type list []named

// at is where the table of a name stands; -1, if there is none.
func (l list) at(name string) int {
	return slices.IndexFunc(l, func(x named) bool { return x.name == name })
}

// room is the error of a new table's name.
func (l list) room(name string) api.Errno {
	switch {
	case len(name) < 1 || len(name) > 32:
		return api.ErrArg
	case l.at(name) >= 0:
		return api.ErrName
	case len(l) > 15:
		return api.ErrLimit
	}
	return api.OK
}

// names are all, rising.
func (l list) names() []string {
	var all []string
	for _, x := range l {
		all = append(all, x.name)
	}
	slices.Sort(all)
	return all
}

// A catalog and the list that it should be, to which the same is done.

// pair is both, and the names that any call was given.
type pair struct {
	*catalog.Catalog
	l     list
	asked []string
}

// fresh is a pair without tables.
func fresh() *pair {
	return &pair{Catalog: catalog.New()}
}

// tells holds an error against the one that is told, and all of the catalog
// against the list. It answers the error.
func (p *pair) tells(t *testing.T, what, name string, got, want api.Errno) api.Errno {
	t.Helper()
	if !slices.Contains(p.asked, name) {
		p.asked = append(p.asked, name)
	}
	if got != want {
		t.Errorf("%s of %q, of %d tables: error %d, not %d", what, name, len(p.l), got, want)
	}
	p.held(t, "behind "+what+" of "+strconv.Quote(name))
	return got
}

func (p *pair) create(t *testing.T, name string, cols int) api.Errno {
	t.Helper()
	want := p.l.room(name)
	if cols < 1 || cols > 8 {
		want = api.ErrArg
	}
	if want == api.OK {
		p.l = append(p.l, named{name, told{cols: cols}})
	}
	return p.tells(t, "Create", name, p.Create(name, cols), want)
}

func (p *pair) drop(t *testing.T, name string) api.Errno {
	t.Helper()
	want, at := api.ErrName, p.l.at(name)
	if at >= 0 {
		want, p.l = api.OK, slices.Delete(p.l, at, at+1)
	}
	return p.tells(t, "Drop", name, p.Drop(name), want)
}

func (p *pair) add(t *testing.T, name, b string) api.Errno {
	t.Helper()
	want, at := api.ErrName, p.l.at(name)
	if at >= 0 {
		p.l[at].told, want = p.l[at].with(b)
	}
	return p.tells(t, "Add", name, p.Add(name, []byte(b)), want)
}

func (p *pair) load(t *testing.T, name, b string) api.Errno {
	t.Helper()
	want := p.l.room(name)
	x, ok := tableOf(b)
	switch {
	case want == api.OK && !ok:
		want = api.ErrCorrupt
	case want == api.OK:
		p.l = append(p.l, named{name, x})
	}
	return p.tells(t, "Load", name, p.Load(name, []byte(b)), want)
}

// held holds all that a catalog answers against the list: its names, each
// table, and of names that it was given and of others, that there is none.
func (p *pair) held(t *testing.T, what string) {
	t.Helper()
	if got := p.Names(); !slices.Equal(got, p.l.names()) {
		t.Errorf("%s: Names are %q; not %q", what, got, p.l.names())
	}
	for _, x := range p.l {
		heldTable(t, what+", "+strconv.Quote(x.name), p.Catalog, x)
	}
	for _, name := range append([]string{"", "never", strings.Repeat("x", 33)}, p.asked...) {
		if p.l.at(name) < 0 {
			isNot(t, what, p.Catalog, name)
		}
	}
}

// heldTable holds a table against what is told of it.
func heldTable(t *testing.T, what string, c *catalog.Catalog, x named) {
	t.Helper()
	if b, e := c.Export(x.name); e != api.OK || string(b) != x.bytes() {
		t.Errorf("%s: Export is error %d, %s; not %s", what, e, short(b), short(x.bytes()))
	}
	if rows, e := c.Rows(x.name); e != api.OK || !sameRows(rows, x.rows()) {
		t.Errorf("%s: Rows are error %d, %s; not %s", what, e, few(rows), few(x.rows()))
	}
	l, cols := c.Segments(x.name)
	if cols != x.cols || len(l) != len(x.parts) {
		t.Errorf("%s: Segments are %d, of %d columns; not %d, of %d", what, len(l), cols, len(x.parts), x.cols)
		return
	}
	for i, s := range l {
		heldSegment(t, what+", segment "+strconv.Itoa(i), s, x.parts[i])
	}
}

// heldSegment holds a segment against what is told of it, and with all that it
// has against what chapter 18 reads.
func heldSegment(t *testing.T, what string, s *segment.Segment, x part) {
	t.Helper()
	if s == nil || s.Cols != x.cols || s.Len() != len(x.rows) || !sameRows(s.Rows(), x.rows) {
		t.Errorf("%s: %d rows, %s; not %d, %s", what, s.Len(), few(s.Rows()), len(x.rows), few(x.rows))
		return
	}
	if want, e := segment.Read([]byte(x.b)); e != api.OK || !reflect.DeepEqual(s, want) {
		t.Errorf("%s: %+v, not %+v", what, s, want)
	}
}

// isNot says that there is no table of a name.
func isNot(t *testing.T, what string, c *catalog.Catalog, name string) {
	t.Helper()
	if b, e := c.Export(name); e != api.ErrName || len(b) != 0 {
		t.Errorf("%s: Export of no table, %q, is error %d, %s", what, name, e, short(b))
	}
	if rows, e := c.Rows(name); e != api.ErrName || len(rows) != 0 {
		t.Errorf("%s: Rows of no table, %q, are error %d, %s", what, name, e, few(rows))
	}
	if l, cols := c.Segments(name); len(l) != 0 || cols != 0 {
		t.Errorf("%s: Segments of no table, %q, are %d, of %d columns", what, name, len(l), cols)
	}
}

// is holds an error against the one that it must be.
func is(t *testing.T, what string, got, want api.Errno) {
	t.Helper()
	if got != want {
		t.Errorf("%s: error %d, not %d", what, got, want)
	}
}

// sameRows says whether rows are the same.
func sameRows(a, b [][]api.Val) bool {
	return slices.EqualFunc(a, b, func(x, y []api.Val) bool { return slices.Equal(x, y) })
}

// few are rows, short enough to be told.
func few(rows [][]api.Val) string {
	s := strconv.Itoa(len(rows)) + " rows"
	for _, row := range rows[:min(len(rows), 3)] {
		s += " ("
		for _, v := range row {
			if v.Null {
				s += " none"
			} else {
				s += " " + strconv.Quote(v.S[:min(len(v.S), 12)])
			}
		}
		s += " )"
	}
	return s
}

// short is a string's beginning.
func short[T string | []byte](b T) string {
	return strconv.Itoa(len(b)) + " bytes " + strconv.Quote(string(b[:min(len(b), 60)]))
}

// Segments, and what is asked.

// none is a value that is none.
var none = api.Val{Null: true}

// plain is a coding that leaves strings as they are.
var plain = api.Coding{Kind: api.Plain, Block: 1}

// kinds are those that a coding may have.
var kinds = []int{api.Best, api.Plain, api.Fsst, api.Front}

// sizes are bits that a filter may have.
var sizes = []int{0, 1, 8, 9, 64, 1000, 65536}

// vals are strings that are there.
func vals(l ...string) []api.Val {
	var all []api.Val
	for _, s := range l {
		all = append(all, api.Val{S: s})
	}
	return all
}

// written is the segment of rows in these groups.
func written(cols int, groups [][][]api.Val, o []api.Coding, bits int) part {
	b, e := segment.Write(cols, groups, o, bits)
	if e != api.OK {
		panic("rows that may not be written")
	}
	return part{string(b), cols, slices.Concat(groups...)}
}

// times are n codings that are alike.
func times(n int, o api.Coding) []api.Coding {
	return slices.Repeat([]api.Coding{o}, n)
}

// of is the segment of rows of so many columns, all in one group.
func of(cols int, rows ...[]api.Val) part {
	if len(rows) == 0 {
		return written(cols, nil, times(cols, plain), 0)
	}
	return written(cols, [][][]api.Val{rows}, times(cols, plain), 0)
}

// one is a segment of one column of these values, all in one group.
func one(l ...api.Val) part {
	var rows [][]api.Val
	for _, v := range l {
		rows = append(rows, []api.Val{v})
	}
	return of(1, rows...)
}

// nones is a segment of one column of n values that are none.
func nones(n int) part {
	return one(slices.Repeat([]api.Val{none}, n)...)
}

// wide are rows of so many columns, whose values are all unlike.
func wide(cols, rows int, begin string) [][]api.Val {
	var all [][]api.Val
	for i := range rows {
		var row []api.Val
		for col := range cols {
			row = append(row, api.Val{S: begin + strconv.Itoa(i) + "/" + strconv.Itoa(col)})
		}
		all = append(all, row)
	}
	return all
}

// parts are some segments of so many columns, of each kind.
func parts(cols int) []part {
	l := []part{of(cols), of(cols, wide(cols, 1, "one")...), of(cols, slices.Repeat([]api.Val{none}, cols))}
	for i := range kinds {
		var o []api.Coding
		for col := range cols {
			o = append(o, api.Coding{Kind: kinds[(i+col)%4], Block: 1 + (i*21+col)%64, Rounds: (i + col) % 4, Draws: []int{0, col, -i}[:i]})
		}
		rows := append(wide(cols, 4, "banana "), slices.Repeat(vals("banana"), cols), slices.Repeat([]api.Val{none}, cols))
		l = append(l, written(cols, slices.Collect(slices.Chunk(rows, i+1)), o, sizes[i]))
	}
	return l
}

// tables are some that may be.
func tables() []told {
	var l []told
	for cols := 1; cols <= 8; cols++ {
		all := parts(cols)
		l = append(l, told{cols: cols}, told{cols, all})
		for i := range all {
			l = append(l, told{cols, all[i : i+1]})
		}
	}
	return append(l,
		told{1, []part{nones(4096)}}, told{1, []part{nones(2048), of(1), nones(2048)}}, told{1, slices.Repeat([]part{of(1)}, 200)},
		told{2, []part{of(2, vals("b", "a")), of(2, vals("a", "b")), of(2, vals("b", "a"))}}, told{1, []part{one(vals(strings.Repeat("ab", 2048))...)}},
	)
}

// draws answers a function that draws numbers below n, the same each time for
// one seed.
func draws(seed uint32) func(n int) int {
	return func(n int) int {
		seed = seed*1664525 + 1013904223
		return int(seed>>8) % n
	}
}

// drawnRows are fewer than n rows.
func drawnRows(next func(int) int, cols, n int) [][]api.Val {
	var rows [][]api.Val
	for range next(n) {
		var row []api.Val
		for range cols {
			b := make([]byte, next(9))
			for i := range b {
				b[i] = "aabb\x00\xff"[next(6)]
			}
			v := api.Val{S: string(b)}
			if next(5) == 0 {
				v = none
			}
			row = append(row, v)
		}
		rows = append(rows, row)
	}
	return rows
}

// drawn is a segment of fewer than n rows, however coded and parted.
func drawn(next func(int) int, cols, n int) part {
	var groups [][][]api.Val
	for rows := drawnRows(next, cols, n); len(rows) > 0; {
		size := 1 + next(len(rows))
		groups = append(groups, rows[:size])
		rows = rows[size:]
	}
	var o []api.Coding
	for range cols {
		o = append(o, api.Coding{Kind: kinds[next(4)], Block: 1 + next(64), Rounds: next(3), Draws: []int{next(9), -next(9)}})
	}
	return written(cols, groups, o, sizes[next(6)])
}
