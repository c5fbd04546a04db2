package segment_test

import (
	"math"
	"slices"
	"strconv"
	"strings"
	"testing"

	"hopper/api"
	"hopper/segment"
)

// P18.1: the bytes of a table's rows.

// isWritten holds what is answered of a table against the words.
func isWritten(t *testing.T, x table, o []api.Coding, bits int) {
	t.Helper()
	want := bytesOf(x, o, bits)
	if b, e := segment.Write(x.cols, x.groups, o, bits); e != api.OK || string(b) != want {
		t.Errorf("Write of %s, bits %d is %s, error %d; not %s", few(x), bits, short(b), e, short(want))
	}
}

// isRefused says that a table, codings or bits may not be.
func isRefused(t *testing.T, what string, x table, o []api.Coding, bits int) {
	t.Helper()
	if b, e := segment.Write(x.cols, x.groups, o, bits); e != api.ErrArg || len(b) != 0 {
		t.Errorf("%s: Write of %s, %d codings, bits %d is %s, error %d", what, few(x), len(o), bits, short(b), e)
	}
}

func TestWriteIsTheBytesWritten(t *testing.T) {
	two := table{1, [][][]api.Val{rowsOf(api.Val{S: "abcd"}, none)}}
	four := table{2, [][][]api.Val{{{{S: "abc"}, none}, {{S: ""}, {S: "x"}}}, {{none, {S: "\xff\xff\xff"}}}}}
	for _, x := range []struct {
		x    table
		bits int
		want string
	}{
		{table{1, nil}, 0, "\x01\x00\xbe\x23\xc2\x58"},
		{table{8, nil}, 65536, "\x08\x00\xf7\x98\x00\x89"},
		{one(vals("a")...), 0, "\x01\x01\x01\x00\x00\x00\x01\x01\x01\x01\x01\x01a\xd4\x90\x52\x42"},
		{one(none), 0, "\x01\x01\x01\x00\x00\x00\x01\x01\x00\x00\x00\x84\x5f\x6c\xd7"},
		{two, 0, "\x01\x01\x02\x00\x02\x17\x63\x62\xe1\x80\x80\x00\x01\x02\x01\x01\x03\x04abcd\x3b\x26\x04\x64"},
		{two, 8, "\x01\x01\x02\x08\x08\x02\x01\x02\x01\x01\x03\x04abcd\x22\x57\x1e\x0a"},
		{two, 9, "\x01\x01\x02\x09\x09\x80\x00\x01\x02\x01\x01\x03\x04abcd\x47\x0e\x98\x15"},
		{four, 0, "\x02\x02" +
			"\x02\x00\x01\x17\x63\x62\x61\x01\x02\x03\x02\x02\x03abc\x00\x00\x00\x01\x02\x02\x01\x01\x01x" +
			"\x01\x00\x00\x00\x01\x01\x00\x00\x00\x00\x01\x18\xff\xff\xff\x01\x01\x01\x01\x02\x03\xff\xff\xff" +
			"\x65\x89\xf8\xa6"},
		{four, 3, "\x02\x02" +
			"\x02\x03\x03\x02\x01\x02\x03\x02\x02\x03abc\x03\x03\x00\x01\x02\x02\x01\x01\x01x" +
			"\x01\x03\x03\x00\x01\x01\x00\x00\x00\x03\x03\x01\x01\x01\x01\x01\x02\x03\xff\xff\xff" +
			"\xfd\x5f\x5c\xac"},
	} {
		o := times(x.x.cols, plain)
		if b, e := segment.Write(x.x.cols, x.x.groups, o, x.bits); e != api.OK || string(b) != x.want {
			t.Errorf("Write of %s, bits %d is %x, error %d; not %x", few(x.x), x.bits, b, e, x.want)
		}
		isWritten(t, x.x, o, x.bits)
	}
}

func TestWriteIsTheWords(t *testing.T) {
	for _, x := range tables() {
		for _, o := range codings(x.cols) {
			for _, bits := range sizes[:8] {
				isWritten(t, x, o, bits)
			}
		}
		isWritten(t, x, times(x.cols, plain), 65521)
		isWritten(t, x, times(x.cols, plain), 65536)
	}
}

func TestWriteOfDrawnTables(t *testing.T) {
	next := draws(181)
	for i := range 400 {
		x := drawn(next, 30)
		isWritten(t, x, drawnCodings(next, x.cols), sizes[i%8])
	}
}

// Each column has its own coding, also where all have the same values.
func TestWriteCodesEachColumnByItself(t *testing.T) {
	rows := [][]api.Val{slices.Repeat(vals("abab"), 4), slices.Repeat(vals("ab"), 4)}
	o := []api.Coding{plain, {Kind: api.Fsst, Block: 1, Rounds: 1, Draws: []int{0}}, {Kind: api.Front, Block: 2}, {Kind: api.Front, Block: 1}}
	for range o {
		o = append(o[1:], o[0])
		isWritten(t, table{4, [][][]api.Val{rows}}, o, 0)
		s := taken(t, made(t, table{4, [][][]api.Val{rows}}, o, 0))
		for col, x := range o {
			if kind := s.Groups[0].Chunks[col].Kind(); kind != x.Kind {
				t.Errorf("column %d is of kind %d, not %d", col, kind, x.Kind)
			}
		}
	}
}

func TestWriteOfColumns(t *testing.T) {
	for cols := 1; cols <= 8; cols++ {
		isWritten(t, table{cols, nil}, times(cols, plain), 0)
		isWritten(t, table{cols, cut(wide(cols, 5), 2)}, times(cols, plain), 0)
	}
	for _, cols := range []int{0, 9, 10, 16, 128, 256, 257, 300} {
		isRefused(t, "other columns, no groups", table{cols, nil}, times(cols, plain), 0)
		isRefused(t, "other columns", table{cols, cut(wide(cols, 5), 2)}, times(cols, plain), 0)
	}
	for _, cols := range []int{math.MinInt, -256, -8, -2, -1, 0, 9, 257, 1 << 32, 1<<32 + 1, math.MaxInt} {
		for n := range 9 {
			isRefused(t, "other columns, some codings", table{cols, nil}, times(n, plain), 0)
			isRefused(t, "other columns, some codings and values", table{cols, cut(wide(n, 3), 2)}, times(n, plain), 0)
		}
	}
}

func TestWriteOfGroups(t *testing.T) {
	isWritten(t, table{2, nil}, times(2, plain), 0)
	isWritten(t, table{2, [][][]api.Val{}}, times(2, plain), 0)
	for _, n := range []int{1, 2, 127, 128, 129, 600} {
		isWritten(t, table{2, cut(wide(2, n), 1)}, times(2, plain), 0)
	}
	full := cut(wide(2, 6), 2)
	for _, empty := range [][][]api.Val{nil, {}, make([][]api.Val, 0, 4)} {
		isRefused(t, "a group without rows", table{2, [][][]api.Val{empty}}, times(2, plain), 0)
		isRefused(t, "groups without rows", table{2, [][][]api.Val{empty, empty}}, times(2, plain), 0)
		for at := range len(full) + 1 {
			isRefused(t, "a group without rows, among others", table{2, slices.Insert(slices.Clone(full), at, empty)}, times(2, plain), 0)
		}
	}
}

func TestWriteOfRows(t *testing.T) {
	rows := rowsOf(vals(named(4098, "")...)...)
	for _, n := range []int{1, 2, 127, 128, 300, 4095, 4096} {
		isWritten(t, table{1, [][][]api.Val{rows[:n]}}, times(1, plain), 0)
	}
	for _, n := range []int{4097, 4098} {
		isRefused(t, "more rows, in one group", table{1, [][][]api.Val{rows[:n]}}, times(1, plain), 0)
	}
	for _, size := range []int{1, 2, 3, 16, 1000, 2048, 4095} {
		isWritten(t, table{1, cut(rows[:4096], size)}, times(1, plain), 0)
		isRefused(t, "more rows, in several groups", table{1, cut(rows[:4097], size)}, times(1, plain), 0)
		isRefused(t, "more rows, in several groups", table{1, cut(rows, size)}, times(1, plain), 0)
	}
	isRefused(t, "as many rows twice", table{1, [][][]api.Val{rows[:4096], rows[:4096]}}, times(1, plain), 0)
	isRefused(t, "as many rows, and one", table{1, [][][]api.Val{rows[:4096], rows[:1]}}, times(1, plain), 0)
	isRefused(t, "a row, and as many", table{1, [][][]api.Val{rows[:1], rows[:4096]}}, times(1, plain), 0)
	eight := wide(8, 4097)
	isWritten(t, table{8, cut(eight[:4096], 1500)}, times(8, api.Coding{Kind: api.Front, Block: 64}), 64)
	isRefused(t, "more rows of eight columns", table{8, cut(eight, 1500)}, times(8, plain), 64)
}

func TestWriteOfRowsThatHaveOtherValues(t *testing.T) {
	for cols := 1; cols <= 8; cols++ {
		for at := range 6 {
			for n := range 11 {
				rows := wide(cols, 6)
				rows[at] = slices.Repeat(vals("abc"), n)
				for _, size := range []int{1, 2, 6} {
					x := table{cols, cut(rows, size)}
					if n == cols {
						isWritten(t, x, times(cols, plain), 0)
					} else {
						isRefused(t, "a row of "+strconv.Itoa(n)+" values", x, times(cols, plain), 0)
					}
				}
			}
			rows := wide(cols, 6)
			rows[at] = nil
			isRefused(t, "a nil row", table{cols, cut(rows, 4)}, times(cols, plain), 0)
		}
		isRefused(t, "nil rows", table{cols, [][][]api.Val{make([][]api.Val, 3)}}, times(cols, plain), 0)
		for other := 1; other <= 9; other++ {
			if other != cols {
				isRefused(t, "rows of other columns", table{cols, cut(wide(other, 4), 3)}, times(cols, plain), 0)
			}
		}
	}
}

func TestWriteOfOtherCodings(t *testing.T) {
	for cols := 1; cols <= 8; cols++ {
		for n := range 12 {
			if n != cols {
				isRefused(t, "other codings", table{cols, cut(wide(cols, 4), 3)}, times(n, plain), 0)
				isRefused(t, "other codings, no groups", table{cols, nil}, times(n, plain), 0)
			}
		}
		isRefused(t, "no codings", table{cols, cut(wide(cols, 4), 3)}, nil, 0)
		isRefused(t, "no codings, no groups", table{cols, nil}, nil, 0)
	}
}

// refusedCodings are some that may not be.
func refusedCodings() []api.Coding {
	l := []api.Coding{{}, {Kind: api.Plain}, {Block: 1, Draws: make([]int, 4097)}, {Kind: api.Fsst, Block: 1, Rounds: 8, Draws: make([]int, 5000)}}
	for _, kind := range []int{math.MinInt, -1, 4, 5, 256, 257, math.MaxInt} {
		l = append(l, api.Coding{Kind: kind, Block: 1})
	}
	for _, kind := range kinds {
		for _, block := range []int{math.MinInt, -1, 0, 65, 256, math.MaxInt} {
			l = append(l, api.Coding{Kind: kind, Block: block})
		}
		for _, rounds := range []int{math.MinInt, -1, 9, 256, math.MaxInt} {
			l = append(l, api.Coding{Kind: kind, Block: 1, Rounds: rounds})
		}
	}
	return l
}

func TestWriteOfCodingsThatMayNotBe(t *testing.T) {
	for _, cols := range []int{1, 2, 3, 8} {
		for _, x := range refusedCodings() {
			for col := range cols {
				o := times(cols, plain)
				o[col] = x
				isRefused(t, "a coding that may not be", table{cols, cut(wide(cols, 3), 2)}, o, 0)
				isRefused(t, "a coding that may not be, of none", table{cols, [][][]api.Val{{slices.Repeat([]api.Val{none}, cols)}}}, o, 0)
				isRefused(t, "a coding that may not be, of no groups", table{cols, nil}, o, 0)
			}
		}
		for _, kind := range kinds {
			o := times(cols, api.Coding{Kind: kind, Block: 64, Rounds: 8, Draws: make([]int, 4096)})
			isWritten(t, table{cols, cut(wide(cols, 3), 2)}, o, 0)
			isWritten(t, table{cols, nil}, o, 0)
		}
	}
}

func TestWriteOfValuesThatMayNotBe(t *testing.T) {
	for _, v := range []api.Val{
		{Null: true, S: "x"}, {Null: true, S: "\x00"}, {Null: true, S: strings.Repeat("x", 4096)}, {Null: true, S: strings.Repeat("x", 4097)},
		{S: strings.Repeat("x", 4097)}, {S: strings.Repeat("abc", 3000)}, {S: strings.Repeat("x", 1<<20)},
	} {
		for _, cols := range []int{1, 2, 8} {
			for at := range 4 {
				for col := range cols {
					rows := wide(cols, 4)
					rows[at][col] = v
					for _, size := range []int{1, 3, 4} {
						isRefused(t, "a value that may not be", table{cols, cut(rows, size)}, times(cols, plain), 0)
					}
					isRefused(t, "a value that may not be, by other codings", table{cols, cut(rows, 2)}, codings(cols)[at], 9)
				}
			}
		}
	}
	longest := strings.Repeat("x", 4096)
	for _, kind := range kinds {
		isWritten(t, one(api.Val{S: longest}, none, api.Val{S: ""}), times(1, api.Coding{Kind: kind, Block: 2, Rounds: 1, Draws: []int{0}}), 0)
	}
}

func TestWriteOfBits(t *testing.T) {
	x := table{2, cut(wide(2, 3), 2)}
	for _, bits := range []int{0, 1, 2, 3, 8, 127, 128, 255, 256, 16384, 65520, 65521, 65522, 65535, 65536} {
		isWritten(t, x, times(2, plain), bits)
		isWritten(t, table{2, nil}, times(2, plain), bits)
	}
	for _, bits := range []int{math.MinInt, -65536, -2, -1, 65537, 65538, 131072, 1 << 32, 1<<32 + 1, math.MaxInt} {
		isRefused(t, "other bits", x, times(2, plain), bits)
		isRefused(t, "other bits, no groups", table{2, nil}, times(2, plain), bits)
		isRefused(t, "other bits, of none", table{1, [][][]api.Val{rowsOf(none)}}, times(1, plain), bits)
	}
}

// manyGrams are strings that have n grams, which are more than some thousands.
func manyGrams(n int) []string {
	var l []string
	for room := n; room > 4096; room = n - len(gramsOf(l)) {
		l = append(l, long(4096, uint64(len(l))))
	}
	has := gramsOf(l)
	for g, left := 0, n-len(has); left > 0; g++ {
		if _, found := slices.BinarySearch(has, g); !found {
			l = append(l, string([]byte{byte(g >> 16), byte(g >> 8), byte(g)}))
			left--
		}
	}
	return l
}

// An exact filter has at most 65536 grams, one of bits as many as there are.
func TestWriteOfManyGrams(t *testing.T) {
	most, more := manyGrams(65536), manyGrams(65537)
	if len(gramsOf(most)) != 65536 || len(gramsOf(more)) != 65537 {
		t.Fatalf("%d and %d grams", len(gramsOf(most)), len(gramsOf(more)))
	}
	isWritten(t, one(vals(most...)...), times(1, plain), 0)
	isRefused(t, "more grams", one(vals(more...)...), times(1, plain), 0)
	for _, bits := range []int{1, 64, 65536} {
		isWritten(t, one(vals(most...)...), times(1, plain), bits)
		isWritten(t, one(vals(more...)...), times(1, plain), bits)
	}
	// parted in two groups they are fewer
	rows := rowsOf(vals(more...)...)
	isWritten(t, table{1, cut(rows, len(rows)/2+1)}, times(1, plain), 0)
	// and they may be too many in any group, or column
	isRefused(t, "more grams, in the second group", table{1, [][][]api.Val{rows[:1], rows}}, times(1, plain), 0)
	both := make([][]api.Val, len(rows))
	for i, row := range rows {
		both[i] = []api.Val{none, row[0]}
	}
	isRefused(t, "more grams, in the second column", table{2, [][][]api.Val{both}}, times(2, plain), 0)
}
