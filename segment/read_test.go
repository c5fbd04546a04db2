package segment_test

import (
	"slices"
	"strings"
	"testing"

	"hopper/api"
	"hopper/segment"
)

// P18.2: what is read, its rows, and how many there are.

// isRead holds what Read answers of bytes against what is told of them.
func isRead(t *testing.T, what, b string, x told) {
	t.Helper()
	s, e := segment.Read([]byte(b))
	if e != api.OK || s == nil {
		t.Errorf("%s: %s is error %d", what, short(b), e)
		return
	}
	held(t, what, s, x)
}

// isCorrupt says that bytes are no segment.
func isCorrupt(t *testing.T, what, b string) {
	t.Helper()
	if s, e := segment.Read([]byte(b)); e != api.ErrCorrupt || s != nil {
		t.Errorf("%s: %s is error %d, nil %v", what, short(b), e, s == nil)
	}
}

// isNone says that bytes, sealed, are no segment, as the words tell, too.
func isNone(t *testing.T, what, inside string) {
	t.Helper()
	if _, ok := readOf(sealed(inside)); ok {
		t.Errorf("%s: the words tell that %s is a segment", what, short(inside))
	}
	isCorrupt(t, what, sealed(inside))
}

// isSome says that bytes, sealed, are the segment that the words tell.
func isSome(t *testing.T, what, inside string) {
	t.Helper()
	x, ok := readOf(sealed(inside))
	if !ok {
		t.Errorf("%s: the words tell that %s is no segment", what, short(inside))
		return
	}
	isRead(t, what, sealed(inside), x)
}

// isToldByTheWords holds what Read answers of whatever bytes, sealed, against
// the words; it answers whether they are a segment.
func isToldByTheWords(t *testing.T, inside string) bool {
	t.Helper()
	x, ok := readOf(sealed(inside))
	if ok {
		isRead(t, "as the words tell", sealed(inside), x)
	} else {
		isCorrupt(t, "as the words tell", sealed(inside))
	}
	return ok
}

func TestReadIsWhatWasWritten(t *testing.T) {
	for _, x := range tables() {
		for _, o := range codings(x.cols) {
			for _, bits := range sizes[:8] {
				isRead(t, few(x), bytesOf(x, o, bits), toldOf(x, o, bits))
				isRead(t, few(x), string(made(t, x, o, bits)), toldOf(x, o, bits))
			}
		}
		o := times(x.cols, plain)
		isRead(t, few(x), bytesOf(x, o, 65536), toldOf(x, o, 65536))
	}
}

func TestReadOfDrawnTables(t *testing.T) {
	next := draws(182)
	for i := range 400 {
		x := drawn(next, 30)
		o := drawnCodings(next, x.cols)
		isRead(t, few(x), string(made(t, x, o, sizes[i%8])), toldOf(x, o, sizes[i%8]))
	}
}

func TestReadOfTheMostRows(t *testing.T) {
	rows := wide(8, 4096)
	for _, kind := range kinds[1:] {
		x, o := table{8, [][][]api.Val{rows}}, times(8, api.Coding{Kind: kind, Block: 64, Rounds: 1, Draws: []int{0, 9}})
		isRead(t, few(x), string(made(t, x, o, 1000)), toldOf(x, o, 1000))
	}
	alone := rowsOf(vals(named(4096, "k")...)...)
	for _, size := range []int{1, 3, 1000, 4095} {
		x := table{1, cut(alone, size)}
		isRead(t, few(x), string(made(t, x, times(1, plain), 64)), toldOf(x, times(1, plain), 64))
	}
}

func TestReadOfEveryBeginning(t *testing.T) {
	for _, x := range tables() {
		for i, o := range codings(x.cols) {
			inside := insideOf(x, o, sizes[i])
			for n := range min(len(inside), 200) {
				isNone(t, "a beginning", inside[:n])
			}
			isNone(t, "all but a byte", inside[:len(inside)-1])
			b := sealed(inside)
			for n := range 5 {
				isCorrupt(t, "all but some of the sum", b[:len(b)-1-n])
			}
		}
	}
}

// small are the bytes, ahead of their sums, of some small segments.
func small() []string {
	l := []string{"\x01\x00", "\x08\x00"}
	for i, kind := range kinds {
		o := api.Coding{Kind: kind, Block: 2, Rounds: 1, Draws: []int{0}}
		l = append(l,
			insideOf(one(api.Val{S: "abcd"}, none), times(1, o), []int{0, 8, 9, 3}[i]),
			insideOf(table{2, [][][]api.Val{{vals("abc", ""), {none, {S: "abc"}}}, {vals("b", "xyz")}}}, []api.Coding{plain, o}, i/2*5),
			insideOf(table{1, cut(rowsOf(vals("abc", "ab", "")...), 1)}, times(1, o), i%2*7),
		)
	}
	return l
}

// One byte turned, and not sealed anew, is never a segment.
func TestReadOfTurnedBytes(t *testing.T) {
	for _, inside := range small() {
		b := []byte(sealed(inside))
		for i, was := range b {
			for turned := range 256 {
				b[i] = byte(turned)
				if b[i] != was {
					isCorrupt(t, "a byte turned", string(b))
				}
			}
			b[i] = was
		}
		isSome(t, "turned back", inside)
	}
}

func TestReadOfTurnedBytesThatAreSealed(t *testing.T) {
	read, not := 0, 0
	for _, inside := range small() {
		for i := range inside {
			for turned := range 256 {
				if isToldByTheWords(t, inside[:i]+string([]byte{byte(turned)})+inside[i+1:]) {
					read++
				} else {
					not++
				}
			}
			isToldByTheWords(t, inside[:i]+inside[i+1:])
			for _, more := range []string{"\x00", "\x01", "\x02", "\x7f", "\x80", "\xff", inside[i : i+1]} {
				isToldByTheWords(t, inside[:i]+more+inside[i:])
			}
		}
	}
	if read < 1000 || not < 1000 {
		t.Errorf("%d are read, and %d aren't", read, not)
	}
}

func TestReadOfDrawnBytes(t *testing.T) {
	next := draws(183)
	read := 0
	for range 20000 {
		b := make([]byte, next(12))
		for i := range b {
			b[i] = "\x00\x00\x01\x01\x02\x03a\xff"[next(8)]
		}
		if isToldByTheWords(t, "\x01\x01\x01\x00\x00\x00\x01\x01"[:next(9)]+string(b)) {
			read++
		}
	}
	if read < 20 {
		t.Errorf("%d are read", read)
	}
}

func TestReadOfBytesThatAreNotSealed(t *testing.T) {
	for _, b := range []string{"", "\x00", "\x01", "\x01\x00", "\x00\x00\x00", "\x01\x00\x00", "\x00\x00\x00\x00", "\xff\xff\xff\xff", "\x01\x00\x00\x00\x00\x00", "\x01\x00\xff\xff\xff\xff"} {
		isCorrupt(t, "too short, or without a sum", b)
	}
	isNone(t, "nothing, sealed", "")
	isNone(t, "a byte, sealed", "\x01")
	for _, inside := range small() {
		sum := []byte(sumOf(inside))
		isCorrupt(t, "no sum", inside)
		isCorrupt(t, "some of a sum", inside+string(sum[:3]))
		isCorrupt(t, "a sum of three bytes, and one", inside+string(sum[:3])+"\x00")
		isCorrupt(t, "a byte behind the sum", sealed(inside)+"\x00")
		isCorrupt(t, "a byte ahead", "\x01"+sealed(inside))
		isCorrupt(t, "the sum of less", inside+sumOf(inside[1:]))
		isCorrupt(t, "the sum of more", inside+sumOf(inside+"\x00"))
		isCorrupt(t, "the sum ahead", string(sum)+inside)
		slices.Reverse(sum)
		isCorrupt(t, "the highest byte first", inside+string(sum))
		isNone(t, "sealed twice", sealed(inside))
	}
}

func TestReadOfOtherColumns(t *testing.T) {
	part := partOf(vals("abcd"), plain, 0)
	for cols := range 300 {
		head := varint(cols)
		if cols >= 1 && cols <= 8 {
			isSome(t, "columns", head+"\x00")
			isSome(t, "columns, and a group", head+"\x01\x01"+strings.Repeat(part, cols))
		} else {
			isNone(t, "other columns, no groups", head+"\x00")
			isNone(t, "other columns, and a group", head+"\x01\x01"+strings.Repeat(part, cols))
		}
		isNone(t, "a part more", head+"\x01\x01"+strings.Repeat(part, cols+1))
		if cols > 0 {
			isNone(t, "a part less", head+"\x01\x01"+strings.Repeat(part, cols-1))
		}
	}
	for _, cols := range []int{1 << 14, 1 << 32, 1<<32 + 1, 1<<63 - 1} {
		isNone(t, "very many columns", varint(cols)+"\x00")
		isNone(t, "very many columns, and a group", varint(cols)+"\x01\x01"+part)
	}
}

func TestReadOfOtherGroups(t *testing.T) {
	group := groupOf(rowsOf(vals("abcd", "x")...), times(1, plain), 0)
	for n := range 6 {
		for says := range 8 {
			b := "\x01" + varint(says) + strings.Repeat(group, n)
			if says == n {
				isSome(t, "as many groups", b)
			} else {
				isNone(t, "more or fewer groups", b)
			}
		}
		for _, says := range []int{127, 128, 4096, 4097, 1 << 20, 1 << 40, 1<<63 - 1} {
			isNone(t, "very many groups", "\x01"+varint(says)+strings.Repeat(group, n))
		}
	}
	for _, empty := range []string{"\x00", "\x00" + partOf(nil, plain, 0), "\x00" + partOf(nil, plain, 8), "\x00" + partOf(nil, api.Coding{Kind: api.Front, Block: 1}, 0)} {
		isNone(t, "a group of no rows", "\x01\x01"+empty)
		isNone(t, "a group of no rows, ahead of another", "\x01\x02"+empty+group)
		isNone(t, "a group of no rows, behind another", "\x01\x02"+group+empty)
		isNone(t, "a group of no rows that isn't told", "\x01\x01"+group+empty)
	}
	isNone(t, "4097 groups, each of no rows", "\x01"+varint(4097)+strings.Repeat("\x00"+partOf(nil, plain, 0), 4097))
}

func TestReadOfMoreRows(t *testing.T) {
	rows := rowsOf(vals(named(4098, "k")...)...)
	inside := func(groups ...[][]api.Val) string {
		var b strings.Builder
		b.WriteString("\x01" + varint(len(groups)))
		for _, rows := range groups {
			l := columnOf(rows, 0)
			b.WriteString(varint(len(l)) + filterOf(stringsOf(l), 64))
			if len(l) <= 4096 {
				b.WriteString(plainOf(l...))
			}
		}
		return b.String()
	}
	isSome(t, "as many as there may be", inside(rows[:4096]))
	isNone(t, "one more, in one group", inside(rows[:4097]))
	for _, size := range []int{1, 2, 3, 1000, 2048, 4095} {
		isSome(t, "as many as there may be, in several groups", inside(cut(rows[:4096], size)...))
		isNone(t, "one more, in several groups", inside(cut(rows[:4097], size)...))
		isNone(t, "two more, in several groups", inside(cut(rows, size)...))
	}
	isNone(t, "one more, behind as many", inside(rows[:4096], rows[:1]))
	isNone(t, "one more, ahead of as many", inside(rows[:1], rows[:4096]))
	isNone(t, "twice as many", inside(rows[:4096], rows[:4096]))
	part := partOf(vals("abcd"), plain, 0)
	for _, says := range []int{0, 2, 128, 4096, 4097, 1 << 32, 1<<32 + 1, 1<<63 - 1} {
		isNone(t, "rows that aren't there", "\x01\x01"+varint(says)+part)
	}
}

func TestReadOfChunksOfOtherLengths(t *testing.T) {
	o := times(3, plain)
	for n := 1; n < 6; n++ {
		rows := wide(3, n)
		for col := range 3 {
			for size := range 8 {
				for _, kind := range kinds {
					o[col] = api.Coding{Kind: kind, Block: 1}
					l := slices.Repeat([]api.Val{{S: "abcd"}, none}, 4)[:size]
					b := "\x03\x01" + varint(n)
					for i := range 3 {
						if i == col {
							b += partOf(l, o[i], 0)
						} else {
							b += partOf(columnOf(rows, i), plain, 0)
						}
					}
					if size == n {
						isSome(t, "a chunk as long as its group", b)
					} else {
						isNone(t, "a chunk that is shorter or longer", b)
					}
				}
			}
		}
	}
}

// filtered are the bytes of a group of one column, with whatever filter.
func filtered(filter string, l ...api.Val) string {
	return "\x01\x01" + varint(len(l)) + filter + plainOf(l...)
}

func TestReadOfOtherFilters(t *testing.T) {
	l := []api.Val{{S: "abcd"}, none, {S: "bcda"}, {S: "xy"}}
	grams := gramsOf(stringsOf(l)) // abc bcd cda
	isSome(t, "its filter", filtered(listOf(grams), l...))
	isNone(t, "of no grams", filtered(listOf(nil), l...))
	for i := range grams {
		isNone(t, "a gram less", filtered(listOf(slices.Delete(slices.Clone(grams), i, i+1)), l...))
		isNone(t, "a gram alone", filtered(listOf(grams[i:i+1]), l...))
	}
	for _, g := range []int{0, 1, 0x616262, 0x616264, 0x626363, 0x647879, 0xffffff} {
		more := append(slices.Clone(grams), g)
		slices.Sort(more)
		isNone(t, "a gram more", filtered(listOf(more), l...))
		for i := range grams {
			other := slices.Clone(grams)
			other[i] = g
			slices.Sort(other)
			isNone(t, "another gram", filtered(listOf(other), l...))
		}
	}
	for _, other := range [][]string{nil, {""}, {"abcd"}, {"bcda"}, {"abcda", "a"}, {"abcd", "bcda", "xyz"}, {"ABCD", "BCDA"}} {
		so := slices.Equal(gramsOf(other), grams)
		for _, bits := range []int{0, 1, 8, 65521, 65536} {
			b := filtered(filterOf(other, bits), l...)
			if so || filterOf(other, bits) == filterOf(stringsOf(l), bits) {
				isSome(t, "a filter of the same grams", b)
			} else {
				isNone(t, "a filter of other strings", b)
			}
		}
	}
	for _, l := range [][]api.Val{{none}, vals(""), vals("ab", "bc", "cd")} {
		isSome(t, "no grams", filtered(listOf(nil), l...))
		isNone(t, "a gram of none", filtered(listOf([]int{0}), l...))
		isNone(t, "a gram that goes over two strings", filtered(listOf([]int{0x616262}), l...))
		isSome(t, "no bits", filtered(setOf(nil, 9), l...))
		isNone(t, "a bit of none", filtered(setOf([]int{0}, 9), l...))
	}
}

// Of a set each bit is told, also those that no gram can have.
func TestReadOfOtherSets(t *testing.T) {
	l := []api.Val{{S: "abcd"}, none, {S: "bcda"}}
	for _, bits := range []int{1, 2, 7, 8, 9, 64, 1000, 65521, 65522, 65536} {
		right := filterOf(stringsOf(l), bits)
		isSome(t, "its filter", filtered(right, l...))
		isNone(t, "an empty set", filtered(setOf(nil, bits), l...))
		at := 2 * len(varint(bits))
		for _, i := range []int{0, 1, 6, 7, 8, bits / 2, bits - 2, bits - 1} {
			if i < 0 || i >= bits {
				continue
			}
			b := []byte(right)
			b[at+i/8] ^= 1 << (i % 8)
			isNone(t, "a bit turned", filtered(string(b), l...))
		}
		if bits%8 > 0 {
			b := []byte(right)
			b[len(b)-1] |= 0x80
			isNone(t, "a bit that is left", filtered(string(b), l...))
		}
	}
}

// Each filter says its own bits, whichever the others have.
func TestReadOfFiltersOfOtherBits(t *testing.T) {
	l := vals("abcd", "bcda")
	b := "\x03\x02"
	for _, bits := range [][]int{{0, 8, 65536}, {1, 64, 0}} {
		b += "\x02"
		for _, n := range bits {
			b += partOf(l, plain, n)
		}
	}
	isSome(t, "filters of unlike bits", b)
	isNone(t, "a filter of other bits than it says", filtered("\x08\x09\x00\x00", l...))
	isNone(t, "a filter of more bits", filtered(varint(65537)+varint(65537)+strings.Repeat("\x00", 8193), vals("a")...))
	isSome(t, "a filter of the most bits", filtered(setOf(nil, 65536), vals("a")...))
}

// An exact filter of more than 65536 grams can't be, so one without any isn't
// that of such strings.
func TestReadOfManyGrams(t *testing.T) {
	most, more := vals(manyGrams(65536)...), vals(manyGrams(65537)...)
	isSome(t, "as many grams as there may be", filtered(listOf(gramsOf(stringsOf(most))), most...))
	isNone(t, "more grams, and an empty filter", filtered(listOf(nil), more...))
	isNone(t, "more grams, all of them", filtered(listOf(gramsOf(stringsOf(more))), more...))
	isNone(t, "more grams, and all but one", filtered(listOf(gramsOf(stringsOf(more))[1:]), more...))
	isSome(t, "more grams, in bits", filtered(setOf(gramsOf(stringsOf(more)), 65536), more...))
	isNone(t, "more grams, and no bits", filtered(setOf(nil, 65536), more...))
}

func TestReadOfWhatChaptersBelowRefuse(t *testing.T) {
	chunk := plainOf(vals("abc")...)
	for _, filter := range []string{
		"\x80\x00\x00\x00", "\x00\x01\x18", "\x00\x80\x00\x00", "\x00\x01\x21\x63\x62\x61\x00\x00", "\x00\x01\x18\x63\x62\x61", "\x00\x01\x17\x63\x62\xe1",
		"\x00\x02\x17\x63\x62\x61\x00\x00\x00", "\x00\x01\x19\xff\xff\xff\x01", "\x08\x07\x02", "\x08\x88\x00\x02", "\x08\x09\x02\x00", "\xff\xff\xff\xff\xff\xff\xff\xff\xff\x01",
	} {
		isNone(t, "a filter that can't be", "\x01\x01\x01"+filter+chunk)
		isNone(t, "a filter that can't be, and nothing else", "\x01\x01\x01"+filter)
	}
	filter := filterOf([]string{"abc"}, 0)
	isSome(t, "both", "\x01\x01\x01"+filter+chunk)
	for _, chunk := range []string{
		"", "\x00\x01\x01\x01\x02\x03abc", "\x04\x01\x01\x01\x02\x03abc", "\x01\x81\x00\x01\x01\x02\x03abc", "\x01\x01\x03\x01\x02\x03abc", "\x01\x01\x01\x02\x02\x03abc",
		"\x01\x01\x01\x00\x00abc", "\x01\x01\x01\x01\x03\x03abc", "\x01\x01\x01\x01\x02\x03ab", "\x01\x01\x01\x01\x03\x04abc", "\x01\x01\x00\x01\x02\x03abc",
		"\x02\x01\x01\x00\x01\x02\x03abc", "\x02\x01\x01\x01\x03abc\x01\x01\x01\x01", "\x02\x01\x01\x01\x03abc\x01\x03\x06\xffa\xffb\xffc", "\x02\x01\x01\x01\x00\x01\x01\x01\x00",
		"\x03\x01\x01\x01\x01\x01\x03\x04\x03abc\x01\x01\x01", "\x03\x01\x01\x01\x00\x01\x03\x04\x03abc\x01\x00", "\x03\x01\x01\x01\x01\x01\x03\x05\x03abc\x01\x00",
	} {
		isNone(t, "a chunk that can't be", "\x01\x01\x01"+filter+chunk)
	}
	longer := strings.Repeat("abc", 1366)
	isNone(t, "a string that is too long", "\x01\x01\x01"+filterOf([]string{longer}, 0)+"\x01\x01\x01\x01\x0d\x02\x10"+longer)
}

// Chapter 17 opens chunks that no Code makes: these are chunks, too, and the
// strings that are there are those of values.
func TestReadOfChunksThatNoWriteMakes(t *testing.T) {
	filter := filterOf([]string{"abc"}, 0)
	for what, chunk := range map[string]string{
		"a table that no training makes":        "\x02\x01\x01\x02\x03abc\x02xy\x01\x01\x01\x00",
		"symbols that no string has":            "\x02\x01\x01\x01\x03xyz\x01\x03\x06\xffa\xffb\xffc",
		"a dictionary of strings that none is":  "\x03\x01\x01\x02\x01\x02\x03\x24\x03abc\x03xyz\x01\x00",
		"a dictionary of a block of many":       "\x03\x01\x01\x01\x40\x01\x03\x04\x03abc\x01\x00",
		"the second string of a dictionary":     "\x03\x01\x01\x02\x02\x01\x03\x06\x01a\x01\x02bc\x01\x01\x01",
		"the second string of several in order": "\x03\x01\x01\x03\x01\x03\x03\xa2\x00\x01a\x03abc\x01b\x01\x01\x01",
	} {
		isSome(t, what, "\x01\x01\x01"+filter+chunk)
	}
	// the grams of a dictionary's other strings aren't those of values
	chunk := "\x03\x01\x01\x02\x01\x02\x03\x24\x03abc\x03xyz\x01\x00"
	isNone(t, "grams of a string that no value is", "\x01\x01\x01"+filterOf([]string{"abc", "xyz"}, 0)+chunk)
	isNone(t, "grams of another string alone", "\x01\x01\x01"+filterOf([]string{"xyz"}, 0)+chunk)
	isSome(t, "no value of any string", "\x01\x01\x01"+filterOf(nil, 0)+"\x03\x01\x00\x01\x01\x01\x03\x04\x03abc\x00\x00")
	isNone(t, "no value, but grams", "\x01\x01\x01"+filter+"\x03\x01\x00\x01\x01\x01\x03\x04\x03abc\x00\x00")
}

func TestReadOfVarintsOfMoreBytes(t *testing.T) {
	part := partOf(vals("abc"), plain, 0)
	isSome(t, "as few as they need", "\x01\x01\x01"+part)
	for _, b := range []string{
		"\x81\x00\x01\x01" + part, "\x01\x81\x00\x01" + part, "\x01\x01\x81\x00" + part, "\x01\x01\x01\x80\x00" + part[1:], "\x81\x80\x00\x01\x01" + part,
		"\x01\x01\x01" + strings.Replace(part, "\x01\x01\x01", "\x01\x81\x00\x01", 1), "\x81\x00\x00", "\x01\x80\x00", "\x81\x80\x80\x80\x80\x80\x80\x80\x80\x00\x00",
	} {
		isNone(t, "a varint of more bytes", b)
	}
}

func TestReadOfBytesThatAreLeft(t *testing.T) {
	for _, inside := range small() {
		for _, more := range []string{"\x00", "\x01", "\xff", "\x00\x00\x00\x00", sumOf(inside), inside} {
			isNone(t, "bytes that are left", inside+more)
		}
	}
}

func TestRowsAndLenOfGroups(t *testing.T) {
	for cols := 1; cols <= 8; cols++ {
		rows := wide(cols, 9)
		for n := range 10 {
			for size := 1; size <= 9; size++ {
				s := taken(t, made(t, table{cols, cut(rows[:n], size)}, times(cols, plain), 0))
				if s.Cols != cols || s.Len() != n || len(s.Groups) != (n+size-1)/size || !sameRows(s.Rows(), rows[:n]) {
					t.Errorf("%d columns, %d rows by %d: %d columns, %d rows, %d groups", cols, n, size, s.Cols, s.Len(), len(s.Groups))
				}
			}
		}
	}
}
