package chunk_test

import (
	"math"
	"slices"
	"strconv"
	"strings"
	"testing"

	"hopper/api"
	"hopper/chunk"
	"hopper/cursor"
	"hopper/front"
	"hopper/symbol"
	"hopper/train"
)

// What the words say: bytes put together string by string, and taken apart one
// by one.

// varint is a number's.
func varint(n int) string {
	if n < 128 {
		return string([]byte{byte(n)})
	}
	return string([]byte{byte(n%128 + 128)}) + varint(n/128)
}

// packed are numbers of a width, put bit by bit.
func packed(l []int, width int) string {
	b := make([]byte, (len(l)*width+7)/8)
	for i, x := range l {
		for k := range width {
			if at := i*width + k; x>>k&1 == 1 {
				b[at/8] |= 1 << (at % 8)
			}
		}
	}
	return string(b)
}

// widthOf is how many bits the greatest number takes.
func widthOf(l []int) int {
	width := 0
	for _, x := range l {
		for x>>width > 0 {
			width++
		}
	}
	return width
}

// numbersOf are numbers as bytes.
func numbersOf(l ...int) string {
	width := widthOf(l)
	return varint(len(l)) + string([]byte{byte(width)}) + packed(l, width)
}

// bitmapOf are the bytes that tell which values are there.
func bitmapOf(so ...bool) string {
	b := make([]byte, (len(so)+7)/8)
	for i, x := range so {
		if x {
			b[i/8] += 1 << (i % 8)
		}
	}
	return varint(len(so)) + string(b)
}

// head are the bytes ahead of a payload.
func head(kind int, so ...bool) string {
	return string([]byte{byte(kind)}) + bitmapOf(so...)
}

// here are n values that are all there.
func here(n int) []bool {
	return slices.Repeat([]bool{true}, n)
}

// textOf is a string's text.
func textOf(s string) string {
	return varint(len(s)) + s
}

// tableOf are a table's bytes.
func tableOf(t ...string) string {
	b := []byte{byte(len(t))}
	for _, s := range t {
		b = append(b, byte(len(s)))
		b = append(b, s...)
	}
	return string(b)
}

// longestOf is the code of the longest symbol at s's beginning, each symbol
// looked at; -1 where there is none.
func longestOf(t []string, s string) int {
	code := -1
	for i, x := range t {
		if strings.HasPrefix(s, x) && (code < 0 || len(x) > len(t[code])) {
			code = i
		}
	}
	return code
}

// encodedOf is a string, encoded.
func encodedOf(t []string, s string) string {
	var b []byte
	for s != "" {
		if code := longestOf(t, s); code >= 0 {
			b = append(b, byte(code))
			s = s[len(t[code]):]
		} else {
			b = append(b, 255, s[0])
			s = s[1:]
		}
	}
	return string(b)
}

// decodedOf is what codes stand for, if they are codes.
func decodedOf(t []string, b string) (string, bool) {
	var s []byte
	for i := 0; i < len(b); i++ {
		switch {
		case b[i] == 255 && i+1 == len(b):
			return "", false
		case b[i] == 255:
			i++
			s = append(s, b[i])
		case int(b[i]) >= len(t):
			return "", false
		default:
			s = append(s, t[b[i]]...)
		}
	}
	return string(s), true
}

// rising are the strings in order, each once.
func rising(l []string) []string {
	var all []string
	for _, s := range slices.Sorted(slices.Values(l)) {
		if len(all) == 0 || all[len(all)-1] != s {
			all = append(all, s)
		}
	}
	return all
}

// dictionaryOf are a dictionary's bytes.
func dictionaryOf(l []string, block int) string {
	var sizes []int
	var entries strings.Builder
	for i, s := range l {
		entry := textOf(s)
		if i%block == 0 {
			sizes = append(sizes, 0)
		} else {
			shared := 0
			for shared < min(len(l[i-1]), len(s)) && l[i-1][shared] == s[shared] {
				shared++
			}
			entry = varint(shared) + textOf(s[shared:])
		}
		sizes[len(sizes)-1] += len(entry)
		entries.WriteString(entry)
	}
	return varint(len(l)) + varint(block) + numbersOf(sizes...) + entries.String()
}

// thereOf tells which values are.
func thereOf(l []api.Val) []bool {
	so := make([]bool, len(l))
	for i, v := range l {
		so[i] = !v.Null
	}
	return so
}

// stringsOf are the strings that are there.
func stringsOf(l []api.Val) []string {
	var all []string
	for _, v := range l {
		if !v.Null {
			all = append(all, v.S)
		}
	}
	return all
}

// sizesOf are how many bytes each string has.
func sizesOf(l []string) []int {
	var n []int
	for _, s := range l {
		n = append(n, len(s))
	}
	return n
}

// plainOf is the payload of Plain.
func plainOf(l []string) string {
	return numbersOf(sizesOf(l)...) + strings.Join(l, "")
}

// trainedOf is the table of Fsst.
func trainedOf(l []string, o api.Coding) []string {
	return train.Train(train.Sample(l, o.Draws), o.Rounds)
}

// fsstOf is the payload of Fsst, with some table.
func fsstOf(l []string, t []string) string {
	var all []string
	for _, s := range l {
		all = append(all, encodedOf(t, s))
	}
	return tableOf(t...) + plainOf(all)
}

// frontOf is the payload of Front.
func frontOf(l []string, block int) string {
	all := rising(l)
	var codes []int
	for _, s := range l {
		codes = append(codes, slices.Index(all, s))
	}
	return dictionaryOf(all, block) + numbersOf(codes...)
}

// payloadOf is the payload of strings, and its kind.
func payloadOf(l []string, o api.Coding) (string, int) {
	switch o.Kind {
	case api.Plain:
		return plainOf(l), api.Plain
	case api.Fsst:
		return fsstOf(l, trainedOf(l, o)), api.Fsst
	case api.Front:
		return frontOf(l, o.Block), api.Front
	}
	p, f, d := plainOf(l), fsstOf(l, trainedOf(l, o)), frontOf(l, o.Block)
	switch least := min(len(p), len(f), len(d)); {
	case least == len(p):
		return p, api.Plain
	case least == len(f):
		return f, api.Fsst
	}
	return d, api.Front
}

// bytesOf are the bytes of values.
func bytesOf(l []api.Val, o api.Coding) string {
	b, kind := payloadOf(stringsOf(l), o)
	return head(kind, thereOf(l)...) + b
}

// told is what a chunk has: of Fsst a table, of Front a dictionary.
type told struct {
	kind  int
	l     []api.Val
	table []string
	dict  []string
}

// toldOf is the chunk of values.
func toldOf(l []api.Val, o api.Coding) told {
	x := told{l: l}
	_, x.kind = payloadOf(stringsOf(l), o)
	switch x.kind {
	case api.Fsst:
		x.table = trainedOf(stringsOf(l), o)
	case api.Front:
		x.dict = rising(stringsOf(l))
	}
	return x
}

// at is a value.
func (x told) at(i int) api.Val {
	if i < 0 || i >= len(x.l) {
		return api.Val{Null: true}
	}
	return x.l[i]
}

// coded is how a string stands there.
func (x told) coded(s string) (string, bool) {
	switch x.kind {
	case api.Plain:
		return s, true
	case api.Fsst:
		return encodedOf(x.table, s), true
	}
	return "", false
}

// raw is how a value stands.
func (x told) raw(i int) string {
	if x.at(i).Null {
		return ""
	}
	b, _ := x.coded(x.at(i).S)
	return b
}

// codes are those of the values.
func (x told) codes() []int {
	if x.kind != api.Front {
		return nil
	}
	l := make([]int, len(x.l))
	for i, v := range x.l {
		l[i] = -1
		if !v.Null {
			l[i] = slices.Index(x.dict, v.S)
		}
	}
	return l
}

// reader reads bytes one by one, up to the first error.
type reader struct {
	b string
	e api.Errno
}

// fail is an error that is met.
func (r *reader) fail(e api.Errno) {
	if r.e == api.OK {
		r.e = e
	}
}

// some are n bytes.
func (r *reader) some(n int) string {
	if n > len(r.b) {
		r.fail(api.ErrCut)
	}
	if r.e != api.OK {
		return ""
	}
	s := r.b[:n]
	r.b = r.b[n:]
	return s
}

// one is a byte.
func (r *reader) one() int {
	s := r.some(1)
	if s == "" {
		return 0
	}
	return int(s[0])
}

// number is a varint's, at most so much.
func (r *reader) number(most int) int {
	n, i := 0, 0
	for ; i < len(r.b) && i < 9; i++ {
		n += int(r.b[i]%128) << (7 * i)
		if r.b[i] < 128 {
			break
		}
	}
	switch {
	case i == 9 && len(r.b) > 9, i < min(len(r.b), 9) && (n > most || i > 0 && r.b[i] == 0):
		r.fail(api.ErrForm)
	case i >= len(r.b) || i == 9:
		r.fail(api.ErrCut)
	}
	if r.e != api.OK {
		return 0
	}
	r.b = r.b[i+1:]
	return n
}

// bits are n numbers of a width, and 0 behind them.
func (r *reader) bits(n, width int) []int {
	b := r.some((n*width + 7) / 8)
	if r.e != api.OK {
		return nil
	}
	l := make([]int, n)
	for at := range len(b) * 8 {
		so := b[at/8]>>(at%8)&1 == 1
		switch {
		case so && at >= n*width:
			r.fail(api.ErrForm)
		case so:
			l[at/width] += 1 << (at % width)
		}
	}
	return l
}

// numbers are n numbers, none above most.
func (r *reader) numbers(n, most int) []int {
	count := r.number(n)
	width := r.one()
	if width > 32 {
		r.fail(api.ErrForm)
	}
	l := r.bits(count, width)
	if r.e == api.OK && widthOf(l) != width || count != n {
		r.fail(api.ErrForm)
	}
	for _, x := range l {
		if x > most {
			r.fail(api.ErrForm)
		}
	}
	return l
}

// by is what a chapter below takes.
func (r *reader) by(take func(c *cursor.Cursor)) {
	if r.e != api.OK {
		return
	}
	c := cursor.New([]byte(r.b))
	take(c)
	if !c.Good() {
		r.fail(c.End())
		return
	}
	r.b = r.b[len(r.b)-c.Left():]
}

// string is one that stands in so many bytes.
func (r *reader) string(x told, size int) string {
	b := r.some(size)
	if x.kind != api.Fsst || r.e != api.OK {
		return b
	}
	s, ok := decodedOf(x.table, b)
	if !ok || len(s) > 4096 || encodedOf(x.table, s) != b {
		r.fail(api.ErrForm)
	}
	return s
}

// strings are n strings of a payload.
func (r *reader) strings(x *told, n int) []string {
	most := 4096
	switch x.kind {
	case api.Fsst:
		r.by(func(c *cursor.Cursor) { x.table = symbol.Get(c) })
		most *= 2
	case api.Front:
		r.by(func(c *cursor.Cursor) { x.dict = front.Open(c).All() })
		most = len(x.dict) - 1
	}
	var l []string
	for _, m := range r.numbers(n, most) {
		switch {
		case r.e != api.OK:
		case x.kind == api.Front:
			l = append(l, x.dict[m])
		default:
			l = append(l, r.string(*x, m))
		}
	}
	return l
}

// openOf is the chunk that stands at the beginning of bytes, the first error
// there, and how many bytes are left behind it.
func openOf(b string) (told, api.Errno, int) {
	r := reader{b: b}
	x := told{kind: r.one()}
	if x.kind < 1 || x.kind > 3 {
		r.fail(api.ErrForm)
	}
	n := 0
	so := r.bits(r.number(4096), 1)
	for _, bit := range so {
		n += bit
	}
	if r.e != api.OK {
		return told{}, r.e, 0
	}
	l := r.strings(&x, n)
	if r.e != api.OK {
		return told{}, r.e, 0
	}
	for _, bit := range so {
		v := api.Val{Null: bit == 0}
		if bit == 1 {
			v.S, l = l[0], l[1:]
		}
		x.l = append(x.l, v)
	}
	return x, api.OK, len(r.b)
}

// Values, codings, and what is asked.

// vals are strings that are there.
func vals(l ...string) []api.Val {
	var all []api.Val
	for _, s := range l {
		all = append(all, api.Val{S: s})
	}
	return all
}

// none is a value that is none.
var none = api.Val{Null: true}

// long is a string of so many bytes, of which each eight are unlike.
func long(n int) string {
	b := make([]byte, n)
	draw := uint64(n)
	for i := range b {
		draw = draw*6364136223846793005 + 1442695040888963407
		b[i] = byte(draw >> 40)
	}
	return string(b)
}

// named are n strings that rise, and have the same beginning.
func named(n int, begin string) []string {
	l := make([]string, n)
	for i := range l {
		digits := strconv.Itoa(i)
		l[i] = begin + strings.Repeat("0", 5-len(digits)) + digits
	}
	return l
}

// draws answers a function that draws numbers below n, the same each time for
// one seed.
func draws(seed uint32) func(n int) int {
	return func(n int) int {
		seed = seed*1664525 + 1013904223
		return int(seed>>8) % n
	}
}

// drawnText is a string of fewer than n bytes, of few sorts.
func drawnText(next func(int) int, n int) string {
	b := make([]byte, next(n))
	for i := range b {
		b[i] = "ab\x00\x7f\x80\xfe\xff"[next(7)]
	}
	return string(b)
}

// drawn are fewer than n values.
func drawn(next func(int) int, n int) []api.Val {
	var l []api.Val
	for range next(n) {
		v := none
		if next(4) > 0 {
			v = api.Val{S: drawnText(next, 9)}
		}
		l = append(l, v)
	}
	return l
}

// drawnCoding is a coding of a kind that may be.
func drawnCoding(next func(int) int, kind int) api.Coding {
	o := api.Coding{Kind: kind, Block: next(64) + 1, Rounds: next(9)}
	for range next(6) {
		o.Draws = append(o.Draws, next(100)-50)
	}
	return o
}

// kinds are those that a coding may have.
var kinds = []int{api.Best, api.Plain, api.Fsst, api.Front}

// lists are values that may be coded.
func lists() [][]api.Val {
	l := [][]api.Val{
		nil, {}, {none}, {{S: ""}}, {{S: "a"}}, {{S: "a"}, none}, {none, {S: "a"}}, {none, none, none}, {none, {S: ""}, none, {S: ""}},
		vals("", "", ""), vals("a", "a", "a", "a"), vals("b", "a"), vals("a", "ab", "abc", "ab", "a", ""), vals("abc", "abd", "b", "abc", "abd", "b"),
		vals("\x00", "\xff", "\xff\xff", "\x00\x00", "\x7f\x80\xfe"), vals("banana", "nana", "ananas", "band", "banana"),
		vals("aaaaaaaa", "aaaaaaaaaaaaaaaa", "aaaaaaab"), slices.Repeat(vals("abab"), 9), slices.Repeat([]api.Val{none}, 9), slices.Repeat([]api.Val{{S: "x"}, none}, 20),
		vals(long(4096)), vals(long(4095), strings.Repeat("ab", 2048), ""), {none, {S: strings.Repeat("y", 4096)}, {S: strings.Repeat("y", 4095)}, none},
		vals(named(70, "user/")...), vals(slices.Concat(named(130, "/a/b/c/"), named(130, "/a/b/c/"))...),
	}
	for n := 7; n <= 9; n++ { // each in turn is none, and each in turn is there
		for i := range n {
			others := vals(named(n, "k")...)
			others[i] = none
			alone := slices.Repeat([]api.Val{none}, n)
			alone[i] = api.Val{S: "k"}
			l = append(l, others, alone)
		}
	}
	return l
}

// codings are ones that may be, of a kind.
func codings(kind int) []api.Coding {
	return []api.Coding{
		{Kind: kind, Block: 1}, {Kind: kind, Block: 64, Rounds: 8}, {Kind: kind, Block: 64, Rounds: 8, Draws: []int{0}}, {Kind: kind, Block: 2, Rounds: 1, Draws: []int{0, 1, 2, 3}},
		{Kind: kind, Block: 3, Rounds: 0, Draws: []int{0}}, {Kind: kind, Block: 63, Rounds: 2, Draws: []int{-1, -2, math.MinInt, math.MaxInt, 5, 5}}, {Kind: kind, Block: 16, Rounds: 3, Draws: []int{7, 1, 20, -33}},
	}
}

// asked are strings that chunks are asked for.
var asked = []string{"", "a", "b", "ab", "abc", "abab", "banana", "nana", "\x00", "\xff", "\xff\xff", "user/00001", "x", "k00003", "aaaaaaaaaaaaaaaaab"}

// Holding one against the other.

// few is a list that is short enough to be told.
func few(l []api.Val) string {
	s := strconv.Itoa(len(l)) + " values"
	for _, v := range l[:min(len(l), 6)] {
		if v.Null {
			s += " none"
		} else {
			s += " " + strconv.Quote(v.S[:min(len(v.S), 20)])
		}
	}
	return s
}

// short is a string's beginning.
func short[T string | []byte](b T) string {
	return strconv.Itoa(len(b)) + " bytes " + strconv.Quote(string(b[:min(len(b), 60)]))
}

// places are such as a chunk is asked for.
func places(n int) []int {
	l := []int{math.MinInt, -4096, -2, -1, n, n + 1, n + 4096, math.MaxInt}
	for i := range n {
		l = append(l, i)
	}
	return l
}

// held holds a chunk against what is told of it.
func held(t *testing.T, what string, k *chunk.Chunk, x told) {
	t.Helper()
	if k.Len() != len(x.l) || k.Kind() != x.kind || !slices.Equal(k.All(), x.l) {
		t.Errorf("%s: Len %d, Kind %d, All %s; not %d, %s", what, k.Len(), k.Kind(), few(k.All()), x.kind, few(x.l))
		return
	}
	for _, i := range places(len(x.l)) {
		if v := k.At(i); v != x.at(i) {
			t.Errorf("%s: At(%d) is %v, not %v", what, i, v, x.at(i))
		}
		if b := k.Raw(i); string(b) != x.raw(i) {
			t.Errorf("%s: Raw(%d) is %s, not %s", what, i, short(b), short(x.raw(i)))
		}
	}
	heldDict(t, what, k, x)
	for _, s := range asked {
		b, ok := k.Coded(s)
		if want, so := x.coded(s); string(b) != want || ok != so {
			t.Errorf("%s: Coded(%.40q) is %s, %v; not %s, %v", what, s, short(b), ok, short(want), so)
		}
	}
}

// heldDict holds a chunk's dictionary against what is told of it.
func heldDict(t *testing.T, what string, k *chunk.Chunk, x told) {
	t.Helper()
	d, codes := k.Dict()
	if (d != nil) != (x.kind == api.Front) || !slices.Equal(codes, x.codes()) {
		t.Errorf("%s: Dict has one: %v, codes %v; not %v", what, d != nil, codes, x.codes())
	}
	if d != nil && !slices.Equal(d.All(), x.dict) {
		t.Errorf("%s: Dict has %q, not %q", what, d.All(), x.dict)
	}
}

// made is what Code answers, where it may.
func made(t *testing.T, l []api.Val, o api.Coding) []byte {
	t.Helper()
	b, e := chunk.Code(l, o)
	if e != api.OK {
		t.Fatalf("Code of %s, %+v: error %d", few(l), o, e)
	}
	return b
}
