package crc_test

import (
	"bytes"
	"hash/crc32"
	"slices"
	"strings"
	"testing"

	"hopper/crc"
)

// sums are bytes with their sums, as they are known elsewhere.
var sums = []struct {
	s   string
	sum uint32
}{
	{"", 0},
	{"\x00", 0xd202ef8d},
	{"\xff", 0xff000000},
	{"a", 0xe8b7be43},
	{"abc", 0x352441c2},
	{"123456789", 0xcbf43926},
	{"\x00\x00\x00\x00", 0x2144df1c},
	{"\xff\xff\xff\xff", 0xffffffff},
	{"The quick brown fox jumps over the lazy dog", 0x414fa339},
}

// asWords is the sum of b bit by bit, as the chapter's words say it.
func asWords(b []byte) uint32 {
	sum := uint32(0xffffffff)
	for _, x := range b {
		sum ^= uint32(x)
		for range 8 {
			if sum&1 == 1 {
				sum = sum>>1 ^ 0xedb88320
			} else {
				sum >>= 1
			}
		}
	}
	return sum ^ 0xffffffff
}

// lowestFirst is a sum as bytes.
func lowestFirst(sum uint32) []byte {
	return []byte{byte(sum), byte(sum >> 8), byte(sum >> 16), byte(sum >> 24)}
}

// some answers n bytes of all sorts, the same each time.
func some(n int) []byte {
	b := make([]byte, n)
	draw := uint32(n)
	for i := range b {
		draw = draw*1664525 + 1013904223
		b[i] = byte(draw >> 24)
	}
	return b
}

// lists are bytes of many lengths, none of them among them.
func lists() [][]byte {
	l := [][]byte{nil, {}, make([]byte, 100), bytes.Repeat([]byte{255}, 100)}
	for n := range 40 {
		l = append(l, some(n))
	}
	for _, n := range []int{255, 256, 257, 4096, 65537} {
		l = append(l, some(n))
	}
	return l
}

// closed checks that b isn't opened, and that nothing is answered with that.
func closed(t *testing.T, what string, b []byte) {
	t.Helper()
	if got, ok := crc.Open(b); ok || len(got) != 0 {
		t.Errorf("%s: %x is opened: %x, %v", what, b, got, ok)
	}
}

// P2.1

func TestOfKnownSums(t *testing.T) {
	for _, x := range sums {
		if sum := crc.Of([]byte(x.s)); sum != x.sum {
			t.Errorf("Of %q is %08x, not %08x", x.s, sum, x.sum)
		}
	}
}

func TestOfIsWhatTheWordsSay(t *testing.T) {
	for _, b := range lists() {
		sum := crc.Of(b)
		if sum != asWords(b) || sum != crc32.ChecksumIEEE(b) {
			t.Errorf("Of %d bytes is %08x, not %08x", len(b), sum, asWords(b))
		}
	}
}

func TestOfEachByte(t *testing.T) {
	for i := range 256 {
		for _, b := range [][]byte{{byte(i)}, {0xa5, byte(i)}, {byte(i), 0x5a}} {
			if sum := crc.Of(b); sum != asWords(b) {
				t.Errorf("Of %x is %08x, not %08x", b, sum, asWords(b))
			}
		}
	}
}

func TestOfManyBytes(t *testing.T) {
	b := some(1<<20 + 3)
	if sum := crc.Of(b); sum != crc32.ChecksumIEEE(b) {
		t.Errorf("Of %d bytes is %08x", len(b), sum)
	}
}

func TestOfNoBytes(t *testing.T) {
	for i, parts := range [][][]byte{nil, {}, {nil}, {{}}, {nil, {}, nil}} {
		if sum := crc.Of(parts...); sum != 0 {
			t.Errorf("%d: Of no bytes is %08x", i, sum)
		}
	}
	if sum := crc.Of(); sum != 0 {
		t.Errorf("Of no parts is %08x", sum)
	}
}

func TestOfParts(t *testing.T) {
	b := some(60)
	want := asWords(b)
	for i := range len(b) + 1 {
		for j := i; j <= len(b); j++ {
			if sum := crc.Of(b[:i], b[i:j], b[j:]); sum != want {
				t.Fatalf("cut at %d and %d: %08x, not %08x", i, j, sum, want)
			}
		}
	}
	var single [][]byte
	for i := range b {
		single = append(single, b[i:i+1], nil, []byte{})
	}
	if sum := crc.Of(single...); sum != want {
		t.Errorf("byte by byte: %08x, not %08x", sum, want)
	}
}

func TestOfPartsInTheirOrder(t *testing.T) {
	if crc.Of([]byte("ab"), []byte("cd")) == crc.Of([]byte("cd"), []byte("ab")) {
		t.Error("parts have no order")
	}
}

func TestOfKeepsNothing(t *testing.T) {
	for range 3 {
		if sum := crc.Of([]byte("123456789")); sum != 0xcbf43926 {
			t.Errorf("a later Of is %08x", sum)
		}
		crc.Open(crc.Seal([]byte("abc")))
	}
}

// P2.2

func TestSeal(t *testing.T) {
	if s := crc.Seal([]byte("123456789")); string(s) != "123456789\x26\x39\xf4\xcb" {
		t.Errorf("Seal is %x", s)
	}
	for _, x := range sums {
		want := x.s + string(lowestFirst(x.sum))
		if s := crc.Seal([]byte(x.s)); string(s) != want {
			t.Errorf("Seal of %q is %x, not %x", x.s, s, want)
		}
	}
	for _, b := range lists() {
		want := slices.Concat(b, lowestFirst(asWords(b)))
		if s := crc.Seal(b); !bytes.Equal(s, want) {
			t.Errorf("Seal of %d bytes has %d bytes", len(b), len(s))
		}
	}
}

func TestOpen(t *testing.T) {
	for _, b := range lists() {
		got, ok := crc.Open(slices.Concat(b, lowestFirst(asWords(b))))
		if !ok || !bytes.Equal(got, b) {
			t.Errorf("Open of %d bytes and their sum: %d bytes, %v", len(b), len(got), ok)
		}
	}
}

func TestOpenOfNoSum(t *testing.T) {
	closed(t, "nil", nil)
	for n := range 4 {
		closed(t, "short", make([]byte, n))
		closed(t, "short", bytes.Repeat([]byte{255}, n))
	}
	if b, ok := crc.Open(make([]byte, 4)); !ok || len(b) != 0 {
		t.Errorf("the sum of no bytes: %x, %v", b, ok)
	}
}

func TestOpenOfAnotherSum(t *testing.T) {
	b := []byte("123456789")
	sum := asWords(b)
	low := lowestFirst(sum)
	for what, s := range map[string][]byte{
		"no sum":            b,
		"highest first":     {low[3], low[2], low[1], low[0]},
		"not turned":        lowestFirst(^sum),
		"one more":          lowestFirst(sum + 1),
		"none":              lowestFirst(0),
		"a byte short":      low[:3],
		"a byte behind":     append(slices.Clone(low), 0),
		"of other bytes":    lowestFirst(asWords([]byte("123456780"))),
		"of bytes in front": lowestFirst(asWords(b[:8])),
		"twice":             append(slices.Clone(low), low...),
	} {
		closed(t, what, slices.Concat(b, s))
	}
	closed(t, "sum ahead", slices.Concat(low, b))
	closed(t, "a byte missing", slices.Concat(b[1:], low))
}

func TestOpenSaysWhatTheSumSays(t *testing.T) {
	for n := range 300 {
		b := some(n)
		want := n >= 4 && bytes.Equal(b[n-4:], lowestFirst(asWords(b[:n-4])))
		if got, ok := crc.Open(b); ok != want || !ok && len(got) != 0 {
			t.Errorf("Open of %x: %x, %v", b, got, ok)
		}
	}
}

// P2.3

func TestWhatIsSealedIsOpened(t *testing.T) {
	for _, b := range lists() {
		once := crc.Seal(b)
		if got, ok := crc.Open(once); !ok || !bytes.Equal(got, b) {
			t.Errorf("%d bytes are opened as %d, %v", len(b), len(got), ok)
		}
		if got, ok := crc.Open(crc.Seal(once)); !ok || !bytes.Equal(got, once) {
			t.Errorf("%d bytes, sealed twice, are opened as %d, %v", len(b), len(got), ok)
		}
	}
}

func TestWithOneByteTurnedItIsNotOpened(t *testing.T) {
	for _, b := range [][]byte{nil, {0}, {255}, some(2), some(3), some(4), some(9), make([]byte, 33), some(64)} {
		s := crc.Seal(b)
		for i := range s {
			for by := 1; by < 256; by++ {
				s[i] ^= byte(by)
				closed(t, "turned", s)
				s[i] ^= byte(by)
			}
		}
		if _, ok := crc.Open(s); !ok {
			t.Errorf("%x, turned back, isn't opened", s)
		}
	}
}

// P2.4

func TestWhatIsHandedInStays(t *testing.T) {
	const text = "123456789\x26\x39\xf4\xcb...."
	b := []byte(text)
	crc.Of(b[:9], b[9:], b[:4])
	crc.Seal(b[:4])
	crc.Seal(b[:9])
	crc.Seal(b)
	crc.Open(b[:13])
	crc.Open(b)
	if string(b) != text {
		t.Errorf("what is handed in became %q", b)
	}
	parts := [][]byte{b[:2], nil, b[2:]}
	crc.Of(parts...)
	if len(parts) != 3 || string(parts[0]) != text[:2] || parts[1] != nil || string(parts[2]) != text[2:] {
		t.Errorf("the parts became %q", parts)
	}
}

func TestAnswersAreNewMemory(t *testing.T) {
	const text = "123456789\x26\x39\xf4\xcb...."
	b := []byte(text)
	opened, _ := crc.Open(b[:13])
	for name, got := range map[string][]byte{"Seal": crc.Seal(b[:9]), "Open": opened} {
		clear(got)
		_ = append(got, strings.Repeat("x", 8)...)
		if string(b) != text {
			t.Errorf("%s shares memory with what is handed in, now %q", name, b)
		}
	}
}

func TestTwoAnswersShareNothing(t *testing.T) {
	b := []byte("abc")
	one, two := crc.Seal(b), crc.Seal(b)
	clear(one)
	got, ok := crc.Open(two)
	if !ok || string(got) != "abc" {
		t.Errorf("two answers of Seal share memory: %x", two)
	}
	clear(got)
	if again, ok := crc.Open(two); !ok || string(again) != "abc" {
		t.Errorf("two answers of Open share memory: %x", again)
	}
}

func TestWhatIsHandedInIsNotKept(t *testing.T) {
	b := []byte("abc")
	s := crc.Seal(b)
	clear(b)
	got, ok := crc.Open(s)
	clear(s)
	if !ok || string(got) != "abc" {
		t.Errorf("what is answered hangs on what was handed in: %x", got)
	}
}
