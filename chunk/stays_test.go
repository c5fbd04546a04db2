package chunk_test

import (
	"bytes"
	"slices"
	"testing"

	"hopper/api"
	"hopper/chunk"
	"hopper/cursor"
	"hopper/front"
)

// P17.5: what is handed in stays, and isn't kept; what is answered is new
// memory. P1: every call ends.

// Behind a list's end there is room, in which nothing is written either.
func TestWhatIsHandedInStays(t *testing.T) {
	values := append(make([]api.Val, 0, 9), vals("b", "a", "abab", "", "a")...)
	beyond := values[:cap(values)]
	beyond[7] = api.Val{S: "beyond"}
	numbers := append(make([]int, 0, 8), 3, -1, 2)
	behind := numbers[:cap(numbers)]
	behind[5] = 77
	l, d := slices.Clone(beyond), slices.Clone(behind)
	for _, kind := range kinds {
		o := api.Coding{Kind: kind, Block: 2, Rounds: 2, Draws: numbers}
		made(t, values, o)
		if _, e := chunk.Measure(values, o); e != api.OK {
			t.Errorf("Measure: error %d", e)
		}
		if !slices.Equal(beyond, l) || !slices.Equal(behind, d) {
			t.Fatalf("kind %d: %v, %v", kind, beyond, behind)
		}
	}
}

func TestValuesAndDrawsAreNotKept(t *testing.T) {
	for _, kind := range kinds {
		l, o := vals("b", "a", "abab", "", "a"), api.Coding{Kind: kind, Block: 2, Rounds: 2, Draws: []int{2, 0}}
		want := bytesOf(l, o)
		b := made(t, l, o)
		l[0], l[1].S, o.Draws[0] = none, "other", 1
		if string(b) != want {
			t.Errorf("kind %d: %x, not %x", kind, b, want)
		}
		if other := bytesOf(l, o); string(made(t, l, o)) != other {
			t.Errorf("kind %d: the old ones are kept", kind)
		}
	}
}

func TestBytesOfACursorStay(t *testing.T) {
	for _, kind := range kinds {
		l, o := []api.Val{{S: "b"}, none, {S: "abab"}, {S: ""}}, api.Coding{Kind: kind, Block: 2, Rounds: 2, Draws: []int{2, 0}}
		x := toldOf(l, o)
		b := made(t, l, o)
		was := bytes.Clone(b)
		k := chunk.Open(cursor.New(b))
		held(t, "as it stands", k, x)
		if !bytes.Equal(b, was) {
			t.Errorf("kind %d: %x, not %x", kind, b, was)
		}
		clear(b)
		held(t, "with its bytes cleared", k, x)
	}
}

// A cursor that has gone on, and what is taken from it, say nothing of a chunk.
func TestChunksOfOneCursorAreApart(t *testing.T) {
	for _, kind := range kinds {
		o := api.Coding{Kind: kind, Block: 2, Rounds: 2, Draws: []int{2, 0}}
		l, m := vals("b", "a", "abab"), vals("c", "cc", "ccdd", "")
		c := cursor.New([]byte(bytesOf(l, o) + bytesOf(m, o)))
		a := chunk.Open(c)
		b := chunk.Open(c)
		c.Fail(api.ErrCorrupt)
		held(t, "the first one", a, toldOf(l, o))
		held(t, "the second one", b, toldOf(m, o))
	}
}

func TestCodeAnswersNewMemory(t *testing.T) {
	for _, kind := range kinds {
		l, o := vals("b", "a", "abab", "", "a"), api.Coding{Kind: kind, Block: 2, Rounds: 2, Draws: []int{2, 0}}
		want := bytesOf(l, o)
		a, b := made(t, l, o), made(t, l, o)
		clear(a[:cap(a)])
		if string(b) != want || string(made(t, l, o)) != want {
			t.Errorf("kind %d: %x, not %x", kind, b, want)
		}
	}
}

// over writes into all of a list, and behind its end.
func over[T any](l []T, x T) {
	l = l[:cap(l)]
	for i := range l {
		l[i] = x
	}
}

func TestAChunkAnswersNewMemory(t *testing.T) {
	for _, kind := range kinds {
		l, o := []api.Val{{S: "b"}, none, {S: "abab"}, {S: ""}, {S: "abab"}, {S: "ab"}}, api.Coding{Kind: kind, Block: 2, Rounds: 2, Draws: []int{2, 0}}
		k, x := gotten(t, l, o), toldOf(l, o)
		over(k.All(), api.Val{S: "other"})
		held(t, "All written into", k, x)
		if d, codes := k.Dict(); d != nil {
			over(codes, 7)
			over(d.All(), "other")
			held(t, "Dict's codes written into", k, x)
			*d = front.Dict{}
			held(t, "Dict set anew", k, x)
		}
		for i := range l {
			over(k.Raw(i), 'x')
			held(t, "Raw written into", k, x)
		}
		for _, s := range []string{"b", "abab", ""} {
			b, _ := k.Coded(s)
			over(b, 'x')
			held(t, "Coded written into", k, x)
		}
	}
}

func TestNoTwoAnswersShareMemory(t *testing.T) {
	for _, kind := range kinds {
		l, o := vals("abab", "b", "abab"), api.Coding{Kind: kind, Block: 2, Rounds: 2, Draws: []int{0}}
		k, x := gotten(t, l, o), toldOf(l, o)
		a, b := k.Raw(0), k.Raw(1)
		_ = append(a, "other"...)
		over(a, 'x')
		if string(b) != x.raw(1) || string(k.Raw(0)) != x.raw(0) {
			t.Errorf("kind %d: Raw is %x and %x", kind, b, k.Raw(0))
		}
		one, _ := k.Coded("abab")
		two, _ := k.Coded("abab")
		over(one, 'x')
		if want, _ := x.coded("abab"); string(two) != want {
			t.Errorf("kind %d: Coded is %x", kind, two)
		}
		_, codes := k.Dict()
		_, again := k.Dict()
		over(codes, 9)
		if !slices.Equal(again, x.codes()) {
			t.Errorf("kind %d: Dict's codes are %v", kind, again)
		}
	}
}

// Of nil nothing is promised but that calls end.
func TestCallsOfNilEnd(t *testing.T) {
	var k *chunk.Chunk
	held(t, "a nil chunk", k, told{})
	held(t, "no chunk", &chunk.Chunk{}, told{})
	held(t, "a chunk of a nil cursor", chunk.Open(nil), told{})
}

// Whatever values and codings: each call ends, and answers bytes that open, or
// ErrArg.
func TestCallsEnd(t *testing.T) {
	next := draws(1)
	refused := 0
	for range 3000 {
		l := drawn(next, 12)
		for i := range l {
			l[i].Null = next(9) == 0
		}
		o := api.Coding{Kind: next(7) - 1, Block: next(70) - 1, Rounds: next(12) - 1, Draws: make([]int, next(5))}
		b, e := chunk.Code(l, o)
		m, e2 := chunk.Measure(l, o)
		if e != e2 || (e == api.OK) != (imag(m) != 0 || real(m) != 0) {
			t.Errorf("%s, %+v: error %d, and of Measure %d, %v", few(l), o, e, e2, m)
		}
		c := cursor.New(b)
		if k := chunk.Open(c); e == api.OK && (c.End() != api.OK || !slices.Equal(k.All(), l)) {
			t.Errorf("%s, %+v: error %d", few(l), o, c.End())
		}
		if e == api.ErrArg {
			refused++
		}
	}
	if refused < 500 || refused > 2500 {
		t.Errorf("%d of 3000 are refused", refused)
	}
}
