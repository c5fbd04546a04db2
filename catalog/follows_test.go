package catalog_test

import (
	"slices"
	"testing"

	"hopper/api"
)

// P19.4: what is exported is loaded with the same rows, and exported to the same
// bytes. P19.3: with an error nothing is changed. P4: whatever bytes are loaded
// are ErrCorrupt, or a table of which all of that holds.

// goesRound says that what is exported is loaded, in the same catalog and in
// another, and is the same table again.
func goesRound(t *testing.T, p *pair, name string) {
	t.Helper()
	b, e := p.Export(name)
	is(t, "its bytes", e, api.OK)
	rows, e := p.Rows(name)
	is(t, "its rows", e, api.OK)
	for _, q := range []*pair{p, fresh()} {
		is(t, "loaded", q.Load("again", b), api.OK)
		got, e := q.Rows("again")
		if e != api.OK || !sameRows(got, rows) {
			t.Errorf("%s: loaded they are error %d, %s", few(rows), e, few(got))
		}
		c, e := q.Export("again")
		if e != api.OK || string(c) != string(b) {
			t.Errorf("%s: loaded it is error %d, %s", short(b), e, short(c))
		}
		is(t, "and goes", q.Drop("again"), api.OK)
	}
}

func TestWhatIsExportedIsLoaded(t *testing.T) {
	for _, x := range tables() {
		p := fresh()
		p.create(t, "a", x.cols)
		for _, s := range x.parts {
			is(t, "a segment", p.Add("a", []byte(s.b)), api.OK)
		}
		goesRound(t, p, "a")
	}
	next := draws(194)
	for range 150 {
		p, cols := fresh(), 1+next(8)
		p.create(t, "a", cols)
		for range next(6) {
			is(t, "a segment", p.add(t, "a", drawn(next, cols, 15).b), api.OK)
			goesRound(t, p, "a")
		}
	}
}

func TestWhateverIsLoadedIsExportedAsItStood(t *testing.T) {
	right := 0
	for _, inside := range small() {
		for i := range inside {
			for turned := range 256 {
				p, b := fresh(), sealed(inside[:i]+string([]byte{byte(turned)})+inside[i+1:])
				if p.Load("a", []byte(b)) != api.OK {
					continue
				}
				right++
				goesRound(t, p, "a")
				if c, e := p.Export("a"); e != api.OK || string(c) != b {
					t.Errorf("%s: error %d, %s", short(b), e, short(c))
				}
			}
		}
	}
	if right < 100 {
		t.Errorf("%d are tables", right)
	}
}

// The rows hang on no codings, cuts or bits, only the bytes do.
func TestRowsHangOnNoCodings(t *testing.T) {
	next := draws(195)
	for range 40 {
		cols := 1 + next(8)
		rows := drawnRows(next, cols, 20)
		for range 4 {
			p := fresh()
			p.create(t, "a", cols)
			for left := rows; len(left) > 0; {
				n := 1 + next(len(left))
				o := times(cols, api.Coding{Kind: kinds[next(4)], Block: 1 + next(64), Rounds: next(3), Draws: []int{next(9)}})
				s := written(cols, slices.Collect(slices.Chunk(left[:n], 1+next(n))), o, sizes[next(6)])
				is(t, "a segment", p.Add("a", []byte(s.b)), api.OK)
				left = left[n:]
			}
			if got, e := p.Rows("a"); e != api.OK || !sameRows(got, rows) {
				t.Errorf("error %d, %s; not %s", e, few(got), few(rows))
			}
			goesRound(t, p, "a")
		}
	}
}

// wrongs are bytes that are no segment, and no table's.
func wrongs() []string {
	s := one(vals("abcd")...).b
	return []string{"", "\x01", sealed(""), sealed("\x00\x00"), sealed("\x09\x00"), s[1:], s + "\x00", sealed(s), s[:len(s)-1], sealed("\x01\x01\x07" + s), told{1, []part{{b: s[1:]}}}.bytes(), told{2, []part{{b: s}}}.bytes(), told{1, []part{nones(4000), nones(97)}}.bytes()}
}

// goods are tables' bytes.
func goods() []string {
	l := []string{told{1, []part{nones(4000)}}.bytes(), told{1, []part{nones(2000), nones(2096)}}.bytes()}
	for cols := 1; cols <= 4; cols++ {
		l = append(l, told{cols: cols}.bytes(), told{cols, parts(cols)[:2]}.bytes())
	}
	return l
}

// done is a call, and its error.
type done struct {
	call string
	e    api.Errno
}

// drawnStep does something to a pair, and tells what.
func drawnStep(t *testing.T, p *pair, next func(int) int, segments, wrongs, goods []string) done {
	t.Helper()
	name := append(names[:19:19], wrong[:2]...)[next(21)]
	switch next(10) {
	case 0, 1, 2:
		return done{"create", p.create(t, name, next(6))}
	case 3:
		return done{"drop", p.drop(t, name)}
	case 4, 5:
		return done{"load", p.load(t, name, goods[next(len(goods))])}
	case 6:
		return done{"load", p.load(t, name, wrongs[next(len(wrongs))])}
	case 7:
		return done{"add", p.add(t, name, wrongs[next(len(wrongs))])}
	case 8:
		return done{"add", p.add(t, names[next(4)*4], segments[next(3)])} // of one column, most times
	}
	return done{"add", p.add(t, name, segments[next(len(segments))])}
}

// Whatever is done, one behind the other: a catalog answers what the list tells,
// and is what it tells behind each step, be it an error or not.
func TestDrawnSteps(t *testing.T) {
	next := draws(196)
	wrongs, goods := wrongs(), goods()
	segments := []string{nones(4000).b, nones(97).b, nones(1).b}
	for cols := 1; cols <= 4; cols++ {
		for _, s := range parts(cols)[:4] {
			segments = append(segments, s.b)
		}
	}
	count := map[done]int{}
	for range 8 {
		p := fresh()
		for i, name := range names[:14] {
			p.create(t, name, 1+i%4)
		}
		for range 90 {
			count[drawnStep(t, p, next, segments, wrongs, goods)]++
		}
		for _, name := range p.Names() {
			if len(p.l) < 16 {
				goesRound(t, p, name)
			}
		}
		p.held(t, "at the end")
	}
	for call, errors := range map[string][]api.Errno{
		"create": {api.OK, api.ErrArg, api.ErrName, api.ErrLimit}, "drop": {api.OK, api.ErrName},
		"add": {api.OK, api.ErrName, api.ErrCorrupt, api.ErrLimit}, "load": {api.OK, api.ErrArg, api.ErrName, api.ErrLimit, api.ErrCorrupt},
	} {
		for _, e := range errors {
			if count[done{call, e}] < 3 {
				t.Errorf("%s: error %d, %d times", call, e, count[done{call, e}])
			}
		}
	}
}

// With an error nothing is changed: of each call that answers one, with one
// table or as many as there may be.
func TestNothingIsChangedWithAnError(t *testing.T) {
	for _, n := range []int{1, 16} {
		p := fresh()
		for i := range n {
			p.create(t, nth(i), 1)
			p.add(t, nth(i), one(vals("x", "y")...).b)
		}
		p.add(t, "t0", nones(4094).b)
		was := slices.Clone(p.l)
		more := api.ErrLimit
		if n < 16 {
			more = api.ErrCorrupt
		}
		is(t, "no name", p.Create("", 1), api.ErrArg)
		is(t, "other columns", p.Create("new", 0), api.ErrArg)
		is(t, "other columns", p.Create("t0", 9), api.ErrArg)
		is(t, "a table that is there", p.Create("t0", 2), api.ErrName)
		is(t, "no table", p.Drop("new"), api.ErrName)
		is(t, "no table", p.Add("new", []byte(of(1).b)), api.ErrName)
		is(t, "no segment", p.Add("t0", nil), api.ErrCorrupt)
		is(t, "other columns", p.Add("t0", []byte(of(2).b)), api.ErrCorrupt)
		is(t, "more rows", p.Add("t0", []byte(nones(1).b)), api.ErrLimit)
		is(t, "no name", p.Load("", []byte(told{cols: 1}.bytes())), api.ErrArg)
		is(t, "a table that is there", p.Load("t0", []byte(told{cols: 1}.bytes())), api.ErrName)
		for _, b := range wrongs() {
			is(t, "no table's bytes", p.Load("new", []byte(b)), more)
			is(t, "no segment", p.Add("t0", []byte(b)), api.ErrCorrupt)
		}
		if b, e := p.Export("new"); b != nil || e != api.ErrName {
			t.Errorf("error %d, %x", e, b)
		}
		if rows, e := p.Rows("new"); rows != nil || e != api.ErrName {
			t.Errorf("error %d, %s", e, few(rows))
		}
		if n == 16 {
			is(t, "more tables", p.Create("new", 1), api.ErrLimit)
			is(t, "more tables", p.Load("new", []byte(told{cols: 1}.bytes())), api.ErrLimit)
		}
		if !slices.EqualFunc(p.l, was, func(x, y named) bool { return x.name == y.name && x.bytes() == y.bytes() }) {
			t.Error("the list is another one")
		}
		p.asked = append(p.asked, "new")
		p.held(t, "behind errors")
	}
}

// Segments ahead of one that is at fault don't stay.
func TestNothingStaysOfATableThatIsRefused(t *testing.T) {
	p := fresh()
	s := part{b: one(vals("x")...).b[1:]}
	is(t, "a segment at fault behind others", p.load(t, "a", told{1, []part{nones(4000), of(1), s}}.bytes()), api.ErrCorrupt)
	is(t, "too many rows behind others", p.load(t, "a", told{1, []part{nones(4000), nones(97)}}.bytes()), api.ErrCorrupt)
	is(t, "no table", p.add(t, "a", nones(1).b), api.ErrName)
	is(t, "a new one", p.create(t, "a", 2), api.OK)
	is(t, "its rows", p.add(t, "a", of(2, vals("x", "y")).b), api.OK)
}
