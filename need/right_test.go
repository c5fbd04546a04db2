package need_test

import (
	"math"
	"slices"
	"strconv"
	"strings"
	"testing"

	"hopper/api"
	"hopper/need"
)

// judges checks whether a predicate is right, by what is wanted and by the
// words.
func judges(t *testing.T, p api.Pred, cols int, want bool) {
	t.Helper()
	if words := rightOf(p, cols); words != want {
		t.Fatalf("Right of %s, %d columns: the words say %t", told(p), cols, words)
	}
	if got := need.Right(p, cols); got != want {
		t.Errorf("Right of %s, %d columns is %t", told(p), cols, got)
	}
}

// judgesAsTold checks whether a predicate is right, by the words.
func judgesAsTold(t *testing.T, p api.Pred, cols int) bool {
	t.Helper()
	want := rightOf(p, cols)
	judges(t, p, cols, want)
	return want
}

// outside are numbers below the least and above the greatest, some of them with
// the low bits of one between.
func outside(least, greatest int) []int {
	l := []int{math.MinInt, math.MinInt + 1, math.MinInt32, -1 << 32, -256, least - 1, greatest + 1, greatest + 256, 1<<16 + greatest, math.MaxInt32, 1 << 32, 1<<32 + greatest, math.MaxInt - 1, math.MaxInt}
	return slices.DeleteFunc(l, func(x int) bool { return x >= least && x <= greatest })
}

// bare are the kinds that have no Kids, each with what its kind has.
func bare() []api.Pred {
	var l []api.Pred
	for kind := api.PredEq; kind <= api.PredNull; kind++ {
		l = append(l, asked(kind, 0, "ab"))
	}
	return l
}

// nested are the kinds that have Kids.
func nested() []api.Pred {
	kid := asked(api.PredEq, 0, "a")
	return []api.Pred{and(kid), or(kid), and(kid, kid), or(kid, kid), not(kid)}
}

// changed is a predicate, changed.
func changed(p api.Pred, change func(*api.Pred)) api.Pred {
	change(&p)
	return p
}

// P16.1, Right

func TestRightOfEachKind(t *testing.T) {
	for _, p := range append(bare(), nested()...) {
		judges(t, p, 1, true)
		judges(t, p, 8, true)
		judges(t, p, 0, false)
	}
	judges(t, api.Pred{}, 1, false)
	for _, kind := range append(outside(1, 14), 0, 15, 16, 28) {
		for _, p := range append(append(bare(), nested()...), api.Pred{}, asked(kind, 0, "")) {
			p.Kind = kind
			judges(t, p, 1, false)
			judges(t, not(p), 1, false)
		}
	}
}

func TestRightOfColumns(t *testing.T) {
	for _, p := range bare() {
		for _, cols := range []int{1, 2, 3, 7, 8} {
			for col := range cols {
				p.Col = col
				judges(t, p, cols, true)
			}
			for _, col := range append(outside(0, cols-1), -1, cols, cols+1) {
				p.Col = col
				judges(t, p, cols, false)
			}
		}
		for _, cols := range []int{0, -1, -8, math.MinInt} {
			for _, col := range []int{0, -1, 1, cols, cols - 1, math.MinInt, math.MaxInt} {
				p.Col = col
				judges(t, p, cols, false)
				judges(t, and(p), cols, false)
			}
		}
	}
}

func TestRightOfColumnsOfKids(t *testing.T) {
	for _, nest := range []func(...api.Pred) api.Pred{and, or} {
		kids := []api.Pred{asked(api.PredEq, 0, "a"), asked(api.PredNull, 1, ""), asked(api.PredHas, 2, "a")}
		judges(t, nest(kids...), 3, true)
		judges(t, nest(kids...), 2, false)
		judges(t, nest(kids...), 1, false)
		judges(t, nest(kids[1], kids[0]), 1, false)
		judges(t, not(nest(not(kids[2]))), 3, true)
		judges(t, not(nest(not(kids[2]))), 2, false)
	}
}

func TestRightOfColl(t *testing.T) {
	for _, p := range bare() {
		for _, coll := range []int{api.CollBytes, api.CollFold, api.CollPoints} {
			p.Coll = coll
			judges(t, p, 1, coll == 0 || comparesOf(p.Kind))
		}
		for _, coll := range append(outside(0, 2), -1, 3) {
			p.Coll = coll
			judges(t, p, 1, false)
		}
	}
}

func TestRightOfLongTexts(t *testing.T) {
	for _, p := range bare() {
		for _, n := range []int{0, 1, api.MaxText - 1, api.MaxText} {
			for _, part := range []string{"a", "\x00", "\xff", "%", "ab"} {
				p.S = strings.Repeat(part, n)[:n]
				judges(t, p, 1, n == 0 || p.Kind != api.PredNull)
			}
		}
		for _, n := range []int{api.MaxText + 1, api.MaxText + 2, 2 * api.MaxText, 1 << 16, 1 << 20} {
			p.S = strings.Repeat("a", n)
			judges(t, p, 1, false)
			judges(t, and(asked(api.PredNull, 0, ""), p), 1, false)
		}
	}
	// what counts is the pattern's bytes, and not its signs
	judges(t, like(strings.Repeat("!a", api.MaxText/2), '!'), 1, true)
	judges(t, like(strings.Repeat("!a", api.MaxText/2)+"b", '!'), 1, false)
}

func TestRightOfNull(t *testing.T) {
	judges(t, api.Pred{Kind: api.PredNull}, 1, true)
	for _, s := range []string{"a", "\x00", "\xff", "%", strings.Repeat("a", api.MaxText), strings.Repeat("a", api.MaxText+1)} {
		judges(t, api.Pred{Kind: api.PredNull, S: s}, 1, false)
		judges(t, not(api.Pred{Kind: api.PredNull, S: s}), 1, false)
	}
}

func TestRightOfPatterns(t *testing.T) {
	for _, x := range []struct {
		s    string
		esc  int
		want bool
	}{
		{"", -1, true}, {"", 0, true}, {"", '!', true}, {"", 255, true},
		{"", -2, false}, {"", 256, false}, {"a", 256 + '!', false}, {"a", '!' - 256, false},
		{"a%c", -1, true}, {"a%c", 0, true}, {"a_c!", -1, true}, {"a!", '!', false}, {"!", '!', false}, {"!!", '!', true}, {"!!!", '!', false}, {"!a", '!', true}, {"!%", '!', true}, {"a!bc", '!', true}, {"a!b!", '!', false}, {"a%!", '!', false},
		{"a\x00", 0, false}, {"a\x00b", 0, true}, {"\x00", 0, false}, {"\x00\x00", 0, true}, {"\x00", -1, true}, {"\x00", 1, true},
		{"a\xff", 255, false}, {"a\xffb", 255, true}, {"\xff", 255, false}, {"\xff\xff", 255, true}, {"\xff", -1, true}, {"\xff", 254, true},
		{"%", '%', false}, {"%%", '%', true}, {"_", '_', false}, {"_a", '_', true}, {"%", '_', true},
		{strings.Repeat("a", 4095) + "!", '!', false}, {strings.Repeat("a", 4094) + "!!", '!', true}, {strings.Repeat("!", 4096), '!', true}, {strings.Repeat("!", 4095), '!', false},
	} {
		judges(t, like(x.s, x.esc), 1, x.want)
		judges(t, or(like("a", -1), not(like(x.s, x.esc))), 1, x.want)
	}
	for esc := range 256 {
		e := string([]byte{byte(esc)})
		for _, s := range []string{"", "a", "%", "_", "\x00", "\xff", e, e + e, e + "a", "a" + e, e + e + e, "%" + e + "%"} {
			judgesAsTold(t, like(s, esc), 1)
			judges(t, like(s, -1), 1, true)
		}
	}
	for _, esc := range outside(-1, 255) {
		for _, s := range []string{"", "a", "%", "\x00", "\xff", strings.Repeat("a", 4096)} {
			judges(t, like(s, esc), 1, false)
		}
	}
}

// Esc is 0 of all kinds but Like, Coll of those that don't compare.
func TestRightOfEscOfOtherKinds(t *testing.T) {
	for _, p := range append(bare(), nested()...) {
		if p.Kind == api.PredLike {
			continue
		}
		for _, esc := range append(outside(0, 0), -1, 1, '!', 255, 256) {
			p.Esc = esc
			judges(t, p, 1, false)
		}
	}
}

func TestRightOfHowManyKids(t *testing.T) {
	kid := asked(api.PredEq, 0, "a")
	for n := range 40 {
		for _, kids := range [][]api.Pred{same(n, kid), same(n, not(kid))} {
			judges(t, and(kids...), 1, n >= 1 && n <= 16)
			judges(t, or(kids...), 1, n >= 1 && n <= 16)
			judges(t, not(kids...), 1, n == 1)
			for _, p := range bare() {
				p.Kids = kids
				judges(t, p, 1, n == 0)
			}
		}
	}
	for _, n := range []int{256, 257, 272, 1<<16 + 1} {
		judges(t, and(same(n, kid)...), 1, false)
		judges(t, or(same(n, kid)...), 1, false)
		judges(t, not(same(n, kid)...), 1, false)
	}
	for _, nest := range []func(...api.Pred) api.Pred{and, or, not} {
		judges(t, nest(), 1, false)
		judges(t, nest([]api.Pred{}...), 1, false)
		judges(t, not(nest()), 1, false)
	}
	// as many as there may be, of each of as many
	judges(t, and(same(16, or(same(16, kid)...))...), 1, true)
	judges(t, or(same(16, and(same(17, kid)...))...), 1, false)
}

// A list without Kids is none, whether it is nil or empty.
func TestRightOfEmptyKids(t *testing.T) {
	for _, p := range bare() {
		p.Kids = []api.Pred{}
		judges(t, p, 1, true)
		p.Kids = make([]api.Pred, 0, 3)
		judges(t, p, 1, true)
		p.Kids = []api.Pred{{}}
		judges(t, p, 1, false)
	}
}

func TestRightOfWhatNestsAndAsks(t *testing.T) {
	for _, p := range nested() {
		for _, x := range append(outside(0, 0), -1, 1, 2, 7) {
			for _, cols := range []int{1, 3, 8} {
				judges(t, changed(p, func(p *api.Pred) { p.Col = x }), cols, false)
				judges(t, changed(p, func(p *api.Pred) { p.Esc = x }), cols, false)
				judges(t, changed(p, func(p *api.Pred) { p.Coll = x }), cols, false)
			}
		}
		for _, s := range []string{"a", "\x00", "\xff", strings.Repeat("a", 4096), strings.Repeat("a", 4097)} {
			judges(t, changed(p, func(p *api.Pred) { p.S = s }), 1, false)
			judges(t, not(changed(p, func(p *api.Pred) { p.S = s })), 1, false)
		}
	}
}

// wrong are predicates that aren't right, each for one reason, for one column.
func wrong() []api.Pred {
	l := []api.Pred{
		{}, {Kind: 15}, {Kind: -1}, asked(api.PredEq, 1, ""), asked(api.PredNull, -1, ""), by(api.PredLt, 3, ""), by(api.PredHas, 1, "a"), by(api.PredNull, 2, ""), has(strings.Repeat("a", 4097)),
		like("!", '!'), like("", 256), {Kind: api.PredNull, S: "a"}, {Kind: api.PredEq, Esc: -1}, and(), or(), not(), not(has("a"), has("b")), and(same(17, has("a"))...), or(same(17, has("a"))...),
		{Kind: api.PredHas, Kids: []api.Pred{has("a")}}, {Kind: api.PredAnd, Col: 1, Kids: []api.Pred{has("a")}}, {Kind: api.PredOr, S: "a", Kids: []api.Pred{has("a")}},
		{Kind: api.PredNot, Esc: 1, Kids: []api.Pred{has("a")}}, {Kind: api.PredNot, Coll: 1, Kids: []api.Pred{has("a")}},
	}
	return l
}

func TestRightOfAWrongKid(t *testing.T) {
	for _, bad := range wrong() {
		judges(t, bad, 1, false)
		judges(t, not(bad), 1, false)
		for _, nest := range []func(...api.Pred) api.Pred{and, or} {
			judges(t, nest(bad), 1, false)
			for _, n := range []int{2, 3, 8, 16} {
				for _, at := range []int{0, 1, n / 2, n - 2, n - 1} {
					kids := same(n, has("abc"))
					judges(t, nest(kids...), 1, true)
					kids[at] = bad
					judges(t, nest(kids...), 1, false)
					judges(t, or(has("a"), nest(kids...), has("b")), 1, false)
				}
			}
		}
		// deep within
		for times := range 9 {
			for kind := api.PredAnd; kind <= api.PredNot; kind++ {
				judges(t, wrap(bad, kind, times), 1, false)
				judges(t, wrap(and(has("a"), or(bad, has("b"))), kind, times), 1, false)
			}
		}
	}
}

func TestRightOfHowDeep(t *testing.T) {
	for _, kid := range bare() {
		for kind := api.PredAnd; kind <= api.PredNot; kind++ {
			for times := range 20 {
				judges(t, wrap(kid, kind, times), 1, times <= 11)
			}
			for _, times := range []int{100, 1 << 8, 1<<8 + 11} {
				judges(t, wrap(kid, kind, times), 1, false)
			}
		}
	}
	// each in turn, with shallow ones beside the deep one
	for at := range 3 {
		p := has("a")
		for deep := 2; deep < 16; deep++ {
			kids := same(3, has("a"))
			kids[at] = p
			switch deep % 3 {
			case 0:
				p = and(kids...)
			case 1:
				p = or(kids...)
			default:
				p = not(p)
			}
			if deepOf(p) != deep {
				t.Fatalf("%d deep, not %d", deepOf(p), deep)
			}
			judges(t, p, 1, deep <= 12)
		}
	}
	// of many levels, too, it is told, and ends
	if need.Right(wrap(has("a"), api.PredNot, 60000), 1) || need.Right(wrap(has("a"), api.PredAnd, 60000), 1) {
		t.Error("Right of what is 60001 deep is true")
	}
}

// Two deep ones side by side are no deeper than one.
func TestRightOfDeepOnesSideBySide(t *testing.T) {
	deep := wrap(has("a"), api.PredNot, 10)
	for _, nest := range []func(...api.Pred) api.Pred{and, or} {
		judges(t, nest(same(16, deep)...), 1, true)
		judges(t, nest(append(same(15, deep), not(deep))...), 1, false)
		judges(t, nest(append(same(1, not(deep)), same(15, deep)...)...), 1, false)
		judges(t, not(nest(deep, deep)), 1, false)
	}
}

// change changes one thing of a predicate, so that it is right seldom.
func change(next func(int) int, p *api.Pred) {
	number := func() int { return []int{-1, 0, 1, 2, 3, 11, 12, 13, 14, 15, 255, 256}[next(12)] }
	switch next(7) {
	case 0:
		p.Kind = number()
	case 1:
		p.Col = number()
	case 2:
		p.Coll = number()
	case 3:
		p.Esc = number()
	case 4:
		p.S = []string{"", "a", "%", "!", strings.Repeat("a", 4096), strings.Repeat("a", 4097)}[next(6)]
	case 5:
		p.Kids = append(slices.Clone(p.Kids), drawnAsked(next, 3))
	case 6:
		p.Kids = slices.Clone(p.Kids[:len(p.Kids)/2])
	}
}

// node answers one of a predicate's, or of its Kids', to be changed. Lists of
// Kids on the way become new ones.
func node(next func(int) int, p *api.Pred) *api.Pred {
	for len(p.Kids) > 0 && next(4) > 0 {
		p.Kids = slices.Clone(p.Kids)
		p = &p.Kids[next(len(p.Kids))]
	}
	return p
}

func TestRightAsTheWordsSay(t *testing.T) {
	next := draws(1)
	right := map[string]int{}
	for range 60000 {
		cols := 1 + next(3)
		p := drawnPred(next, cols, 1+next(5))
		judges(t, p, cols, true)
		p = wrap(p, api.PredAnd+next(3), next(12))
		judgesAsTold(t, p, cols)
		judgesAsTold(t, p, cols-1)
		change(next, node(next, &p))
		right[strconv.FormatBool(judgesAsTold(t, p, cols))]++
	}
	if right["true"] < 3000 || right["false"] < 3000 {
		t.Errorf("changed ones: %v", right)
	}
}
