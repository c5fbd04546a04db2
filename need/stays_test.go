package need_test

import (
	"math"
	"reflect"
	"slices"
	"strings"
	"testing"

	"hopper/api"
	"hopper/need"
)

// copied is a predicate with Kids of its own.
func copied(p api.Pred) api.Pred {
	kids := p.Kids
	p.Kids = nil
	for _, kid := range kids {
		p.Kids = append(p.Kids, copied(kid))
	}
	return p
}

// alike says whether two predicates are; nil and empty lists are one.
func alike(p, q api.Pred) bool {
	return reflect.DeepEqual(copied(p), copied(q))
}

// roomy is a predicate of which each list of Kids has room behind it, with a
// predicate in it.
func roomy(p api.Pred) api.Pred {
	if len(p.Kids) == 0 {
		return p
	}
	var kids []api.Pred
	for _, kid := range p.Kids {
		kids = append(kids, roomy(kid))
	}
	p.Kids = append(kids, has("behind"))[:len(kids)]
	return p
}

// keptBehind says whether what stands behind each list of Kids is as it was.
func keptBehind(p api.Pred) bool {
	n := len(p.Kids)
	return n == 0 || alike(p.Kids[:n+1][n], has("behind")) && !slices.ContainsFunc(p.Kids, func(kid api.Pred) bool { return !keptBehind(kid) })
}

// P16.4

func TestWhatIsHandedInStays(t *testing.T) {
	next := draws(7)
	for range 4000 {
		cols := 1 + next(3)
		p := roomy(drawnPred(next, cols, 1+next(5)))
		rows := drawnRows(next, 3, cols)
		f := filters(t, rows, drawnBits(next, cols))
		row := append(rows[0], val("behind"))[:cols]
		all := append(f, api.Filter{Bits: 9})[:cols]
		wasP, wasRow, wasF := copied(p), slices.Clone(row[:cols+1]), copiedFilters(all[:cols+1])
		need.Right(p, cols)
		need.Right(p, cols-1)
		need.Says(p, row)
		need.Skip(p, all)
		if !alike(p, wasP) || !keptBehind(p) {
			t.Fatalf("%s became %s", told(wasP), told(p))
		}
		if !slices.Equal(row[:cols+1], wasRow) {
			t.Fatalf("%s became %s", toldRow(wasRow), toldRow(row[:cols+1]))
		}
		if !reflect.DeepEqual(all[:cols+1], wasF) {
			t.Fatalf("%s became %s", toldFilters(wasF), toldFilters(all[:cols+1]))
		}
	}
}

// What isn't right stays, too.
func TestWhatIsNotRightStays(t *testing.T) {
	for _, bad := range wrong() {
		for _, p := range []api.Pred{bad, not(bad), and(has("a"), bad, has("b")), or(bad, wrap(bad, api.PredNot, 13))} {
			p = roomy(p)
			was := copied(p)
			need.Right(p, 1)
			if !alike(p, was) || !keptBehind(p) {
				t.Errorf("%s became %s", told(was), told(p))
			}
		}
	}
}

// Rule 6: what is answered hangs on what is handed in alone.
func TestAnswersAreTheSameAgain(t *testing.T) {
	next := draws(8)
	row := []api.Val{val("abcabc"), none, val("")}
	f := []api.Filter{filter(t, 0, "abcabc"), filter(t, 0), filter(t, 64, "")}
	var l []api.Pred
	for range 2000 {
		l = append(l, drawnPred(next, 3, 1+next(4)))
	}
	for range 3 {
		slices.Reverse(l)
		for _, p := range l {
			judges(t, p, 3, true)
			saysAsTold(t, p, row)
			skipsAsTold(t, p, f)
		}
	}
	p := and(has("abc"), asked(api.PredNull, 1, ""))
	says(t, p, row, api.Yes)
	p.Kids[0].S = "abx"
	says(t, p, row, api.No)
	row[0].S = "abx"
	says(t, p, row, api.Yes)
	f[0].List[0], f[0].List[1] = 'a'<<16|'b'<<8|'w', 'a'<<16|'b'<<8|'x'
	skips(t, p, f, false)
}

// P1

// ownKid are predicates that are their own kid, or a kid's.
func ownKid() []api.Pred {
	var l []api.Pred
	for kind := api.PredAnd; kind <= api.PredNot; kind++ {
		p := api.Pred{Kind: kind, Kids: same(1, has("a"))}
		p.Kids[0] = p
		l = append(l, p)
		for _, n := range []int{2, 16} {
			for _, at := range []int{0, n - 1} {
				q := api.Pred{Kind: kind, Kids: same(n, not(has("a")))}
				q.Kids[at].Kids[0] = q
				l = append(l, q)
			}
		}
		all := api.Pred{Kind: kind, Kids: same(16, has("a"))}
		for i := range all.Kids {
			all.Kids[i] = all
		}
		l = append(l, all)
	}
	return l
}

func TestWhateverIsAskedEnds(t *testing.T) {
	for _, p := range ownKid() {
		if need.Right(p, 1) || need.Right(not(p), 1) || need.Right(or(has("a"), p), 1) {
			t.Error("Right of what is its own kid is true")
		}
		need.Says(p, vals("a"))
		need.Skip(p, []api.Filter{{}})
	}
	long := strings.Repeat("%a", 2048)
	bad := append(wrong(), by(api.PredEq, math.MinInt, "a"), by(api.PredEq, math.MaxInt, "a"), asked(api.PredHas, math.MaxInt, "abc"), asked(api.PredHas, math.MinInt, "abc"), asked(math.MinInt, 0, "abc"), asked(math.MaxInt, 0, "abc"), wrap(has("abc"), api.PredNot, 60000), like(long, 'a'), like(long+"!", '!'))
	for _, p := range bad {
		for _, q := range []api.Pred{p, not(p), and(has("a"), p), or(p, has("b")), not(p, p)} {
			for _, row := range [][]api.Val{nil, {}, vals(""), vals("a"), {none}, {{Null: true, S: "a"}}, vals(strings.Repeat("a", 4096)), {none, val("abc")}} {
				need.Says(q, row)
				need.Right(q, len(row))
			}
			for _, f := range [][]api.Filter{nil, {}, {{}}, {{Bits: 5}}, {{Bits: -1}}, {{Bits: math.MinInt}}, {{}, {}}} {
				need.Skip(q, f)
			}
		}
	}
}
