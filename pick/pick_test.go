package pick_test

import (
	"math"
	"slices"
	"testing"

	"hopper/pick"
)

const many = 1 << 20 // rows, up to which Bits is promised

// ofNumber is the pick of the places where the number's bits are 1.
func ofNumber(number int) []int {
	var l []int
	for x := 0; number>>x > 0; x++ {
		if number>>x&1 == 1 {
			l = append(l, x)
		}
	}
	return l
}

// each is the pick of all of n rows.
func each(n int) []int {
	return steps(0, 1, n)
}

// steps is the pick of n rows that has each step-th from the first on.
func steps(first, step, n int) []int {
	var l []int
	for x := first; x < n; x += step {
		l = append(l, x)
	}
	return l
}

// some is a pick of n rows, the same each time for one seed.
func some(n int, seed uint32) []int {
	var l []int
	for x := range n {
		seed = seed*1664525 + 1013904223
		if seed>>31 == 1 {
			l = append(l, x)
		}
	}
	return l
}

// asked answers the places of n rows of which is tells so.
func asked(n int, is func(x int) bool) []int {
	var l []int
	for x := range n {
		if is(x) {
			l = append(l, x)
		}
	}
	return l
}

// sized is a pick of so many rows.
type sized struct {
	n int
	l []int
}

// picks are those of all sorts: each of few rows, and some of more.
func picks() []sized {
	var s []sized
	for n := range 9 {
		for number := range 1 << n {
			s = append(s, sized{n, ofNumber(number)})
		}
	}
	for _, n := range []int{1, 2, 63, 64, 65, 1000, 4096} {
		s = append(s, sized{n, []int{}}, sized{n, each(n)}, sized{n, []int{0}}, sized{n, []int{n - 1}}, sized{n, some(n, 7)})
	}
	return s
}

// couple is two picks of so many rows.
type couple struct {
	n    int
	a, b []int
}

// couples are pairs of picks of all sorts: each of few rows, and some of more.
func couples() []couple {
	var l []couple
	for n := range 6 {
		for x := range 1 << n {
			for y := range 1 << n {
				l = append(l, couple{n, ofNumber(x), ofNumber(y)})
			}
		}
	}
	for _, n := range []int{64, 1000, 4096} {
		of := [][]int{nil, each(n), {0}, {n - 1}, steps(0, 2, n), steps(1, 2, n), steps(0, 3, n), steps(0, 1, n/2), steps(n/2, 1, n), some(n, 1), some(n, 2)}
		for _, a := range of {
			for _, b := range of {
				l = append(l, couple{n, a, b})
			}
		}
	}
	return l
}

// alike checks that a list is as it should be.
func alike[T comparable](t *testing.T, what string, l, want []T) {
	t.Helper()
	if slices.Equal(l, want) {
		return
	}
	if len(l)+len(want) < 50 {
		t.Errorf("%s: %v is not %v", what, l, want)
		return
	}
	t.Errorf("%s: %d items aren't those %d", what, len(l), len(want))
}

// wrong are numbers that are no pick of so many rows.
var wrong = []sized{
	{0, []int{0}}, {0, []int{-1}}, {0, []int{1}}, {1, []int{1}}, {1, []int{0, 0}}, {1, []int{0, 1}},
	{5, []int{-1}}, {5, []int{-1, 0}}, {5, []int{-1, 2, 3}}, {5, []int{2, -1}}, {5, []int{2, 3, -1}}, {5, []int{math.MinInt}}, {5, []int{math.MinInt, 0}},
	{5, []int{5}}, {5, []int{6}}, {5, []int{0, 4, 5}}, {5, []int{5, 2}}, {5, []int{0, 1, 2, 3, 4, 5}}, {5, []int{math.MaxInt}}, {5, []int{4, math.MaxInt}},
	{5, []int{1, 1}}, {5, []int{0, 0, 1}}, {5, []int{0, 4, 4}}, {5, []int{0, 2, 2, 3}},
	{5, []int{2, 1}}, {5, []int{1, 0}}, {5, []int{0, 3, 2, 4}}, {5, []int{0, 1, 0}}, {5, []int{4, 3, 2, 1, 0}},
	{-1, []int{0}}, {-1, []int{-1}}, {-5, []int{-9}}, {math.MinInt, []int{0}}, {math.MinInt, []int{math.MinInt}},
}

// P5.1

func TestRight(t *testing.T) {
	for _, x := range picks() {
		if !pick.Right(x.l, x.n) || !pick.Right(x.l, x.n+1) || !pick.Right(x.l, math.MaxInt) {
			t.Errorf("%v is no pick of %d rows", x.l, x.n)
		}
	}
	for _, n := range []int{many, math.MaxInt} {
		if !pick.Right([]int{0, n - 1}, n) || pick.Right([]int{0, n - 1}, n-1) {
			t.Errorf("the first and the last of %d rows", n)
		}
	}
}

func TestRightOfNumbersThatAreNoPick(t *testing.T) {
	for _, x := range wrong {
		if pick.Right(x.l, x.n) {
			t.Errorf("%v is a pick of %d rows", x.l, x.n)
		}
	}
	for n := range 20 {
		whole := each(n)
		for i := range whole {
			for _, x := range []int{-1, i - 1, i + 1, n, n + 1} {
				l := slices.Clone(whole)
				l[i] = x
				if pick.Right(l, n) {
					t.Errorf("%v is a pick of %d rows", l, n)
				}
			}
		}
	}
}

func TestRightOfAllNumbers(t *testing.T) {
	for n := range 5 {
		right := 0
		for number := range 7 * 7 * 7 {
			if pick.Right([]int{number%7 - 1, number/7%7 - 1, number/49 - 1}, n) {
				right++
			}
		}
		if want := n * (n - 1) * (n - 2) / 6; right != want {
			t.Errorf("of three numbers %d are picks of %d rows, not %d", right, n, want)
		}
	}
}

func TestRightOfNoPlaces(t *testing.T) {
	for _, n := range []int{0, 1, 5, many, math.MaxInt, -1, math.MinInt} {
		if !pick.Right(nil, n) || !pick.Right([]int{}, n) {
			t.Errorf("no places are no pick of %d rows", n)
		}
	}
}

func TestOf(t *testing.T) {
	for _, x := range []struct {
		b    []bool
		want []int
	}{
		{nil, nil}, {[]bool{}, nil}, {[]bool{false}, nil}, {[]bool{true}, []int{0}},
		{[]bool{true, false, true}, []int{0, 2}}, {[]bool{false, true, false}, []int{1}},
		{[]bool{true, false, false, false}, []int{0}}, {[]bool{false, false, false, true}, []int{3}},
		{[]bool{false, false, false, false}, nil}, {[]bool{true, true, true, true}, []int{0, 1, 2, 3}},
	} {
		alike(t, "Of", pick.Of(x.b), x.want)
	}
	alike(t, "Of none of many rows", pick.Of(make([]bool, many)), nil)
	alike(t, "Of all of many rows", pick.Of(slices.Repeat([]bool{true}, many)), each(many))
}

func TestBits(t *testing.T) {
	for _, x := range []struct {
		l    []int
		n    int
		want []bool
	}{
		{nil, 0, nil}, {nil, 1, []bool{false}}, {nil, 3, []bool{false, false, false}}, {[]int{0}, 1, []bool{true}},
		{[]int{0, 2}, 3, []bool{true, false, true}}, {[]int{0, 2}, 4, []bool{true, false, true, false}},
		{[]int{0}, 3, []bool{true, false, false}}, {[]int{2}, 3, []bool{false, false, true}}, {[]int{0, 1, 2}, 3, []bool{true, true, true}},
	} {
		alike(t, "Bits", pick.Bits(x.l, x.n), x.want)
	}
	for _, x := range picks() {
		b := pick.Bits(x.l, x.n)
		if len(b) != x.n {
			t.Fatalf("Bits of %d rows has %d", x.n, len(b))
		}
		for i, so := range b {
			if so != slices.Contains(x.l, i) {
				t.Errorf("Bits of %v, %d rows, has %v at %d", x.l, x.n, so, i)
			}
		}
	}
}

func TestBitsOfManyRows(t *testing.T) {
	for _, n := range []int{many - 1, many} {
		ends := make([]bool, n)
		ends[0], ends[n-1] = true, true
		alike(t, "none", pick.Bits(nil, n), make([]bool, n))
		alike(t, "all", pick.Bits(each(n), n), slices.Repeat([]bool{true}, n))
		alike(t, "the first and the last", pick.Bits([]int{0, n - 1}, n), ends)
	}
}

// P5.2

func TestAndOrNot(t *testing.T) {
	a, b := []int{1, 2, 5, 8, 9}, []int{0, 2, 3, 8}
	alike(t, "And", pick.And(a, b), []int{2, 8})
	alike(t, "Or", pick.Or(a, b), []int{0, 1, 2, 3, 5, 8, 9})
	alike(t, "Not of a", pick.Not(a, 10), []int{0, 3, 4, 6, 7})
	alike(t, "Not of a, more rows", pick.Not(a, 12), []int{0, 3, 4, 6, 7, 10, 11})
	alike(t, "Not of b", pick.Not(b, 9), []int{1, 4, 5, 6, 7})
}

func TestAndOrPlaceByPlace(t *testing.T) {
	for _, x := range couples() {
		a, b := pick.Bits(x.a, x.n), pick.Bits(x.b, x.n)
		alike(t, "And", pick.And(x.a, x.b), asked(x.n, func(i int) bool { return a[i] && b[i] }))
		alike(t, "Or", pick.Or(x.a, x.b), asked(x.n, func(i int) bool { return a[i] || b[i] }))
	}
}

func TestAndOrOfNothingInCommon(t *testing.T) {
	for _, x := range []struct{ a, b, or []int }{
		{[]int{0}, []int{1}, []int{0, 1}},
		{[]int{0, 1, 2}, []int{3, 4}, []int{0, 1, 2, 3, 4}},
		{[]int{0, 2, 4}, []int{1, 3}, []int{0, 1, 2, 3, 4}},
		{[]int{0, 5, 9}, []int{1, 2, 6, 7, 11}, []int{0, 1, 2, 5, 6, 7, 9, 11}},
	} {
		alike(t, "And", pick.And(x.a, x.b), nil)
		alike(t, "And, turned round", pick.And(x.b, x.a), nil)
		alike(t, "Or", pick.Or(x.a, x.b), x.or)
		alike(t, "Or, turned round", pick.Or(x.b, x.a), x.or)
	}
}

func TestAndOrOfOneThatEndsSooner(t *testing.T) {
	whole := []int{1, 2, 4, 7, 8, 11}
	for n := range whole {
		alike(t, "And", pick.And(whole, whole[:n]), whole[:n])
		alike(t, "And, turned round", pick.And(whole[:n], whole), whole[:n])
		alike(t, "Or", pick.Or(whole, whole[:n]), whole)
		alike(t, "Or, turned round", pick.Or(whole[:n], whole), whole)
	}
}

func TestAndOrOfAnEmptyOne(t *testing.T) {
	for _, none := range [][]int{nil, {}} {
		for _, x := range picks() {
			alike(t, "And", pick.And(x.l, none), nil)
			alike(t, "And, turned round", pick.And(none, x.l), nil)
			alike(t, "Or", pick.Or(x.l, none), x.l)
			alike(t, "Or, turned round", pick.Or(none, x.l), x.l)
		}
	}
}

func TestNot(t *testing.T) {
	for _, x := range picks() {
		want := asked(x.n, func(i int) bool { return !slices.Contains(x.l, i) })
		alike(t, "Not", pick.Not(x.l, x.n), want)
	}
	for _, n := range []int{0, 1, 2, 9, 4096} {
		alike(t, "Not of none", pick.Not(nil, n), each(n))
		alike(t, "Not of all", pick.Not(each(n), n), nil)
	}
	alike(t, "Not of the first", pick.Not([]int{0}, 4), []int{1, 2, 3})
	alike(t, "Not of the last", pick.Not([]int{3}, 4), []int{0, 1, 2})
}

func TestThrough(t *testing.T) {
	for _, x := range []struct{ a, b, want []int }{
		{[]int{3, 5, 9}, []int{0, 2}, []int{3, 9}},
		{[]int{3, 5, 9}, []int{1}, []int{5}},
		{[]int{3, 5, 9}, []int{0, 1, 2}, []int{3, 5, 9}},
		{[]int{3, 5, 9}, nil, nil},
		{[]int{7}, []int{0}, []int{7}},
		{nil, nil, nil},
		{[]int{}, []int{}, nil},
	} {
		alike(t, "Through", pick.Through(x.a, x.b), x.want)
	}
}

func TestThroughPlaceByPlace(t *testing.T) {
	for _, x := range picks() {
		for seed := range uint32(9) {
			b := pick.Bits(some(len(x.l), seed), len(x.l))
			var want []int
			for i, place := range x.l {
				if b[i] {
					want = append(want, place)
				}
			}
			alike(t, "Through", pick.Through(x.l, pick.Of(b)), want)
		}
	}
}

func TestManyRows(t *testing.T) {
	even, odd := steps(0, 2, many), steps(1, 2, many)
	alike(t, "And of nothing in common", pick.And(even, odd), nil)
	alike(t, "And with all", pick.And(each(many), odd), odd)
	alike(t, "Or", pick.Or(even, odd), each(many))
	alike(t, "Not", pick.Not(even, many), odd)
	alike(t, "Not of none", pick.Not(nil, many), each(many))
	alike(t, "Not of all", pick.Not(each(many), many), nil)
	alike(t, "Through", pick.Through(odd, steps(0, 2, many/2)), steps(1, 4, many))
	for _, l := range [][]int{even, odd, each(many)} {
		if !pick.Right(l, many) || pick.Right(l, l[len(l)-1]) {
			t.Errorf("%d places, the last %d", len(l), l[len(l)-1])
		}
	}
}

// P5.3

func TestBitsAndOfUndoOneAnother(t *testing.T) {
	for _, x := range append(picks(), sized{many, nil}, sized{many, each(many)}, sized{many, some(many, 3)}, sized{many + 1, some(many+1, 4)}) {
		b := pick.Bits(x.l, x.n)
		alike(t, "Of Bits", pick.Of(b), x.l)
		alike(t, "Bits of Of", pick.Bits(pick.Of(b), len(b)), b)
	}
}

func TestWhatIsAnsweredIsAPick(t *testing.T) {
	for _, x := range couples() {
		for what, l := range map[string][]int{
			"Of": pick.Of(pick.Bits(x.a, x.n)), "And": pick.And(x.a, x.b), "Or": pick.Or(x.a, x.b), "Not": pick.Not(x.a, x.n),
			"Through": pick.Through(x.a, some(len(x.a), 5)),
		} {
			if !pick.Right(l, x.n) {
				t.Errorf("%s of %v and %v: %v is no pick of %d rows", what, x.a, x.b, l, x.n)
			}
		}
	}
}

func TestRulesOfOne(t *testing.T) {
	for _, x := range picks() {
		a, all, not := x.l, each(x.n), pick.Not(x.l, x.n)
		alike(t, "Not of Not", pick.Not(not, x.n), a)
		alike(t, "And with itself", pick.And(a, a), a)
		alike(t, "Or with itself", pick.Or(a, a), a)
		alike(t, "And with its Not", pick.And(a, not), nil)
		alike(t, "Or with its Not", pick.Or(a, not), all)
		alike(t, "And with all", pick.And(a, all), a)
		alike(t, "Or with all", pick.Or(a, all), all)
		alike(t, "through all", pick.Through(a, each(len(a))), a)
		alike(t, "through all, the other way", pick.Through(all, a), a)
		alike(t, "through none", pick.Through(a, nil), nil)
	}
}

func TestRulesOfTwo(t *testing.T) {
	for _, x := range couples() {
		a, b, n := x.a, x.b, x.n
		and, or := pick.And(a, b), pick.Or(a, b)
		alike(t, "And, turned round", pick.And(b, a), and)
		alike(t, "Or, turned round", pick.Or(b, a), or)
		alike(t, "Not of And", pick.Not(and, n), pick.Or(pick.Not(a, n), pick.Not(b, n)))
		alike(t, "Not of Or", pick.Not(or, n), pick.And(pick.Not(a, n), pick.Not(b, n)))
		alike(t, "And with Or", pick.And(a, or), a)
		alike(t, "Or with And", pick.Or(a, and), a)
		if len(and)+len(or) != len(a)+len(b) {
			t.Errorf("%v and %v: And %v, Or %v", a, b, and, or)
		}
	}
}

func TestRulesOfThree(t *testing.T) {
	for x := range 1 << 12 {
		a, b, c := ofNumber(x&15), ofNumber(x>>4&15), ofNumber(x>>8)
		alike(t, "And of three", pick.And(a, pick.And(b, c)), pick.And(pick.And(a, b), c))
		alike(t, "Or of three", pick.Or(a, pick.Or(b, c)), pick.Or(pick.Or(a, b), c))
		alike(t, "And of Or", pick.And(a, pick.Or(b, c)), pick.Or(pick.And(a, b), pick.And(a, c)))
		alike(t, "Or of And", pick.Or(a, pick.And(b, c)), pick.And(pick.Or(a, b), pick.Or(a, c)))
	}
}

func TestThroughGoesOneBehindTheOther(t *testing.T) {
	for number := range 1 << 6 {
		a := ofNumber(number)
		for x := range 1 << len(a) {
			b := ofNumber(x)
			alike(t, "Through and its Not", pick.Or(pick.Through(a, b), pick.Through(a, pick.Not(b, len(a)))), a)
			for y := range 1 << len(b) {
				c := ofNumber(y)
				alike(t, "Through Through", pick.Through(pick.Through(a, b), c), pick.Through(a, pick.Through(b, c)))
			}
		}
	}
}

// P5.4

func TestWhatIsHandedInStays(t *testing.T) {
	a, b, bits := some(40, 1), some(40, 2), pick.Bits(some(40, 3), 40)
	wasA, wasB, wasBits := slices.Clone(a), slices.Clone(b), slices.Clone(bits)
	pick.Right(a[:9], 40)
	pick.Right(b[:9], 3)
	pick.Of(bits[:9])
	pick.Bits(a[:9], 40)
	pick.And(a[:9], b[:9])
	pick.Or(a[:9], b[:9])
	pick.Or(a[:0], b[:9])
	pick.Or(a[:9], b[:0])
	pick.Not(a[:9], 40)
	pick.Through(a[:9], []int{0, 8})
	pick.Through(each(40), b[:9])
	alike(t, "a that is handed in", a, wasA)
	alike(t, "b that is handed in", b, wasB)
	alike(t, "a bitmap that is handed in", bits, wasBits)
}

func TestPlacesAreNewMemory(t *testing.T) {
	a, b, bits := some(40, 1), some(40, 2), pick.Bits(some(40, 3), 40)
	wasA, wasB, wasBits := slices.Clone(a), slices.Clone(b), slices.Clone(bits)
	for what, made := range map[string]func() []int{
		"Of":                     func() []int { return pick.Of(bits) },
		"And":                    func() []int { return pick.And(a, b) },
		"And with itself":        func() []int { return pick.And(a, a) },
		"Or":                     func() []int { return pick.Or(a, b) },
		"Or with itself":         func() []int { return pick.Or(a, a) },
		"Or with none":           func() []int { return pick.Or(a, nil) },
		"Or with none, the left": func() []int { return pick.Or(nil, b) },
		"Not":                    func() []int { return pick.Not(a, 40) },
		"Not of none":            func() []int { return pick.Not(nil, 40) },
		"Through":                func() []int { return pick.Through(a, some(len(a), 4)) },
		"Through all":            func() []int { return pick.Through(a, each(len(a))) },
		"Through, of all":        func() []int { return pick.Through(each(40), b) },
	} {
		one, two := made(), made()
		was := slices.Clone(two)
		for i := range one {
			one[i] = -7
		}
		_ = append(one, -8, -8, -8)
		alike(t, what+", two answers", two, was)
		alike(t, what+", anew", made(), was)
	}
	alike(t, "a that is handed in", a, wasA)
	alike(t, "b that is handed in", b, wasB)
	alike(t, "a bitmap that is handed in", bits, wasBits)
}

func TestBitsAreNewMemory(t *testing.T) {
	one, two := pick.Bits([]int{1, 3}, 5), pick.Bits([]int{1, 3}, 5)
	clear(one)
	_ = append(one, true, true)
	for _, b := range [][]bool{two, pick.Bits([]int{1, 3}, 5)} {
		alike(t, "Bits", b, []bool{false, true, false, true, false})
	}
}

// P1

func TestWhateverIsHandedInEnds(t *testing.T) {
	draw := uint32(1)
	next := func(n int) int {
		draw = draw*1664525 + 1013904223
		return int(draw>>8) % n
	}
	numbers := func() []int {
		l := make([]int, next(12))
		for i := range l {
			l[i] = next(14) - 3
			if next(20) == 0 {
				l[i] = []int{math.MinInt, math.MaxInt, math.MaxInt - 1, many}[next(4)]
			}
		}
		return l
	}
	for range 20000 {
		a, b, n := numbers(), numbers(), next(20)-5
		wasA, wasB := slices.Clone(a), slices.Clone(b)
		if l := pick.Bits(a, n); len(l) != max(n, 0) {
			t.Fatalf("Bits of %v, %d rows, has %d", a, n, len(l))
		}
		for _, l := range [][]int{pick.And(a, b), pick.Or(a, b), pick.Not(a, n), pick.Through(a, b)} {
			if len(l) > len(a)*len(b)+len(a)+len(b)+20 {
				t.Fatalf("of %v, %v and %d rows come %v", a, b, n, l)
			}
		}
		pick.Right(a, n)
		alike(t, "a that is handed in", a, wasA)
		alike(t, "b that is handed in", b, wasB)
	}
}

func TestCountsOfRowsThatCannotBe(t *testing.T) {
	for _, l := range [][]int{nil, {0}, {0, 3, 9}, {-1, 5, 5, 2}} {
		for _, n := range []int{-1, -2, math.MinInt, math.MinInt + 1} {
			if b, not := pick.Bits(l, n), pick.Not(l, n); len(b) != 0 || len(not) != 0 {
				t.Errorf("of %v, %d rows: Bits %v, Not %v", l, n, b, not)
			}
		}
		for _, n := range []int{math.MaxInt, math.MaxInt - 1, 1 << 60, 1 << 40, math.MaxInt32 + 5} {
			if b, not := pick.Bits(l, n), pick.Not(l, n); len(b) != 0 || len(not) != 0 {
				t.Errorf("of %v, %d rows: Bits has %d, Not %d", l, n, len(b), len(not))
			}
		}
	}
}
