package need_test

import (
	"slices"
	"strconv"
	"strings"
	"testing"
	"unicode/utf8"

	"hopper/api"
	"hopper/gram"
)

// What the words say, told kid by kid and byte by byte.

// nestsOf says whether a kind has Kids.
func nestsOf(kind int) bool { return kind == 12 || kind == 13 || kind == 14 }

// comparesOf says whether a kind compares.
func comparesOf(kind int) bool { return kind >= 1 && kind <= 6 }

// rightOf says whether a predicate is right, for so many columns.
func rightOf(p api.Pred, cols int) bool {
	return deepOf(p) <= 12 && soundOf(p, cols)
}

// deepOf is how deep a predicate is.
func deepOf(p api.Pred) int {
	deep := 1
	for _, kid := range p.Kids {
		deep = max(deep, 1+deepOf(kid))
	}
	return deep
}

// soundOf says whether a predicate, and each of its Kids, has what its kind
// has.
func soundOf(p api.Pred, cols int) bool {
	for _, kid := range p.Kids {
		if !soundOf(kid, cols) {
			return false
		}
	}
	n := len(p.Kids)
	switch {
	case p.Kind < 1 || p.Kind > 14:
		return false
	case nestsOf(p.Kind) && (p.Col != 0 || p.Esc != 0 || p.Coll != 0 || p.S != ""):
		return false
	case p.Kind == 14:
		return n == 1
	case nestsOf(p.Kind):
		return n >= 1 && n <= 16
	case n > 0 || p.Col < 0 || p.Col >= cols || len(p.S) > 4096:
		return false
	case comparesOf(p.Kind):
		return p.Esc == 0 && (p.Coll == 0 || p.Coll == 1 || p.Coll == 2)
	case p.Kind == 10:
		_, ok := signsOf(p.S, p.Esc)
		return p.Coll == 0 && ok
	}
	return p.Esc == 0 && p.Coll == 0 && (p.Kind != 11 || p.S == "")
}

// signsOf are the signs of a pattern: bytes, 256 for any one byte, 257 for any
// bytes.
func signsOf(s string, esc int) (signs []int, ok bool) {
	if esc < -1 || esc > 255 {
		return nil, false
	}
	for s != "" {
		x := int(s[0])
		s = s[1:]
		switch {
		case x == esc && s == "":
			return nil, false
		case x == esc:
			x, s = int(s[0]), s[1:]
		case x == '_':
			x = 256
		case x == '%':
			x = 257
		}
		signs = append(signs, x)
	}
	return signs, true
}

// matchesOf says whether a string matches signs, by all beginnings of it that
// so many signs match.
func matchesOf(signs []int, s string) bool {
	so := make([]bool, len(s)+1)
	so[0] = true
	for _, x := range signs {
		next := make([]bool, len(s)+1)
		for k := range next {
			if x == 257 {
				next[k] = so[k] || k > 0 && next[k-1]
			} else {
				next[k] = k > 0 && so[k-1] && (x == 256 || x == int(s[k-1]))
			}
		}
		so = next
	}
	return so[len(s)]
}

// runsOf are the bytes that stand side by side in signs, each run as a string.
func runsOf(signs []int) []string {
	runs := []string{""}
	for _, x := range signs {
		if x > 255 {
			runs = append(runs, "")
		} else {
			runs[len(runs)-1] += string([]byte{byte(x)})
		}
	}
	return runs
}

// unitsOf are the numbers by which a string compares: bytes, folded bytes or
// points.
func unitsOf(s string, coll int) []int {
	var l []int
	for i := 0; i < len(s); {
		x, n := int(s[i]), 1
		switch r, long := utf8.DecodeRuneInString(s[i:]); {
		case coll == 1 && strings.IndexByte("ABCDEFGHIJKLMNOPQRSTUVWXYZ", s[i]) >= 0:
			x += 32
		case coll == 2 && r == utf8.RuneError && long == 1:
			x += 0x110000
		case coll == 2:
			x, n = int(r), long
		}
		l = append(l, x)
		i += n
	}
	return l
}

// comparedOf is how two strings compare: -1, 0 or 1.
func comparedOf(a, b string, coll int) int {
	x, y := unitsOf(a, coll), unitsOf(b, coll)
	for i := range x {
		switch {
		case i == len(y) || x[i] > y[i]:
			return 1
		case x[i] < y[i]:
			return -1
		}
	}
	if len(x) < len(y) {
		return -1
	}
	return 0
}

// standsOf says whether a part stands in a string, at that place.
func standsOf(s, part string, at int) bool {
	if at < 0 || at+len(part) > len(s) {
		return false
	}
	for i := range len(part) {
		if s[at+i] != part[i] {
			return false
		}
	}
	return true
}

// holdsOf says whether what is asked holds of a string.
func holdsOf(p api.Pred, s string) bool {
	c := comparedOf(s, p.S, p.Coll)
	switch p.Kind {
	case 1:
		return c == 0
	case 2:
		return c == -1 || c == 1
	case 3:
		return c == -1
	case 4:
		return c == -1 || c == 0
	case 5:
		return c == 1
	case 6:
		return c == 1 || c == 0
	case 7:
		return standsOf(s, p.S, 0)
	case 8:
		return standsOf(s, p.S, len(s)-len(p.S))
	case 10:
		signs, _ := signsOf(p.S, p.Esc)
		return matchesOf(signs, s)
	}
	for at := range len(s) + 1 {
		if standsOf(s, p.S, at) {
			return true
		}
	}
	return false
}

// saysOf is what a predicate says of a row.
func saysOf(p api.Pred, row []api.Val) int {
	var said [3]int // how many Kids say No, Yes, Unknown
	for _, kid := range p.Kids {
		said[saysOf(kid, row)]++
	}
	var so bool
	switch {
	case p.Kind == 12 && said[0] > 0:
		return 0
	case p.Kind == 13 && said[1] > 0:
		return 1
	case nestsOf(p.Kind) && said[2] > 0:
		return 2
	case nestsOf(p.Kind):
		so = p.Kind == 12 || p.Kind == 14 && said[0] > 0
	case p.Kind == 11:
		so = row[p.Col].Null
	case row[p.Col].Null:
		return 2
	default:
		so = holdsOf(p, row[p.Col].S)
	}
	if so {
		return 1
	}
	return 0
}

// missesOf says whether a filter hasn't one of a string's grams.
func missesOf(f api.Filter, s string) bool {
	for i := 2; i < len(s); i++ {
		g := int(s[i-2])*65536 + int(s[i-1])*256 + int(s[i])
		has := slices.Contains(f.List, g)
		if f.Bits > 0 {
			has = f.Set[g*40503%65521%f.Bits]
		}
		if !has {
			return true
		}
	}
	return false
}

// skipOf says whether rows can be skipped, by their columns' filters.
func skipOf(p api.Pred, f []api.Filter) bool {
	can := 0 // Kids that can be skipped
	for _, kid := range p.Kids {
		if skipOf(kid, f) {
			can++
		}
	}
	switch p.Kind {
	case 1:
		return p.Coll == 0 && missesOf(f[p.Col], p.S)
	case 7, 8, 9:
		return missesOf(f[p.Col], p.S)
	case 10:
		signs, _ := signsOf(p.S, p.Esc)
		for _, run := range runsOf(signs) {
			if missesOf(f[p.Col], run) {
				return true
			}
		}
	case 12:
		return can > 0
	case 13:
		return can == len(p.Kids)
	}
	return false
}

// What predicates, rows and filters are put together of.

// asked is a predicate of a column, that compares by bytes where it does.
func asked(kind, col int, s string) api.Pred {
	p := api.Pred{Kind: kind, Col: col, S: s}
	if kind == api.PredLike {
		p.Esc = -1
	}
	if kind == api.PredNull {
		p.S = ""
	}
	return p
}

// by is a predicate that compares as coll says, of the first column.
func by(kind, coll int, s string) api.Pred {
	return api.Pred{Kind: kind, S: s, Coll: coll}
}

// like is a Like, of the first column.
func like(s string, esc int) api.Pred {
	return api.Pred{Kind: api.PredLike, S: s, Esc: esc}
}

// has is a Has, of the first column.
func has(s string) api.Pred {
	return api.Pred{Kind: api.PredHas, S: s}
}

func and(kids ...api.Pred) api.Pred { return api.Pred{Kind: api.PredAnd, Kids: kids} }

func or(kids ...api.Pred) api.Pred { return api.Pred{Kind: api.PredOr, Kids: kids} }

func not(kids ...api.Pred) api.Pred { return api.Pred{Kind: api.PredNot, Kids: kids} }

// same are n predicates that are alike.
func same(n int, p api.Pred) []api.Pred {
	return slices.Repeat([]api.Pred{p}, n)
}

// wrap puts a predicate into so many others of a kind, each with the one kid.
func wrap(p api.Pred, kind, times int) api.Pred {
	for range times {
		p = api.Pred{Kind: kind, Kids: []api.Pred{p}}
	}
	return p
}

// val is a value that is there.
func val(s string) api.Val { return api.Val{S: s} }

// none is a value that isn't there.
var none = api.Val{Null: true}

// vals are values that are there.
func vals(l ...string) []api.Val {
	var row []api.Val
	for _, s := range l {
		row = append(row, val(s))
	}
	return row
}

// filter is the filter of some strings.
func filter(t testing.TB, bits int, l ...string) api.Filter {
	t.Helper()
	f, e := gram.Make(l, bits)
	if e != api.OK {
		t.Fatalf("no filter of %.60q, %d", l, bits)
	}
	return f
}

// filters are those of the values that are there in some rows, column by
// column.
func filters(t testing.TB, rows [][]api.Val, bits []int) []api.Filter {
	t.Helper()
	var l []api.Filter
	for col, n := range bits {
		var there []string
		for _, row := range rows {
			if !row[col].Null {
				there = append(there, row[col].S)
			}
		}
		l = append(l, filter(t, n, there...))
	}
	return l
}

// names are the kinds'.
var names = []string{"Eq", "Ne", "Lt", "Le", "Gt", "Ge", "Prefix", "Suffix", "Has", "Like", "Null", "And", "Or", "Not"}

// told is a predicate, as far as it is short enough to be told.
func told(p api.Pred) string {
	s := "kind " + strconv.Itoa(p.Kind)
	if p.Kind > 0 && p.Kind <= len(names) {
		s = names[p.Kind-1]
	}
	if p.Col != 0 || !nestsOf(p.Kind) {
		s += " of " + strconv.Itoa(p.Col)
	}
	if p.S != "" || !nestsOf(p.Kind) {
		s += " " + strconv.Quote(p.S[:min(len(p.S), 30)]) + " (" + strconv.Itoa(len(p.S)) + ")"
	}
	if p.Esc != 0 {
		s += " esc " + strconv.Itoa(p.Esc)
	}
	if p.Coll != 0 {
		s += " coll " + strconv.Itoa(p.Coll)
	}
	if len(p.Kids) == 0 {
		return s
	}
	s += " ("
	for i, kid := range p.Kids {
		if i > 0 {
			s += "; "
		}
		if len(s) > 300 {
			s += ".."
			break
		}
		s += told(kid)
	}
	return s + ")"
}

// toldRow is a row, as far as its values are short enough to be told.
func toldRow(row []api.Val) string {
	var l []string
	for _, v := range row {
		if v.Null {
			l = append(l, "none")
		} else {
			l = append(l, strconv.Quote(v.S[:min(len(v.S), 30)])+" ("+strconv.Itoa(len(v.S))+")")
		}
	}
	return "[" + strings.Join(l, ", ") + "]"
}

// toldFilters are filters, as far as they are short enough to be told.
func toldFilters(l []api.Filter) string {
	s := ""
	for _, f := range l {
		s += "[bits " + strconv.Itoa(f.Bits)
		for _, g := range f.List[:min(len(f.List), 12)] {
			s += " " + strconv.FormatInt(int64(g), 16)
		}
		for i, so := range f.Set {
			if so && len(s) < 300 {
				s += " " + strconv.Itoa(i)
			}
		}
		s += "]"
	}
	return s
}

// copiedFilters are filters with lists of their own.
func copiedFilters(l []api.Filter) []api.Filter {
	var two []api.Filter
	for _, f := range l {
		two = append(two, api.Filter{Bits: f.Bits, List: slices.Clone(f.List), Set: slices.Clone(f.Set)})
	}
	return two
}

// Draws, the same each time.

// draws answers a function that draws numbers below n, the same each time for
// one seed.
func draws(seed uint32) func(n int) int {
	return func(n int) int {
		seed = seed*1664525 + 1013904223
		return int(seed>>8) % n
	}
}

// drawnText is a string of fewer than n bytes, of few sorts.
func drawnText(next func(int) int, n int) string {
	b := make([]byte, next(n))
	for i := range b {
		b[i] = "aaabbbABcC\x80\xff%_"[next(14)]
	}
	return string(b)
}

// drawnAsked is a right predicate without Kids.
func drawnAsked(next func(int) int, cols int) api.Pred {
	p := api.Pred{Kind: 1 + next(11), Col: next(cols), S: drawnText(next, 7)}
	switch {
	case comparesOf(p.Kind):
		p.Coll = next(3)
		if p.Coll > 0 && next(2) == 0 {
			p.S = strings.ToUpper(p.S)
		}
	case p.Kind == api.PredNull:
		p.S = ""
	case p.Kind == api.PredLike:
		p.S, p.Esc = drawnPattern(next)
	}
	return p
}

// drawnPattern is a pattern, and its escape byte.
func drawnPattern(next func(int) int) (string, int) {
	esc := []int{-1, -1, '!', 'b', 0, 255}[next(6)]
	s := ""
	for range next(6) {
		if next(2) == 0 {
			s += []string{"%", "%", "_", "a", "ab"}[next(5)]
		} else {
			s += drawnText(next, 5)
		}
		if esc >= 0 && next(4) == 0 {
			s += string([]byte{byte(esc), "ab%_"[next(4)]})
		}
	}
	if _, ok := signsOf(s, esc); !ok {
		s += "%"
	}
	return s, esc
}

// drawnPred is a right predicate, at most so deep.
func drawnPred(next func(int) int, cols, deep int) api.Pred {
	if deep == 1 || next(3) == 0 {
		return drawnAsked(next, cols)
	}
	p := api.Pred{Kind: api.PredAnd + next(3)}
	n := 1
	if p.Kind != api.PredNot {
		n += next(4)
	}
	for range n {
		p.Kids = append(p.Kids, drawnPred(next, cols, deep-1))
	}
	return p
}

// drawnRow is a row, a value in five of which is none.
func drawnRow(next func(int) int, cols int) []api.Val {
	row := make([]api.Val, cols)
	for i := range row {
		if next(5) == 0 {
			row[i].Null = true
		} else {
			row[i].S = drawnText(next, 9)
		}
	}
	return row
}

// drawnRows are rows.
func drawnRows(next func(int) int, n, cols int) [][]api.Val {
	rows := make([][]api.Val, n)
	for i := range rows {
		rows[i] = drawnRow(next, cols)
	}
	return rows
}
