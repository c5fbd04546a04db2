package catalog_test

import (
	"math"
	"slices"
	"strconv"
	"strings"
	"testing"

	"hopper/api"
	"hopper/catalog"
)

// P19.1: tables are made and go; their names.

// names are some that may be, in no order.
var names = []string{
	"b", "a", "c", "B", "aa", "ab", "a\x00", "\x00", "\xff", "\xff\xfe", " ", "\n", "é", "e\u0301", "日本", "10", "9", "table", "Table", "table ",
	strings.Repeat("x", 31), strings.Repeat("x", 32), strings.Repeat("\x00", 32), strings.Repeat("\xff", 32), strings.Repeat("é", 16), strings.Repeat("日", 10) + "ab",
}

// wrong are names that may not be: a point may be more bytes than one.
var wrong = []string{
	"", strings.Repeat("x", 33), strings.Repeat("\x00", 33), strings.Repeat("\xff", 33), strings.Repeat("é", 17), strings.Repeat("日", 11), strings.Repeat("x", 64), strings.Repeat("x", 256), strings.Repeat("x", 288), strings.Repeat("x", 65537),
}

// otherCols are columns that no table has.
var otherCols = []int{math.MinInt, math.MinInt + 1, -9, -8, -1, 0, 9, 10, 16, 255, 256, 257, 264, 1 << 32, 1<<32 + 1, math.MaxInt}

// nth is a name for each number.
func nth(i int) string {
	return "t" + strconv.Itoa(i)
}

// full is a pair of as many tables as there may be, t0 and on.
func full(t *testing.T) *pair {
	t.Helper()
	p := fresh()
	for i := range api.MaxTables {
		is(t, "a table that there may be", p.create(t, nth(i), 1+i%8), api.OK)
	}
	return p
}

func TestNewHasNoTables(t *testing.T) {
	p := fresh()
	for _, name := range slices.Concat(names, wrong) {
		p.asked = append(p.asked, name)
	}
	p.held(t, "New")
	if l := catalog.New().Names(); len(l) != 0 {
		t.Errorf("Names are %q", l)
	}
	for _, name := range p.asked {
		is(t, "Drop of no table", p.drop(t, name), api.ErrName)
	}
}

func TestCreate(t *testing.T) {
	for _, name := range names {
		for cols := 1; cols <= 8; cols++ {
			p := fresh()
			is(t, "a table", p.create(t, name, cols), api.OK)
			if l, n := p.Segments(name); len(l) != 0 || n != cols {
				t.Errorf("%q: %d segments, %d columns, not %d", name, len(l), n, cols)
			}
			if rows, e := p.Rows(name); e != api.OK || len(rows) != 0 {
				t.Errorf("%q: error %d, %d rows", name, e, len(rows))
			}
			if l := p.Names(); len(l) != 1 || l[0] != name {
				t.Errorf("%q: names %q", name, l)
			}
		}
	}
}

func TestCreateOfNoName(t *testing.T) {
	for _, p := range []*pair{fresh(), full(t)} {
		for _, name := range wrong {
			for _, cols := range []int{1, 8, 0, 9} {
				is(t, "no name", p.create(t, name, cols), api.ErrArg)
			}
		}
	}
}

func TestCreateOfOtherColumns(t *testing.T) {
	p := fresh()
	for _, cols := range otherCols {
		is(t, "other columns", p.create(t, "a", cols), api.ErrArg)
	}
	is(t, "the same name, with columns", p.create(t, "a", 8), api.OK)
}

func TestCreateTwice(t *testing.T) {
	p := fresh()
	is(t, "once", p.create(t, "a", 2), api.OK)
	is(t, "a segment", p.add(t, "a", of(2, vals("x", "y")).b), api.OK)
	for cols := 1; cols <= 8; cols++ {
		is(t, "again", p.create(t, "a", cols), api.ErrName)
	}
	for _, name := range []string{"A", "a\x00", "aa", " a", "a ", "\x00a"} {
		is(t, "another name", p.create(t, name, 1), api.OK)
	}
	is(t, "once more", p.create(t, "a", 2), api.ErrName)
}

// Of several errors the one that is named first is answered.
func TestCreateOfSeveralErrors(t *testing.T) {
	p := fresh()
	p.create(t, "a", 1)
	for _, cols := range otherCols {
		is(t, "other columns, and a name that is there", p.create(t, "a", cols), api.ErrArg)
		is(t, "other columns, and no name", p.create(t, "", cols), api.ErrArg)
	}
	p = full(t)
	for _, cols := range otherCols {
		is(t, "other columns, and as many tables as there may be", p.create(t, "more", cols), api.ErrArg)
		is(t, "all of it", p.create(t, "t3", cols), api.ErrArg)
	}
	is(t, "a name that is there, and as many tables as there may be", p.create(t, "t3", 1), api.ErrName)
	is(t, "no name, and as many tables as there may be", p.create(t, "", 1), api.ErrArg)
	is(t, "as many tables as there may be", p.create(t, "more", 1), api.ErrLimit)
}

func TestCreateOfMoreTables(t *testing.T) {
	if api.MaxTables != 16 {
		t.Errorf("%d tables", api.MaxTables)
	}
	p := full(t)
	for i := range 20 {
		want := api.ErrName
		if i >= 16 {
			want = api.ErrLimit
		}
		is(t, "more tables", p.create(t, nth(i), 1), want)
	}
	for i := range 3 {
		is(t, "one goes", p.drop(t, nth(5*i)), api.OK)
		is(t, "one comes", p.create(t, nth(20+i), 1), api.OK)
		is(t, "another one", p.create(t, nth(30+i), 1), api.ErrLimit)
	}
	for i := range 16 {
		p.drop(t, nth(i))
	}
	for i := range 13 {
		is(t, "as many as went", p.create(t, nth(i), 1), api.OK)
	}
	is(t, "one more", p.create(t, nth(13), 1), api.ErrLimit)
}

// Tables are counted as they are, whether Create or Load made them.
func TestCreateAndLoadInTurn(t *testing.T) {
	p := fresh()
	for i := range 16 {
		make := func(name string) api.Errno { return p.create(t, name, 1+i%8) }
		if i%2 == 1 {
			make = func(name string) api.Errno { return p.load(t, name, told{cols: 1 + i%8}.bytes()) }
		}
		is(t, "a table", make(nth(i)), api.OK)
		is(t, "the same again", make(nth(i)), api.ErrName)
	}
	for range 3 {
		is(t, "one more by Create", p.create(t, "more", 1), api.ErrLimit)
		is(t, "one more by Load", p.load(t, "more", told{cols: 1}.bytes()), api.ErrLimit)
		is(t, "one goes", p.drop(t, p.l[4].name), api.OK)
		is(t, "one comes by Load", p.load(t, "other", told{cols: 1}.bytes()), api.OK)
		is(t, "one more by Create", p.create(t, "more", 1), api.ErrLimit)
		is(t, "it goes", p.drop(t, "other"), api.OK)
		is(t, "one comes by Create", p.create(t, "other", 1), api.OK)
		is(t, "one more by Load", p.load(t, "more", told{cols: 1}.bytes()), api.ErrLimit)
		is(t, "it goes, too", p.drop(t, "other"), api.OK)
		is(t, "one comes again", p.create(t, nth(100+len(p.asked)), 1), api.OK)
	}
}

func TestDrop(t *testing.T) {
	p := fresh()
	for _, name := range names[:16] {
		p.create(t, name, 2)
		p.add(t, name, of(2, vals("x", "y")).b)
	}
	for i, name := range []string{"never", "", wrong[1], names[20]} {
		is(t, "one that never was, "+strconv.Itoa(i), p.drop(t, name), api.ErrName)
	}
	for _, i := range []int{5, 0, 15, 7, 1, 2, 3, 4, 6, 8, 9, 14, 13, 12, 11, 10} {
		is(t, "it goes", p.drop(t, names[i]), api.OK)
		is(t, "it is gone", p.drop(t, names[i]), api.ErrName)
	}
	if l := p.Names(); len(l) != 0 {
		t.Errorf("Names are %q", l)
	}
}

// Of one that was dropped nothing stays: each call answers as if it had never
// been, and a new one of its name has nothing of it.
func TestBehindADrop(t *testing.T) {
	p := fresh()
	p.create(t, "a", 2)
	p.add(t, "a", of(2, vals("x", "y")).b)
	p.create(t, "b", 1)
	b, _ := p.Export("a")
	is(t, "it goes", p.drop(t, "a"), api.OK)
	is(t, "Add", p.add(t, "a", of(2, vals("x", "y")).b), api.ErrName)
	is(t, "Drop", p.drop(t, "a"), api.ErrName)
	isNot(t, "behind a Drop", p.Catalog, "a")
	is(t, "Create", p.create(t, "a", 3), api.OK)
	is(t, "Add of the old columns", p.add(t, "a", of(2, vals("x", "y")).b), api.ErrCorrupt)
	is(t, "Add of the new ones", p.add(t, "a", of(3, vals("x", "y", "z")).b), api.OK)
	is(t, "it goes, too", p.drop(t, "a"), api.OK)
	is(t, "Load", p.load(t, "a", string(b)), api.OK)
	is(t, "Create again", p.create(t, "a", 1), api.ErrName)
}

// As many rows as there may be can be put in again, where the table is a new one.
func TestRowsGoWithTheirTable(t *testing.T) {
	p := fresh()
	for range 3 {
		is(t, "a table", p.create(t, "a", 1), api.OK)
		is(t, "all rows", p.add(t, "a", nones(4096).b), api.OK)
		is(t, "one more", p.add(t, "a", nones(1).b), api.ErrLimit)
		is(t, "it goes", p.drop(t, "a"), api.OK)
	}
}

// Names rise byte by byte, in whatever order the tables were made.
func TestNames(t *testing.T) {
	want := []string{"\x00", "10", "9", "B", "a", "a\x00", "aa", "ab", "é", "\xff", "\xff\xfe"}
	next := draws(191)
	for range 60 {
		l, p := slices.Clone(want), fresh()
		for i := range l {
			k := next(i + 1)
			l[i], l[k] = l[k], l[i]
		}
		for i, name := range l {
			is(t, "a table", p.create(t, name, 1), api.OK)
			if l := p.Names(); len(l) != i+1 || !slices.IsSorted(l) {
				t.Errorf("%d tables: %q", i+1, l)
			}
		}
		if l := p.Names(); !slices.Equal(l, want) {
			t.Errorf("Names are %q, not %q", l, want)
		}
	}
	p := full(t)
	want = []string{"t0", "t1", "t10", "t11", "t12", "t13", "t14", "t15", "t2", "t3", "t4", "t5", "t6", "t7", "t8", "t9"}
	if l := p.Names(); !slices.Equal(l, want) {
		t.Errorf("Names are %q, not %q", l, want)
	}
}

// What is done to one catalog isn't done to another.
func TestCatalogsAreApart(t *testing.T) {
	p, q := fresh(), fresh()
	p.create(t, "a", 1)
	q.create(t, "a", 2)
	q.create(t, "b", 3)
	p.add(t, "a", one(vals("x")...).b)
	q.held(t, "another one")
	q.drop(t, "a")
	p.held(t, "the first one")
	is(t, "a table of the other one", p.drop(t, "b"), api.ErrName)
}
