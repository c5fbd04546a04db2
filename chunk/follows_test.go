package chunk_test

import (
	"bytes"
	"testing"

	"hopper/api"
	"hopper/chunk"
	"hopper/cursor"
)

// P17.4: what follows.

// gotten is the chunk of what is coded.
func gotten(t *testing.T, l []api.Val, o api.Coding) *chunk.Chunk {
	t.Helper()
	c := cursor.New(made(t, l, o))
	k := chunk.Open(c)
	if e := c.End(); e != api.OK {
		t.Fatalf("Open of %s, %+v: error %d", few(l), o, e)
	}
	return k
}

func TestWhatIsCodedIsGotAsItWas(t *testing.T) {
	next := draws(174)
	for i := range 400 {
		l := drawn(next, 60)
		k := gotten(t, l, drawnCoding(next, kinds[i%4]))
		if k.Len() != len(l) {
			t.Fatalf("%s: %d", few(l), k.Len())
		}
		all := k.All()
		for i, v := range l {
			if k.At(i) != v || all[i] != v {
				t.Errorf("%s: At(%d) is %v, in All %v", few(l), i, k.At(i), all[i])
			}
		}
	}
}

// What is got is coded again as the same bytes.
func TestWhatIsGotIsCodedAsItStood(t *testing.T) {
	next := draws(175)
	for i := range 200 {
		l, o := drawn(next, 40), drawnCoding(next, kinds[i%4])
		b := made(t, l, o)
		if again := made(t, gotten(t, l, o).All(), o); !bytes.Equal(again, b) {
			t.Errorf("%s, %+v: %x, and again %x", few(l), o, b, again)
		}
	}
}

func TestValuesAreAlikeJustIfTheirRawBytesAre(t *testing.T) {
	next := draws(176)
	alike, unlike := 0, 0
	for i := range 60 {
		l := drawn(next, 60)
		for k := range l {
			l[k].S = l[k].S[:min(len(l[k].S), 2)] // so that some are alike
		}
		k := gotten(t, l, drawnCoding(next, api.Plain+i%2))
		for i, a := range l {
			for j, b := range l {
				switch so := bytes.Equal(k.Raw(i), k.Raw(j)); {
				case a.Null || b.Null:
				case so != (a == b):
					t.Errorf("%v and %v stand as %x and %x", a, b, k.Raw(i), k.Raw(j))
				case so:
					alike++
				default:
					unlike++
				}
			}
		}
	}
	if alike < 1000 || unlike < 1000 {
		t.Errorf("%d are alike, and %d aren't", alike, unlike)
	}
}

// A string that is asked stands as a value does just if it is that value.
func TestCodedIsRawOfTheSameString(t *testing.T) {
	next := draws(177)
	for i := range 200 {
		l := drawn(next, 20)
		k := gotten(t, l, drawnCoding(next, api.Plain+i%2))
		other := drawnText(next, 3)
		for i, v := range l {
			if v.Null {
				continue
			}
			if b, ok := k.Coded(v.S); !ok || !bytes.Equal(b, k.Raw(i)) {
				t.Errorf("%q stands as %x, and would as %x, %v", v.S, k.Raw(i), b, ok)
			}
			if b, ok := k.Coded(other); !ok || bytes.Equal(b, k.Raw(i)) != (v.S == other) {
				t.Errorf("%q stands as %x, and %q would as %x, %v", v.S, k.Raw(i), other, b, ok)
			}
		}
	}
}

// Codes of a dictionary are places of strings, so that values are alike just if
// their codes are, and less just if these are.
func TestCodesAreInOrder(t *testing.T) {
	next := draws(178)
	for range 60 {
		l := drawn(next, 40)
		d, codes := gotten(t, l, drawnCoding(next, api.Front)).Dict()
		for i, a := range l {
			if a.Null != (codes[i] == -1) || !a.Null && d.At(codes[i]) != a.S {
				t.Errorf("%v has the code %d", a, codes[i])
			}
			for j, b := range l {
				if !a.Null && !b.Null && (a.S < b.S) != (codes[i] < codes[j]) {
					t.Errorf("%v and %v have the codes %d and %d", a, b, codes[i], codes[j])
				}
			}
		}
	}
}

// Measures of parts sum up to the whole's strings; of Plain each of their bytes
// is among the payloads', too.
func TestMeasuresOfPartsSumUp(t *testing.T) {
	next := draws(179)
	for i := range 300 {
		l, o := drawn(next, 60), drawnCoding(next, kinds[i%4])
		whole, _ := chunk.Measure(l, o)
		sum, room := complex128(0), 0
		for rest := l; len(rest) > 0; {
			n := next(len(rest)) + 1
			m, e := chunk.Measure(rest[:n], o)
			if e != api.OK {
				t.Fatalf("Measure of %s, %+v: error %d", few(rest[:n]), o, e)
			}
			sum += m
			rest = rest[n:]
		}
		for _, s := range stringsOf(l) {
			room += len(s)
		}
		if imag(sum) != imag(whole) || imag(whole) != float64(len(stringsOf(l))) {
			t.Errorf("%s, %+v: parts are %v, the whole %v", few(l), o, sum, whole)
		}
		if o.Kind == api.Plain && real(sum) < float64(room) {
			t.Errorf("%s, %+v: parts are %v, of strings of %d bytes", few(l), o, sum, room)
		}
	}
}
