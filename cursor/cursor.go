// Package cursor is layer 1: bytes, taken one behind the other, and the
// varints and texts that stand in them. See shared/doc/01-cursor.md.
package cursor

import (
	"math"

	"hopper/api"
)

const (
	more    = 128 // the bit of each byte of a varint but the last one
	longest = 9   // bytes of a varint: seven bits each make 63
)

// Cursor has bytes, a place among them, and the first error that it met.
// A nil one has no bytes, and gives none.
type Cursor struct {
	bytes []byte
	place int
	fault api.Errno
}

// New answers a cursor at the beginning of b.
func New(b []byte) *Cursor {
	return &Cursor{bytes: clone(b)}
}

// Left answers how many bytes are left.
func (c *Cursor) Left() int {
	if c == nil {
		return 0
	}
	return len(c.bytes) - c.place
}

// Good says whether no error is met yet.
func (c *Cursor) Good() bool {
	return c != nil && c.fault == api.OK
}

// Fail lets the cursor meet the error e, if it met none yet.
func (c *Cursor) Fail(e api.Errno) {
	if c.Good() {
		c.fault = e
	}
}

// End answers the first error; ErrCut where bytes are left. It is only an
// answer: bytes that are left can still be taken.
func (c *Cursor) End() api.Errno {
	switch {
	case c == nil:
		return api.ErrCut
	case !c.Good():
		return c.fault
	case c.Left() > 0:
		return api.ErrCut
	}
	return api.OK
}

// Byte takes one byte.
func (c *Cursor) Byte() int {
	b := c.take(0, 1)
	if len(b) == 0 {
		return 0
	}
	return int(b[0])
}

// Bytes takes n bytes.
func (c *Cursor) Bytes(n int) []byte {
	return clone(c.take(0, n))
}

// Number takes a varint.
func (c *Cursor) Number() int {
	return c.Most(math.MaxInt)
}

// Most takes a varint of a number that isn't above n.
func (c *Cursor) Most(n int) int {
	number, size := c.peek(n)
	c.take(size, 0)
	return number
}

// Text takes a text.
func (c *Cursor) Text() string {
	n, size := c.peek(api.MaxText)
	return string(c.take(size, n))
}

// peek reads the varint that stands at the cursor's place, of a number that
// isn't above most, and how many bytes it has. It doesn't take them, so that
// nothing is taken where what stands behind them is at fault.
func (c *Cursor) peek(most int) (number, size int) {
	if !c.Good() {
		return 0, 0
	}
	number, size, e := varint(c.bytes[c.place:])
	if e == api.OK && number > most {
		e = api.ErrForm
	}
	if e != api.OK {
		c.Fail(e)
		return 0, 0
	}
	return number, size
}

// take goes on by skip bytes, that are known to be there, and by n more, which
// it answers. They are the cursor's own.
func (c *Cursor) take(skip, n int) []byte {
	if n < 0 {
		c.Fail(api.ErrForm)
	}
	if n > c.Left()-skip {
		c.Fail(api.ErrCut)
	}
	if !c.Good() {
		return nil
	}
	from := c.place + skip
	c.place = from + n
	return c.bytes[from:c.place]
}

// varint reads the varint at the beginning of b, and how many bytes it has.
func varint(b []byte) (number, size int, e api.Errno) {
	for i, x := range b[:min(len(b), longest)] {
		number |= int(x&^more) << (7 * i)
		if x < more {
			if x == 0 && i > 0 {
				return 0, 0, api.ErrForm
			}
			return number, i + 1, api.OK
		}
	}
	if len(b) > longest {
		return 0, 0, api.ErrForm
	}
	return 0, 0, api.ErrCut
}

// Put answers the varint of n; nothing of n below 0.
func Put(n int) []byte {
	if n < 0 {
		return nil
	}
	var b []byte
	for n >= more {
		b = append(b, byte(n)|more)
		n >>= 7
	}
	return append(b, byte(n))
}

// PutText answers the text of s: the varint of its length, and its bytes.
func PutText(s string) []byte {
	return append(Put(len(s)), s...)
}

func clone(b []byte) []byte {
	return append([]byte(nil), b...)
}
