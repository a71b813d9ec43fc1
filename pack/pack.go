// Package pack is layer 2: numbers and texts as bytes, in one form each.
package pack

import (
	"math"
	"math/bits"

	"usher/api"
)

const (
	// small: a number below it is its own byte.
	small = 240
	// lead: a greater number's first byte is this and how many bytes stand behind it.
	lead = small - 1
	// wide: how many bytes a word has, and the most that a number has behind its first one.
	wide = 8
	// signBit is turned, so that the bytes of whole numbers of either sign stand in their order.
	signBit uint64 = 1 << 63
)

// Num gives b's bytes and behind them the number n, one below 0 as 0.
func Num(b []byte, n int) []byte {
	return join(b, number(n))
}

// Int gives b's bytes and behind them the whole number n of either sign.
func Int(b []byte, n int) []byte {
	return join(b, highFirst(uint64(n)^signBit, wide))
}

// Bits gives b's bytes and behind them the eight bytes of x.
func Bits(b []byte, x uint64) []byte {
	return join(b, highFirst(x, wide))
}

// Text gives b's bytes and behind them how many bytes s has, and these.
func Text(b []byte, s string) []byte {
	return join(b, number(len(s)), []byte(s))
}

// Flag gives b's bytes and behind them a byte 0 or 1.
func Flag(b []byte, yes bool) []byte {
	if yes {
		return join(b, []byte{1})
	}
	return join(b, []byte{0})
}

// join lays its parts into new memory: appending to the first one could write into room that its owner uses.
func join(parts ...[]byte) []byte {
	size := 0
	for _, p := range parts {
		size += len(p)
	}
	out := make([]byte, size)
	at := 0
	for _, p := range parts {
		at += copy(out[at:], p)
	}
	return out
}

// number gives a number's one form.
func number(n int) []byte {
	n = max(n, 0)
	if n < small {
		return []byte{byte(n)}
	}
	k := (bits.Len64(uint64(n)) + 7) / 8
	return join([]byte{byte(lead + k)}, highFirst(uint64(n), k))
}

// highFirst gives the k lowest bytes of x, the highest first.
func highFirst(x uint64, k int) []byte {
	out := make([]byte, k)
	for i := range out {
		out[k-1-i] = byte(x >> (8 * i))
	}
	return out
}

// Reader reads bytes from left to right. One that Open did not make reads nothing, and its error is ErrNil.
type Reader struct {
	made bool
	rest []byte
	err  api.Errno
}

// Open gives a reader of b's bytes as they are now.
func Open(b []byte) *Reader {
	return &Reader{made: true, rest: join(b)}
}

// Num reads a number that is at most most.
func (r *Reader) Num(most int) int {
	n := r.number()
	if n > most {
		r.Fail(api.ErrLong)
		return 0
	}
	return n
}

// number reads a number, however great.
func (r *Reader) number() int {
	first, ok := r.take(1)
	if !ok {
		return 0
	}
	if first[0] < small {
		return int(first[0])
	}
	k := int(first[0]) - lead
	if k > wide {
		r.Fail(api.ErrForm)
		return 0
	}
	x, ok := r.word(k)
	if !ok {
		return 0
	}
	if x > math.MaxInt64 || len(number(int(x))) <= k {
		r.Fail(api.ErrForm)
		return 0
	}
	return int(x)
}

// Int reads a whole number of either sign.
func (r *Reader) Int() int {
	x, ok := r.word(wide)
	if !ok {
		return 0
	}
	return int(x ^ signBit)
}

// Bits reads eight bytes.
func (r *Reader) Bits() uint64 {
	x, _ := r.word(wide)
	return x
}

// Text reads a text of at most most bytes.
func (r *Reader) Text(most int) string {
	s, _ := r.take(r.Num(most)) // behind Num's error nothing is taken
	return string(s)
}

// Flag reads a byte 0 or 1.
func (r *Reader) Flag() bool {
	b, ok := r.take(1)
	if !ok {
		return false
	}
	if b[0] > 1 {
		r.Fail(api.ErrForm)
		return false
	}
	return b[0] == 1
}

// Fail makes e the reader's error, if it had none, and e is one.
func (r *Reader) Fail(e api.Errno) {
	if e == api.OK || r.Err() != api.OK {
		return
	}
	r.err, r.rest = e, nil
}

// Left says how many bytes are left.
func (r *Reader) Left() int {
	if r.Err() != api.OK {
		return 0
	}
	return len(r.rest)
}

// Err gives the first error.
func (r *Reader) Err() api.Errno {
	if r == nil || !r.made {
		return api.ErrNil
	}
	return r.err
}

// End gives the first error, or ErrForm if bytes are left; the reader stays as it is.
func (r *Reader) End() api.Errno {
	if e := r.Err(); e != api.OK {
		return e
	}
	if r.Left() > 0 {
		return api.ErrForm
	}
	return api.OK
}

// word reads k bytes, the highest first.
func (r *Reader) word(k int) (uint64, bool) {
	b, ok := r.take(k)
	if !ok {
		return 0, false
	}
	var x uint64
	for _, c := range b {
		x = x<<8 | uint64(c)
	}
	return x, true
}

// take takes the next n bytes, with no room behind them, so that nobody who appends to them writes over what is left.
func (r *Reader) take(n int) ([]byte, bool) {
	if r.Err() != api.OK {
		return nil, false
	}
	if n > len(r.rest) {
		r.Fail(api.ErrShort)
		return nil, false
	}
	b := r.rest[:n:n]
	r.rest = r.rest[n:]
	return b, true
}
