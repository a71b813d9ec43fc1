package crc

import (
	"bytes"
	"hash/crc32"
	"math"
	"testing"
)

// byTheBook is the sum as the document tells it, bit by bit.
func byTheBook(b []byte) uint32 {
	r := uint32(0xffffffff)
	for _, c := range b {
		r = behindByte(r, c)
	}
	return r ^ 0xffffffff
}

func behindByte(r uint32, c byte) uint32 {
	for i := 0; i < 8; i++ {
		differs := r&1 != uint32(c>>i&1)
		r >>= 1
		if differs {
			r ^= 0x82f63b78
		}
	}
	return r
}

// noise gives n bytes without a short period, the same ones always.
func noise(n int) []byte {
	out := make([]byte, n)
	x := uint64(88172645463325252)
	for i := range out {
		x ^= x << 13
		x ^= x >> 7
		x ^= x << 17
		out[i] = byte(x >> 32)
	}
	return out
}

// remainders: none, all and single bits, and some between.
func remainders() []uint32 {
	out := []uint32{0, math.MaxUint32, 0x82f63b78, 0xe3069283, 0xdeadbeef, 0x01234567}
	for i := range 32 {
		out = append(out, 1<<i)
	}
	return out
}

func TestSumOfKnownTexts(t *testing.T) {
	for _, c := range []struct {
		text string
		want uint32
	}{
		{"", 0},
		{"123456789", 0xe3069283},
		{"a", 0xc1d04330},
		{"\x00", 0x527d5351},
		{"\xff", 0xff000000},
		{string(make([]byte, 32)), 0x8a9136aa},
		{string(bytes.Repeat([]byte{0xff}, 32)), 0x62a8ab43},
	} {
		if s := Sum([]byte(c.text)); s != c.want {
			t.Errorf("Sum(%q) = %08x, not %08x", c.text, s, c.want)
		}
	}
	if Sum(nil) != 0 || More(7, nil) != 7 || More(7, []byte{}) != 7 {
		t.Error("no bytes change a sum")
	}
}

func TestSumOfEachByte(t *testing.T) {
	for c := range 256 {
		b := []byte{byte(c)}
		if s := Sum(b); s != byTheBook(b) {
			t.Errorf("Sum of the byte %d = %08x, not %08x", c, s, byTheBook(b))
		}
	}
}

func TestSumOfManyBytes(t *testing.T) {
	all := noise(1 << 12)
	book := crc32.MakeTable(crc32.Castagnoli)
	for n := 0; n <= 300; n++ {
		b := all[n : 2*n]
		if s := Sum(b); s != byTheBook(b) || s != crc32.Checksum(b, book) {
			t.Fatalf("Sum of %d bytes = %08x, not %08x", n, s, byTheBook(b))
		}
	}
	great := noise(1<<20 + 3)
	if s := Sum(great); s != crc32.Checksum(great, book) {
		t.Errorf("Sum of %d bytes = %08x", len(great), s)
	}
}

func TestSumLeavesBytesAlone(t *testing.T) {
	b := noise(100)
	Sum(b)
	More(5, b)
	if !bytes.Equal(b, noise(100)) {
		t.Error("the bytes are others than ahead of the call")
	}
}

func TestMoreGoesOnAnywhere(t *testing.T) {
	b := noise(200)
	want := byTheBook(b)
	for cut := 0; cut <= len(b); cut++ {
		if s := More(Sum(b[:cut]), b[cut:]); s != want {
			t.Errorf("cut at %d: %08x, not %08x", cut, s, want)
		}
	}
	s := Sum(nil)
	for i := range b {
		s = More(s, b[i:i+1])
	}
	if s != want {
		t.Errorf("byte by byte: %08x, not %08x", s, want)
	}
}

// Any number is the sum of some bytes, so that More goes on from each.
func TestMoreOfAnySum(t *testing.T) {
	b := noise(9)
	for _, s := range remainders() {
		r := ^s
		for _, c := range b {
			r = behindByte(r, c)
		}
		if got := More(s, b); got != ^r {
			t.Errorf("More(%08x, ..) = %08x, not %08x", s, got, ^r)
		}
	}
}

func TestZerosOfFewBytes(t *testing.T) {
	for _, s := range remainders() {
		want := s
		for n := 0; n <= 130; n++ {
			if got := Zeros(s, n); got != want {
				t.Fatalf("Zeros(%08x, %d) = %08x, not %08x", s, n, got, want)
			}
			want = behindByte(want, 0)
		}
	}
}

func TestZerosOfManyBytes(t *testing.T) {
	edges := []int{1000, 4095, 4096, 65535, 65536, 1<<19 - 1, 1 << 19, 1<<20 - 1, 1 << 20}
	for _, s := range []uint32{1, 0x80000000, 0xe3069283} {
		r, at := s, 0
		for _, n := range edges {
			for ; at < n; at++ {
				r = behindByte(r, 0)
			}
			if got := Zeros(s, n); got != r {
				t.Errorf("Zeros(%08x, %d) = %08x, not %08x", s, n, got, r)
			}
		}
	}
}

func TestZerosOutsideItsBounds(t *testing.T) {
	for _, s := range remainders() {
		for _, n := range []int{math.MinInt, -1 << 20, -2, -1, 0, 1<<20 + 1, 1<<20 + 2, 1 << 21, 1 << 40, math.MaxInt} {
			if got := Zeros(s, n); got != s {
				t.Errorf("Zeros(%08x, %d) = %08x", s, n, got)
			}
		}
	}
	if Zeros(1, 1<<20) == 1 {
		t.Error("2^20 bytes are not gone through")
	}
}

func TestJoinIsZerosXor(t *testing.T) {
	for _, a := range remainders() {
		for _, b := range []uint32{0, 1, 0x80000000, 0xe3069283} {
			for _, n := range []int{math.MinInt, -1, 0, 1, 2, 9, 1000, 1 << 20, 1<<20 + 1, math.MaxInt} {
				if got := Join(a, b, n); got != Zeros(a, n)^b {
					t.Errorf("Join(%08x, %08x, %d) = %08x", a, b, n, got)
				}
			}
		}
	}
}

func TestJoinOfSumsIsTheSumOfBoth(t *testing.T) {
	b := noise(150)
	for cut := 0; cut <= len(b); cut++ {
		got := Join(Sum(b[:cut]), Sum(b[cut:]), len(b)-cut)
		if want := byTheBook(b); got != want {
			t.Errorf("cut at %d: %08x, not %08x", cut, got, want)
		}
	}
	great := noise(1<<20 + 77)
	for _, n := range []int{0, 1, 2, 255, 256, 1<<16 + 1, 1<<20 - 1, 1 << 20} {
		cut := len(great) - n
		if got := Join(Sum(great[:cut]), Sum(great[cut:]), n); got != Sum(great) {
			t.Errorf("the second one of %d bytes: %08x, not %08x", n, got, Sum(great))
		}
	}
}
