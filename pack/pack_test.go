package pack

import (
	"bytes"
	"fmt"
	"math"
	"slices"
	"strings"
	"testing"

	"usher/api"
)

// numbers: both sides of 240 and of each change of k, and some between; ascending.
func numbers() []int {
	out := []int{0, 1, 2, 127, 128, 200, 238, 239, 240, 241, 254}
	for k := 1; k < 8; k++ {
		edge := 1 << (8 * k)
		out = append(out, edge-1, edge, edge+1, edge*3)
	}
	return append(out, 1<<62, math.MaxInt-1, math.MaxInt)
}

// integers: of either sign; ascending.
func integers() []int {
	var out []int
	for _, n := range slices.Backward(numbers()) {
		out = append(out, -n-1)
	}
	return append(out, numbers()...)
}

func words() []uint64 {
	return []uint64{0, 1, 255, 256, 1 << 62, 1 << 63, 0x0102030405060708, 0x7ff8000000000000, math.MaxUint64}
}

func texts() []string {
	return []string{"", "a", "ab", "\x00\xff", "\xf0\x80 no letters", strings.Repeat("x", 239), strings.Repeat("y", 240), strings.Repeat("z", 70000)}
}

// form is a number's form as the document tells it, reckoned another way than the program does.
func form(n int) []byte {
	if n < 240 {
		return []byte{byte(n)}
	}
	var low []byte
	for ; n > 0; n /= 256 {
		low = append(low, byte(n%256))
	}
	slices.Reverse(low)
	return append([]byte{byte(239 + len(low))}, low...)
}

func TestForms(t *testing.T) {
	for _, c := range []struct {
		got  []byte
		want string
	}{
		{Num(nil, 0), "00"},
		{Num(nil, 239), "ef"},
		{Num(nil, 240), "f0f0"},
		{Num(nil, 255), "f0ff"},
		{Num(nil, 256), "f10100"},
		{Num(nil, 65535), "f1ffff"},
		{Num(nil, 65536), "f2010000"},
		{Num(nil, math.MaxInt), "f77fffffffffffffff"},
		{Num(nil, -1), "00"},
		{Num(nil, math.MinInt), "00"},
		{Int(nil, -1), "7fffffffffffffff"},
		{Int(nil, 0), "8000000000000000"},
		{Int(nil, 258), "8000000000000102"},
		{Int(nil, math.MaxInt), "ffffffffffffffff"},
		{Int(nil, math.MinInt), "0000000000000000"},
		{Bits(nil, 0x0102030405060708), "0102030405060708"},
		{Bits(nil, 1<<63), "8000000000000000"},
		{Text(nil, ""), "00"},
		{Text(nil, "ab"), "026162"},
		{Flag(nil, false), "00"},
		{Flag(nil, true), "01"},
	} {
		if got := fmt.Sprintf("%x", c.got); got != c.want {
			t.Errorf("%s, want %s", got, c.want)
		}
	}
	for _, n := range numbers() {
		if !bytes.Equal(Num(nil, n), form(n)) {
			t.Errorf("Num(%d): %x, want %x", n, Num(nil, n), form(n))
		}
	}
	for _, s := range texts() {
		if !bytes.Equal(Text(nil, s), append(form(len(s)), s...)) {
			t.Errorf("a text of %d bytes", len(s))
		}
	}
}

// writers: each call that writes, with something to write.
func writers() map[string]func([]byte) []byte {
	return map[string]func([]byte) []byte{
		"Num, small": func(b []byte) []byte { return Num(b, 7) },
		"Num, great": func(b []byte) []byte { return Num(b, 1<<40) },
		"Num, below": func(b []byte) []byte { return Num(b, -7) },
		"Int":        func(b []byte) []byte { return Int(b, -5) },
		"Bits":       func(b []byte) []byte { return Bits(b, 1<<63|5) },
		"Text":       func(b []byte) []byte { return Text(b, "text") },
		"Text, none": func(b []byte) []byte { return Text(b, "") },
		"Flag":       func(b []byte) []byte { return Flag(b, true) },
	}
}

func TestWritesBehindInNewMemory(t *testing.T) {
	for name, write := range writers() {
		room := []byte{1, 2, 3, 9, 9, 9, 9, 9, 9, 9, 9, 9, 9, 9, 9, 9}
		before := slices.Clone(room)
		got := write(room[:3])
		if !bytes.Equal(got, append([]byte{1, 2, 3}, write(nil)...)) {
			t.Errorf("%s: %x", name, got)
		}
		if !bytes.Equal(room, before) {
			t.Errorf("%s wrote into what it was given: %x", name, room)
		}
		kept := slices.Clone(got)
		room[0], room[2] = 77, 77
		if !bytes.Equal(got, kept) {
			t.Errorf("%s shares memory with what it was given", name)
		}
		if !bytes.Equal(write(nil), write([]byte{})) {
			t.Errorf("%s: nil and empty differ", name)
		}
	}
}

func TestReadsWhatWasWritten(t *testing.T) {
	for _, behind := range [][]byte{nil, {0}, {0xff, 0xff}, {240, 240, 1, 2, 3, 4, 5, 6, 7, 8, 9}} {
		reader := func(b []byte) *Reader { return Open(append(b, behind...)) }
		done := func(what any, r *Reader) {
			if r.Err() != api.OK || r.Left() != len(behind) {
				t.Errorf("%v: error %d, %d left", what, r.Err(), r.Left())
			}
		}
		for _, n := range numbers() {
			for _, most := range []int{n, math.MaxInt} {
				r := reader(Num(nil, n))
				if got := r.Num(most); got != n {
					t.Errorf("Num(%d): %d", n, got)
				}
				done(n, r)
			}
		}
		for _, n := range integers() {
			r := reader(Int(nil, n))
			if got := r.Int(); got != n {
				t.Errorf("Int(%d): %d", n, got)
			}
			done(n, r)
		}
		for _, x := range words() {
			r := reader(Bits(nil, x))
			if got := r.Bits(); got != x {
				t.Errorf("Bits(%x): %x", x, got)
			}
			done(x, r)
		}
		for _, s := range texts() {
			r := reader(Text(nil, s))
			if got := r.Text(len(s)); got != s {
				t.Errorf("Text of %d bytes: of %d", len(s), len(got))
			}
			done(s, r)
		}
		for _, yes := range []bool{false, true} {
			r := reader(Flag(nil, yes))
			if got := r.Flag(); got != yes {
				t.Errorf("Flag(%v): %v", yes, got)
			}
			done(yes, r)
		}
	}
}

func TestReadsFromLeftToRight(t *testing.T) {
	b := Flag(Bits(Text(Int(Num(nil, 300), -300), "three"), 300), true)
	r := Open(b)
	if r.Left() != 3+8+6+8+1 {
		t.Error(r.Left())
	}
	if r.Num(300) != 300 || r.Int() != -300 || r.Text(5) != "three" || r.Bits() != 300 || !r.Flag() || r.End() != api.OK || r.Left() != 0 {
		t.Error("read otherwise than written")
	}
	if r.Flag() || r.Err() != api.ErrShort || r.End() != api.ErrShort {
		t.Error("behind the end:", r.Err())
	}
}

// exhausted complains if a reader with the error e still has, or reads, anything.
func exhausted(t *testing.T, what string, r *Reader, e api.Errno) {
	t.Helper()
	for range 2 {
		if r.Err() != e || r.End() != e || r.Left() != 0 {
			t.Errorf("%s: error %d, end %d, %d left, want %d", what, r.Err(), r.End(), r.Left(), e)
		}
		if r.Num(math.MaxInt) != 0 || r.Num(-1) != 0 || r.Int() != 0 || r.Bits() != 0 || r.Text(200) != "" || r.Flag() {
			t.Errorf("%s: something is read behind the error", what)
		}
		r.Fail(api.ErrLog)
		r.Fail(api.OK)
	}
}

func TestNumRefuses(t *testing.T) {
	for _, c := range []struct {
		b    []byte
		most int
		want api.Errno
	}{
		{nil, 5, api.ErrShort},
		{[]byte{240}, math.MaxInt, api.ErrShort},
		{[]byte{241, 5}, math.MaxInt, api.ErrShort},
		{[]byte{241, 0}, 5, api.ErrShort},                     // too short ahead of too long a form
		{[]byte{247, 255, 1, 2, 3, 4, 5, 6}, 5, api.ErrShort}, // and of too great a number
		{[]byte{248}, math.MaxInt, api.ErrForm},               // no form begins so
		{[]byte{248, 1, 2, 3, 4, 5, 6, 7, 8, 9, 10}, math.MaxInt, api.ErrForm},
		{bytes.Repeat([]byte{255}, 30), math.MaxInt, api.ErrForm},
		{[]byte{240, 0, 1}, math.MaxInt, api.ErrForm}, // a byte would do
		{[]byte{240, 239, 1}, math.MaxInt, api.ErrForm},
		{[]byte{240, 5, 1}, 4, api.ErrForm},                // ahead of a limit
		{[]byte{241, 0, 240, 1}, math.MaxInt, api.ErrForm}, // a byte fewer would do
		{[]byte{241, 0, 255, 1}, math.MaxInt, api.ErrForm},
		{[]byte{241, 0, 0, 1}, math.MaxInt, api.ErrForm},
		{[]byte{242, 0, 255, 255, 1}, math.MaxInt, api.ErrForm},
		{[]byte{247, 0, 255, 255, 255, 255, 255, 255, 255}, math.MaxInt, api.ErrForm},
		{[]byte{247, 128, 0, 0, 0, 0, 0, 0, 0}, math.MaxInt, api.ErrForm}, // 2^63
		{[]byte{247, 255, 255, 255, 255, 255, 255, 255, 255, 1}, 5, api.ErrForm},
		{[]byte{5, 1, 1}, 4, api.ErrLong},
		{[]byte{0, 1}, -1, api.ErrLong},
		{[]byte{240, 240, 1}, 239, api.ErrLong},
		{Num(nil, math.MaxInt), math.MaxInt - 1, api.ErrLong},
	} {
		r := Open(c.b)
		if got := r.Num(c.most); got != 0 {
			t.Errorf("%x: read %d", c.b, got)
		}
		exhausted(t, fmt.Sprintf("Num(%d) of %x", c.most, c.b), r, c.want)
		// A text begins with a number, and has its errors.
		r = Open(c.b)
		if got := r.Text(c.most); got != "" {
			t.Errorf("%x: read %q", c.b, got)
		}
		exhausted(t, fmt.Sprintf("Text(%d) of %x", c.most, c.b), r, c.want)
	}
}

func TestEachBeginningOfANumberIsShort(t *testing.T) {
	for _, n := range numbers() {
		b := Num(nil, n)
		for i := range b {
			r := Open(b[:i])
			if r.Num(math.MaxInt) != 0 || r.Err() != api.ErrShort {
				t.Errorf("%d bytes of %x: error %d", i, b, r.Err())
			}
		}
	}
}

func TestOtherFormsOfANumberAreRefused(t *testing.T) {
	for _, n := range numbers() {
		one := form(n)
		for k := 1; k <= 8; k++ {
			var b []byte
			for i := k - 1; i >= 0; i-- {
				b = append(b, byte(uint64(n)>>(8*i)))
			}
			b = append([]byte{byte(239 + k)}, b...)
			if len(b) <= len(one) {
				continue // too few bytes for n, or the one form
			}
			r := Open(b)
			if r.Num(math.MaxInt) != 0 || r.Err() != api.ErrForm {
				t.Errorf("%d as %x: error %d", n, b, r.Err())
			}
		}
	}
}

func TestFixedWidthsRefuse(t *testing.T) {
	for i := range 8 {
		b := bytes.Repeat([]byte{0xff}, i)
		r := Open(b)
		if r.Int() != 0 {
			t.Error("Int of", i, "bytes")
		}
		exhausted(t, fmt.Sprint("Int of ", i, " bytes"), r, api.ErrShort)
		r = Open(b)
		if r.Bits() != 0 {
			t.Error("Bits of", i, "bytes")
		}
		exhausted(t, fmt.Sprint("Bits of ", i, " bytes"), r, api.ErrShort)
	}
}

func TestTextRefuses(t *testing.T) {
	for _, c := range []struct {
		b    []byte
		most int
		want api.Errno
	}{
		{[]byte{1}, 9, api.ErrShort},
		{[]byte{3, 'a', 'b'}, 9, api.ErrShort},
		{Num(nil, math.MaxInt), math.MaxInt, api.ErrShort},
		{append(Num(nil, 240), make([]byte, 239)...), 240, api.ErrShort},
		{[]byte{3, 'a', 'b'}, 2, api.ErrLong}, // its number's error first
		{[]byte{3, 'a', 'b', 'c'}, 2, api.ErrLong},
	} {
		r := Open(c.b)
		if got := r.Text(c.most); got != "" {
			t.Errorf("Text(%d) of %x: %q", c.most, c.b, got)
		}
		exhausted(t, fmt.Sprintf("Text(%d) of %x", c.most, c.b), r, c.want)
	}
}

func TestFlagRefuses(t *testing.T) {
	r := Open(nil)
	if r.Flag() {
		t.Error("a flag of nothing")
	}
	exhausted(t, "Flag of nothing", r, api.ErrShort)
	for c := 2; c < 256; c++ {
		r := Open([]byte{byte(c), 1, 1, 1})
		if r.Flag() {
			t.Errorf("a flag of %x", c)
		}
		exhausted(t, fmt.Sprintf("Flag of %x", c), r, api.ErrForm)
	}
}

func TestFail(t *testing.T) {
	r := Open([]byte{1, 1, 1})
	r.Fail(api.OK)
	if r.Err() != api.OK || r.Left() != 3 || !r.Flag() {
		t.Error("OK is no error:", r.Err(), r.Left())
	}
	r.Fail(api.ErrVersion)
	exhausted(t, "Fail", r, api.ErrVersion)
	r = Open([]byte{9})
	r.Flag()
	r.Fail(api.ErrVersion)
	exhausted(t, "Fail behind an error", r, api.ErrForm)
}

func TestEnd(t *testing.T) {
	for _, b := range [][]byte{nil, {}} {
		if r := Open(b); r.End() != api.OK || r.Err() != api.OK || r.Left() != 0 {
			t.Error("nothing at all:", r.End(), r.Err(), r.Left())
		}
	}
	r := Open([]byte{1, 0})
	if r.End() != api.ErrForm || r.Err() != api.OK || r.Left() != 2 {
		t.Error("two bytes left:", r.End(), r.Err(), r.Left())
	}
	if !r.Flag() || r.End() != api.ErrForm || r.Flag() || r.End() != api.OK {
		t.Error("End has changed the reader")
	}
}

func TestReaderThatNoCallMade(t *testing.T) {
	var zero Reader
	for what, r := range map[string]*Reader{"nil": nil, "zero": &zero, "new": new(Reader)} {
		r.Fail(api.ErrLong)
		exhausted(t, what, r, api.ErrNil)
	}
	if zero.made || zero.err != api.OK || zero.rest != nil {
		t.Error("a reader that no call made was changed")
	}
}

func TestReaderKeepsNothingOfItsBytes(t *testing.T) {
	b := Text(Num(nil, 5), "abc")
	before := slices.Clone(b)
	r := Open(b)
	for i := range b {
		b[i] = 255
	}
	if r.Num(9) != 5 || r.Text(9) != "abc" || r.End() != api.OK {
		t.Error("the reader shares its bytes with whoever opened it")
	}
	copy(b, before)
	r = Open(b)
	r.Num(9)
	r.Text(9)
	if !bytes.Equal(b, before) {
		t.Errorf("the reader changed what it was given: %x", b)
	}
}

func TestTakenBytesHaveNoRoomBehindThem(t *testing.T) {
	r := Open([]byte{1, 2, 3, 4})
	b, ok := r.take(2)
	if !ok || cap(b) != 2 {
		t.Fatal(b, cap(b))
	}
	_ = append(b, 99)
	if r.Num(9) != 3 {
		t.Error("what is left was written over")
	}
}

func TestReadersDoNotShare(t *testing.T) {
	b := []byte{1, 0}
	first, second := Open(b), Open(b)
	first.Flag()
	first.Fail(api.ErrArg)
	if second.Left() != 2 || second.Err() != api.OK || !second.Flag() {
		t.Error("one reader moved the other")
	}
}

func TestBytesStandInTheirOrder(t *testing.T) {
	ascends := func(ns []int, write func([]byte, int) []byte) {
		for i, a := range ns {
			for j, b := range ns {
				want := 0
				if i < j {
					want = -1
				} else if i > j {
					want = 1
				}
				if got := bytes.Compare(write(nil, a), write(nil, b)); got != want {
					t.Errorf("%d and %d: %d", a, b, got)
				}
			}
		}
	}
	ascends(numbers(), Num)
	ascends(integers(), Int)
}
