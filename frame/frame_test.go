package frame

import (
	"bytes"
	"encoding/binary"
	"hash/crc32"
	"math"
	"math/rand"
	"testing"

	"usher/api"
)

// byTheBook is a frame as the document tells it, with the library's sum.
func byTheBook(kind byte, payload []byte) []byte {
	body := append([]byte{kind}, payload...)
	out := binary.BigEndian.AppendUint32(nil, uint32(len(payload)))
	out = binary.BigEndian.AppendUint32(out, crc32.Checksum(body, crc32.MakeTable(crc32.Castagnoli)))
	return append(out, body...)
}

// noise gives n bytes without a short period, the same ones always.
func noise(n int) []byte {
	out := make([]byte, n)
	rand.New(rand.NewSource(int64(n))).Read(out)
	return out
}

// refused fails unless Next tells that error of b, and nothing else.
func refused(t *testing.T, what string, b []byte, want api.Errno) {
	t.Helper()
	f, n, e := Next(b)
	if e != want || n != 0 || f.Kind != 0 || f.Payload != nil {
		t.Errorf("%s: Next = %v, %d, %d, want nothing, 0, %d", what, f, n, e, want)
	}
}

// begins fails unless Next tells that frame of b.
func begins(t *testing.T, what string, b []byte, kind int, payload []byte) {
	t.Helper()
	f, n, e := Next(b)
	if e != api.OK || n != 9+len(payload) || f.Kind != kind || !bytes.Equal(f.Payload, payload) {
		t.Errorf("%s: Next = kind %d, %d bytes of payload, %d, %d, want kind %d, %d bytes", what, f.Kind, len(f.Payload), n, e, kind, len(payload))
	}
}

func sameFrames(a, b []api.Frame) bool {
	if len(a) != len(b) {
		return false
	}
	for i := range a {
		if a[i].Kind != b[i].Kind || !bytes.Equal(a[i].Payload, b[i].Payload) {
			return false
		}
	}
	return true
}

func TestSealOfTheExample(t *testing.T) {
	got := Seal(1, []byte("a"))
	if !bytes.Equal(got, byTheBook(1, []byte("a"))) || !bytes.Equal(got[:4], []byte{0, 0, 0, 1}) || !bytes.Equal(got[8:], []byte{1, 'a'}) {
		t.Errorf("Seal(1, a) = %x", got)
	}
}

func TestSealOfKinds(t *testing.T) {
	for _, c := range []struct {
		kind int
		want byte
	}{
		{0, 0}, {1, 1}, {127, 127}, {128, 128}, {255, 255}, {256, 0}, {257, 1}, {0x1234, 0x34}, {1 << 40, 0},
		{-1, 255}, {-256, 0}, {-255, 1}, {math.MaxInt, 255}, {math.MinInt, 0}, {math.MinInt + 7, 7},
	} {
		b := Seal(c.kind, []byte("xyz"))
		if !bytes.Equal(b, byTheBook(c.want, []byte("xyz"))) {
			t.Errorf("Seal(%d, xyz) = %x", c.kind, b)
		}
		begins(t, "a sealed kind", b, int(c.want), []byte("xyz"))
	}
}

func TestSealOfPayloads(t *testing.T) {
	for _, n := range []int{0, 1, 2, 255, 256, 257, 65535, 65536, api.MaxFrame - 1, api.MaxFrame} {
		payload := noise(n)
		b := Seal(3, payload)
		if !bytes.Equal(b, byTheBook(3, payload)) || len(b) != Size(n) {
			t.Errorf("Seal of %d bytes is another frame, of %d bytes", n, len(b))
		}
		begins(t, "a sealed payload", b, 3, payload)
	}
	for _, n := range []int{api.MaxFrame + 1, api.MaxFrame + 2, 2 * api.MaxFrame} {
		if b := Seal(3, make([]byte, n)); len(b) != 0 {
			t.Errorf("Seal of %d bytes gives %d", n, len(b))
		}
	}
	if !bytes.Equal(Seal(2, nil), Seal(2, []byte{})) || len(Seal(2, nil)) != 9 {
		t.Error("no payload and an empty one have two frames")
	}
}

func TestSize(t *testing.T) {
	for _, c := range []struct{ n, want int }{
		{math.MinInt, 0}, {-10, 0}, {-9, 0}, {-1, 0}, {0, 9}, {1, 10}, {240, 249}, {65536, 65545},
		{api.MaxFrame - 1, api.MaxFrame + 8}, {api.MaxFrame, api.MaxFrame + 9},
		{api.MaxFrame + 1, 0}, {math.MaxInt32, 0}, {1 << 32, 0}, {math.MaxInt, 0},
	} {
		if got := Size(c.n); got != c.want {
			t.Errorf("Size(%d) = %d, want %d", c.n, got, c.want)
		}
	}
}

func TestNextTellsWhatItHasFirst(t *testing.T) {
	for n := range 9 {
		refused(t, "fewer than 9 bytes", make([]byte, n), api.ErrShort)
		refused(t, "fewer than 9 bytes, of a great length", bytes.Repeat([]byte{0xff}, n), api.ErrShort)
		refused(t, "a beginning of a frame of no bytes", Seal(1, nil)[:n], api.ErrShort)
	}
	refused(t, "nil", nil, api.ErrShort)
	begins(t, "9 bytes", Seal(1, nil), 1, nil)

	long := byTheBook(1, make([]byte, api.MaxFrame+1))
	refused(t, "a length above MaxFrame, all bytes there", long, api.ErrLong)
	refused(t, "a length above MaxFrame, the last byte missing", long[:len(long)-1], api.ErrLong)
	refused(t, "a length above MaxFrame, 9 bytes", long[:9], api.ErrLong)
	refused(t, "a length above MaxFrame, 8 bytes", long[:8], api.ErrShort)
	refused(t, "the greatest length", []byte{255, 255, 255, 255, 0, 0, 0, 0, 0}, api.ErrLong)
	refused(t, "a length with the highest bit", []byte{128, 0, 0, 0, 0, 0, 0, 0, 0}, api.ErrLong)
	refused(t, "the length MaxFrame, 9 bytes", []byte{0, 16, 0, 0, 0, 0, 0, 0, 0}, api.ErrShort)
	long[8] ^= 1
	refused(t, "too long, and of another sum", long, api.ErrLong)
}

func TestNextOfBeginnings(t *testing.T) {
	for _, n := range []int{0, 1, 7, 300} {
		b := Seal(5, noise(n))
		for k := range len(b) {
			refused(t, "a beginning", b[:k], api.ErrShort)
		}
	}
	b := Seal(5, noise(api.MaxFrame))
	refused(t, "the greatest frame without its last byte", b[:len(b)-1], api.ErrShort)
	b[4] ^= 1
	refused(t, "too short, and of another sum", b[:len(b)-1], api.ErrShort)
}

func TestNextOfAnotherSum(t *testing.T) {
	for _, payload := range [][]byte{nil, []byte("a"), noise(40)} {
		b := Seal(200, payload)
		for at := 4; at < len(b); at++ {
			for bit := range 8 {
				b[at] ^= 1 << bit
				refused(t, "one bit turned", b, api.ErrSum)
				refused(t, "one bit turned, and more bytes behind", append(bytes.Clone(b), 1, 2, 3), api.ErrSum)
				b[at] ^= 1 << bit
			}
		}
		begins(t, "all bits turned back", b, 200, payload)
	}
	shorter := Seal(1, []byte("ab"))
	shorter[3] = 1
	refused(t, "a length that is one less", shorter, api.ErrSum)
	turned := Seal(1, []byte("ab"))
	turned[4], turned[5], turned[6], turned[7] = turned[7], turned[6], turned[5], turned[4]
	refused(t, "a sum with its lowest byte first", turned, api.ErrSum)
	refused(t, "a frame of zeros", make([]byte, 9), api.ErrSum)
}

func TestNextLooksAtNothingBehind(t *testing.T) {
	b := Seal(7, []byte("abc"))
	for _, behind := range [][]byte{{0}, bytes.Repeat([]byte{0xff}, 20), Seal(8, []byte("other"))} {
		begins(t, "bytes behind the frame", append(bytes.Clone(b), behind...), 7, []byte("abc"))
	}
}

func TestScan(t *testing.T) {
	var b []byte
	var want []api.Frame
	for _, f := range []api.Frame{{Kind: 1, Payload: []byte("a")}, {Kind: 2}, {Kind: 0, Payload: noise(500)}, {Kind: 255, Payload: []byte{0}}} {
		b = append(b, Seal(f.Kind, f.Payload)...)
		want = append(want, f)
	}
	if l, n := Scan(b); !sameFrames(l, want) || n != len(b) {
		t.Errorf("Scan = %d frames, %d of %d bytes", len(l), n, len(b))
	}
	for _, behind := range [][]byte{{0}, {0, 0}, make([]byte, 9), bytes.Repeat([]byte{0xff}, 9), Seal(1, []byte("z"))[:9]} {
		if l, n := Scan(append(bytes.Clone(b), behind...)); !sameFrames(l, want) || n != len(b) {
			t.Errorf("Scan with %x behind = %d frames, %d of %d bytes", behind, len(l), n, len(b))
		}
	}
	b[10+9+9] ^= 1 // the third one's payload
	if l, n := Scan(b); !sameFrames(l, want[:2]) || n != 19 {
		t.Errorf("Scan up to a wrong sum = %d frames, %d bytes", len(l), n)
	}
}

func TestScanOfNone(t *testing.T) {
	for _, b := range [][]byte{nil, {}, {0}, make([]byte, 8), make([]byte, 9), bytes.Repeat([]byte{0xff}, 50), noise(1000), Seal(1, []byte("ab"))[1:], byTheBook(1, make([]byte, api.MaxFrame+1))} {
		if l, n := Scan(b); len(l) != 0 || n != 0 {
			t.Errorf("Scan of %d bytes that are no frame = %d frames, %d bytes", len(b), len(l), n)
		}
	}
}

func TestScanOfGreatFrames(t *testing.T) {
	great := Seal(9, noise(api.MaxFrame))
	b := bytes.Join([][]byte{great, Seal(1, nil), great}, nil)
	l, n := Scan(b)
	if len(l) != 3 || n != len(b) || !bytes.Equal(l[2].Payload, noise(api.MaxFrame)) {
		t.Errorf("Scan of great frames = %d frames, %d of %d bytes", len(l), n, len(b))
	}
	if l, n = Scan(b[:len(b)-1]); len(l) != 2 || n != len(great)+9 {
		t.Errorf("Scan of great frames, one byte less = %d frames, %d bytes", len(l), n)
	}
}

func TestScanOfAllBeginnings(t *testing.T) {
	r := rand.New(rand.NewSource(7))
	for range 60 {
		var b []byte
		var frames []api.Frame
		ends := []int{0}
		for range r.Intn(6) {
			f := api.Frame{Kind: r.Intn(256), Payload: noise(r.Intn(30))}
			frames = append(frames, f)
			b = append(b, Seal(f.Kind, f.Payload)...)
			ends = append(ends, len(b))
		}
		whole := 0
		for k := range len(b) + 1 {
			for whole+1 < len(ends) && ends[whole+1] <= k {
				whole++
			}
			if l, n := Scan(b[:k]); !sameFrames(l, frames[:whole]) || n != ends[whole] {
				t.Fatalf("Scan of %d of %d bytes = %d frames, %d bytes, want %d, %d", k, len(b), len(l), n, whole, ends[whole])
			}
		}
	}
}

func TestScanGoesAsNextGoes(t *testing.T) {
	r := rand.New(rand.NewSource(8))
	for range 3000 {
		var b []byte
		for range r.Intn(5) {
			b = append(b, Seal(r.Intn(4), noise(r.Intn(4)))...)
		}
		for range r.Intn(3) {
			if len(b) > 0 {
				b[r.Intn(len(b))] ^= byte(1 << r.Intn(8))
			}
		}
		var want []api.Frame
		at := 0
		for {
			f, n, e := Next(b[at:])
			if e != api.OK {
				break
			}
			want, at = append(want, f), at+n
		}
		if l, n := Scan(b); !sameFrames(l, want) || n != at {
			t.Fatalf("Scan of %x = %v, %d, want %v, %d", b, l, n, want, at)
		}
	}
}

func TestNothingIsSharedOrChanged(t *testing.T) {
	payload := []byte("payload")
	sealed := Seal(1, payload)
	payload[0] = 'X'
	begins(t, "the payload changed behind Seal", sealed, 1, []byte("payload"))

	b := append(Seal(1, []byte("one")), Seal(2, []byte("two"))...)
	before := bytes.Clone(b)
	f, _, _ := Next(b)
	l, _ := Scan(b)
	if !bytes.Equal(b, before) {
		t.Error("bytes that were handed in have changed")
	}
	f.Payload = append(f.Payload, "grown"...)
	l[0].Payload = append(l[0].Payload[:0], "one and two and three"...)
	copy(f.Payload, "XXX")
	if !bytes.Equal(b, before) || string(l[1].Payload) != "two" {
		t.Errorf("an answer shares memory: %x, %q", b, l[1].Payload)
	}
	clear(b)
	if string(l[1].Payload) != "two" {
		t.Error("an answer shares memory with the argument")
	}
}
