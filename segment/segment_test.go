package segment

import (
	"bytes"
	"fmt"
	"math"
	"math/rand"
	"slices"
	"testing"

	"usher/api"
	"usher/frame"
	"usher/pack"
)

// head gives a head's frame of any payload.
func head(payload ...byte) []byte {
	return frame.Seal(api.SgHead, payload)
}

func same(a, b api.Segment) bool {
	return a.Number == b.Number && a.First == b.First && a.Has == b.Has && a.Size == b.Size && a.Torn == b.Torn &&
		bytes.Equal(a.Snap, b.Snap) && slices.EqualFunc(a.Records, b.Records, bytes.Equal)
}

func isZero(s api.Segment) bool {
	return s.Snap == nil && s.Records == nil && same(s, api.Segment{})
}

// parsed fails unless Parse gives that segment.
func parsed(t *testing.T, what string, b []byte, want api.Segment) {
	t.Helper()
	before := bytes.Clone(b)
	s, e := Parse(b)
	if e != api.OK || !same(s, want) {
		t.Errorf("%s: Parse = %+v, %d, want %+v", what, s, e, want)
	}
	if !bytes.Equal(b, before) {
		t.Errorf("%s: Parse changed its argument", what)
	}
}

// refused fails unless Parse tells ErrLog and nothing else.
func refused(t *testing.T, what string, b []byte) {
	t.Helper()
	if s, e := Parse(b); e != api.ErrLog || !isZero(s) {
		t.Errorf("%s: Parse = %+v, %d, want ErrLog", what, s, e)
	}
}

// texts gives records of these texts.
func texts(l ...string) [][]byte {
	var out [][]byte
	for _, s := range l {
		out = append(out, []byte(s))
	}
	return out
}

func TestFramesOfASegment(t *testing.T) {
	for _, c := range []struct {
		number, first int
		want          []byte
	}{
		{3, 7, []byte{3, 7}},
		{0, 0, []byte{0, 0}},
		{1, 0, []byte{1, 0}},
		{-1, -1, []byte{0, 0}},
		{math.MinInt, 5, []byte{0, 5}},
		{5, math.MinInt, []byte{5, 0}},
		{239, 240, []byte{239, 240, 240}},
		{256, 1, []byte{241, 1, 0, 1}},
		{math.MaxInt, math.MaxInt, []byte{247, 127, 255, 255, 255, 255, 255, 255, 255, 247, 127, 255, 255, 255, 255, 255, 255, 255}},
	} {
		if b := Head(c.number, c.first); !bytes.Equal(b, frame.Seal(1, c.want)) {
			t.Errorf("Head(%d, %d) = %x", c.number, c.first, b)
		}
	}
	for _, b := range [][]byte{nil, {}, []byte("a"), make([]byte, 1000), make([]byte, api.MaxFrame)} {
		if !bytes.Equal(Snap(b), frame.Seal(2, b)) || len(Snap(b)) != 9+len(b) {
			t.Errorf("Snap of %d bytes is another frame", len(b))
		}
		if !bytes.Equal(Record(b), frame.Seal(3, b)) || len(Record(b)) != 9+len(b) {
			t.Errorf("Record of %d bytes is another frame", len(b))
		}
	}
	long := make([]byte, api.MaxFrame+1)
	if len(Snap(long)) != 0 || len(Record(long)) != 0 {
		t.Error("there is a frame of a payload that is too long")
	}
}

func TestFramesAreNewMemory(t *testing.T) {
	b := []byte("abc")
	s, r := Snap(b), Record(b)
	copy(b, "xyz")
	if string(s[9:]) != "abc" || string(r[9:]) != "abc" {
		t.Errorf("frames share memory with what was handed in: %q, %q", s, r)
	}
}

func TestParseOfTheExample(t *testing.T) {
	b := append(Head(3, 0), Record([]byte("a"))...)
	parsed(t, "all bytes", b, api.Segment{Number: 3, Records: texts("a"), Size: 21})
	parsed(t, "two bytes less", b[:len(b)-2], api.Segment{Number: 3, Size: 11, Torn: true})
}

func TestParseOfHeads(t *testing.T) {
	parsed(t, "number 1, none ahead", Head(1, 0), api.Segment{Number: 1, Size: 11})
	parsed(t, "numbers below 0 as 0", Head(1, -5), api.Segment{Number: 1, Size: 11})
	parsed(t, "the greatest numbers", Head(math.MaxInt, math.MaxInt), api.Segment{Number: math.MaxInt, First: math.MaxInt, Size: 27})
	parsed(t, "numbers of two bytes and three", Head(240, 1000), api.Segment{Number: 240, First: 1000, Size: 14})

	refused(t, "number 0", Head(0, 0))
	refused(t, "number 0, records ahead", Head(0, 9))
	refused(t, "number below 0", Head(-1, 9))
	refused(t, "no number", head())
	refused(t, "one number", head(1))
	refused(t, "three numbers", head(1, 2, 3))
	refused(t, "a byte more", head(append(pack.Num(pack.Num(nil, 300), 300), 0)...))
	two := pack.Num(pack.Num(nil, 300), 300)
	for k := range two {
		refused(t, "bytes missing", head(two[:k]...))
	}
	refused(t, "a number that is longer than it must be", head(240, 1, 0))
	refused(t, "a second number that is longer than it must be", head(1, 240, 239))
	refused(t, "a number above 2^63 - 1", head(247, 128, 0, 0, 0, 0, 0, 0, 0, 0))
	refused(t, "a second number above 2^63 - 1", head(1, 247, 255, 255, 255, 255, 255, 255, 255, 255))
	refused(t, "a first byte that no number has", head(248, 1))
	for kind := range 256 {
		if kind != api.SgHead {
			refused(t, fmt.Sprint("kind ", kind), frame.Seal(kind, []byte{1, 0}))
		}
	}
}

func TestParseOfNoSegment(t *testing.T) {
	refused(t, "nil", nil)
	refused(t, "empty", []byte{})
	refused(t, "zeros", make([]byte, 100))
	refused(t, "ones", bytes.Repeat([]byte{255}, 100))
	refused(t, "a snapshot", Snap([]byte{1, 0}))
	refused(t, "a record", Record([]byte{1, 0}))
	refused(t, "a record ahead of the head", append(Record(nil), Head(1, 0)...))
	refused(t, "a byte ahead of the head", append([]byte{0}, Head(1, 0)...))
	refused(t, "another sum, and a good head behind", append(turned(Head(1, 0), 4), Head(1, 0)...))
	good := Head(1, 0)
	for at := range good {
		for bit := range 8 {
			b := bytes.Clone(good)
			b[at] ^= 1 << bit
			refused(t, "a bit turned", b)
		}
	}
}

// turned gives b with one byte another one.
func turned(b []byte, at int) []byte {
	out := bytes.Clone(b)
	out[at] ^= 1
	return out
}

func TestParseOfSnapshots(t *testing.T) {
	h, s, r := Head(2, 5), Snap([]byte("snap")), Record([]byte("r"))
	parsed(t, "in the second place", slices.Concat(h, s), api.Segment{Number: 2, First: 5, Has: true, Snap: []byte("snap"), Size: 24})
	parsed(t, "of no bytes", slices.Concat(h, Snap(nil), r), api.Segment{Number: 2, First: 5, Has: true, Records: texts("r"), Size: 30})
	parsed(t, "in the third place", slices.Concat(h, r, s, r), api.Segment{Number: 2, First: 5, Records: texts("r"), Size: 21, Torn: true})
	parsed(t, "in the second and the third", slices.Concat(h, s, s, r), api.Segment{Number: 2, First: 5, Has: true, Snap: []byte("snap"), Size: 24, Torn: true})
	parsed(t, "with another sum", slices.Concat(h, turned(s, 5), r), api.Segment{Number: 2, First: 5, Size: 11, Torn: true})
	great := bytes.Repeat([]byte("s"), api.MaxFrame)
	parsed(t, "the greatest", slices.Concat(h, Snap(great), r), api.Segment{Number: 2, First: 5, Has: true, Snap: great, Records: texts("r"), Size: 11 + 9 + api.MaxFrame + 10})
}

func TestParseOfRecords(t *testing.T) {
	h, r := Head(1, 0), Record([]byte("ab"))
	parsed(t, "none", h, api.Segment{Number: 1, Size: 11})
	parsed(t, "of no bytes", slices.Concat(h, Record(nil), Record(nil), r), api.Segment{Number: 1, Records: texts("", "", "ab"), Size: 40})
	parsed(t, "a second head behind", slices.Concat(h, r, Head(2, 1), r), api.Segment{Number: 1, Records: texts("ab"), Size: 22, Torn: true})
	parsed(t, "a second head at once", slices.Concat(h, h, r), api.Segment{Number: 1, Size: 11, Torn: true})
	parsed(t, "another sum in the middle", slices.Concat(h, r, turned(r, 10), r), api.Segment{Number: 1, Records: texts("ab"), Size: 22, Torn: true})
	parsed(t, "zeros behind", slices.Concat(h, r, make([]byte, 30)), api.Segment{Number: 1, Records: texts("ab"), Size: 22, Torn: true})
	parsed(t, "one byte behind", slices.Concat(h, r, []byte{0}), api.Segment{Number: 1, Records: texts("ab"), Size: 22, Torn: true})
	for kind := range 256 {
		if kind != api.SgRecord {
			parsed(t, fmt.Sprint("kind ", kind), slices.Concat(h, r, frame.Seal(kind, nil), r), api.Segment{Number: 1, Records: texts("ab"), Size: 22, Torn: true})
		}
	}
}

func TestParseOfAllBeginnings(t *testing.T) {
	r := rand.New(rand.NewSource(3))
	for range 80 {
		number, first := 1+r.Intn(1<<r.Intn(40)), r.Intn(1<<r.Intn(40))
		b := Head(number, first)
		whole := []api.Segment{{Number: number, First: first, Size: len(b)}}
		if r.Intn(2) == 0 {
			next := whole[0]
			next.Has, next.Snap = true, noise(r, r.Intn(20))
			b = append(b, Snap(next.Snap)...)
			next.Size = len(b)
			whole = append(whole, next)
		}
		for range r.Intn(5) {
			next := whole[len(whole)-1]
			record := noise(r, r.Intn(20))
			b = append(b, Record(record)...)
			next.Records, next.Size = append(slices.Clone(next.Records), record), len(b)
			whole = append(whole, next)
		}
		for k := range whole[0].Size {
			refused(t, "a head that is not whole", b[:k])
		}
		at := 0
		for k := whole[0].Size; k <= len(b); k++ {
			if at+1 < len(whole) && whole[at+1].Size <= k {
				at++
			}
			want := whole[at]
			want.Torn = k > want.Size
			parsed(t, "a beginning", b[:k], want)
		}
	}
}

func noise(r *rand.Rand, n int) []byte {
	out := make([]byte, n)
	r.Read(out)
	return out
}

func TestParseOfAnyFrames(t *testing.T) {
	r := rand.New(rand.NewSource(4))
	for range 3000 {
		var b []byte
		for range r.Intn(6) {
			b = append(b, [][]byte{Head(r.Intn(3), r.Intn(3)), Snap(noise(r, r.Intn(3))), Record(noise(r, r.Intn(3)))}[r.Intn(3)]...)
		}
		if len(b) > 0 && r.Intn(3) == 0 {
			b[r.Intn(len(b))] ^= byte(1 << r.Intn(8))
		}
		want, ok := byScan(b)
		if !ok {
			refused(t, "any frames", b)
		} else {
			parsed(t, "any frames", b, want)
		}
	}
}

// byScan reads a segment by all its frames at once.
func byScan(b []byte) (api.Segment, bool) {
	l, _ := frame.Scan(b)
	if len(l) == 0 || l[0].Kind != 1 {
		return api.Segment{}, false
	}
	r := pack.Open(l[0].Payload)
	s := api.Segment{Number: r.Num(math.MaxInt), First: r.Num(math.MaxInt), Size: 9 + len(l[0].Payload)}
	if r.End() != api.OK || s.Number == 0 {
		return api.Segment{}, false
	}
	for i, f := range l[1:] {
		if i == 0 && f.Kind == 2 {
			s.Has, s.Snap = true, f.Payload
		} else if f.Kind == 3 {
			s.Records = append(s.Records, f.Payload)
		} else {
			break
		}
		s.Size += 9 + len(f.Payload)
	}
	s.Torn = s.Size != len(b)
	return s, true
}

func TestParseSharesNothing(t *testing.T) {
	b := slices.Concat(Head(1, 0), Snap([]byte("snap")), Record([]byte("one")), Record([]byte("two")))
	before := bytes.Clone(b)
	s, _ := Parse(b)
	s.Snap = append(s.Snap, "grown and grown"...)
	s.Records[0] = append(s.Records[0], "grown and grown"...)
	copy(s.Snap, "XXXX")
	copy(s.Records[0], "XXX")
	if !bytes.Equal(b, before) || string(s.Records[1]) != "two" {
		t.Errorf("an answer shares memory: %q, %q", b, s.Records[1])
	}
	clear(b)
	if string(s.Records[1]) != "two" {
		t.Error("an answer shares memory with the argument")
	}
}

// seg gives a segment without a snapshot, with so many records.
func seg(number, first, records int) api.Segment {
	return api.Segment{Number: number, First: first, Records: make([][]byte, records)}
}

// snapped gives s with a snapshot.
func snapped(s api.Segment) api.Segment {
	s.Has, s.Snap = true, []byte("s")
	return s
}

// torn gives s with bytes behind it.
func torn(s api.Segment) api.Segment {
	s.Torn = true
	return s
}

func TestChain(t *testing.T) {
	for _, c := range []struct {
		what string
		l    []api.Segment
		want []int
	}{
		{"no segments", nil, nil},
		{"an empty list", []api.Segment{}, nil},
		{"no base", []api.Segment{seg(1, 0, 2), seg(2, 2, 0)}, nil},
		{"a base alone", []api.Segment{snapped(seg(5, 9, 2))}, []int{0}},
		{"a base without records, and one behind it", []api.Segment{snapped(seg(5, 9, 0)), seg(6, 9, 1)}, []int{0, 1}},
		{"a snapshot of no bytes", []api.Segment{{Number: 1, Has: true}}, []int{0}},
		{"a snapshot's bytes without Has", []api.Segment{{Number: 1, Snap: []byte("s")}}, nil},
		{"in any order", []api.Segment{seg(4, 7, 0), seg(3, 4, 3), snapped(seg(1, 0, 3)), seg(2, 3, 1)}, []int{2, 3, 1, 0}},
		{"the greatest Number is the base", []api.Segment{snapped(seg(1, 0, 1)), snapped(seg(3, 8, 1)), seg(2, 1, 0), snapped(seg(2, 5, 3)), seg(4, 9, 0)}, []int{1, 4}},
		{"a greater Number without a snapshot is none", []api.Segment{seg(9, 0, 0), snapped(seg(2, 5, 3))}, []int{1}},
		{"of several bases the first", []api.Segment{seg(3, 1, 0), snapped(seg(2, 0, 2)), snapped(seg(2, 0, 1)), seg(3, 2, 0)}, []int{1, 3}},
		{"the same Number, the first counts", []api.Segment{snapped(seg(1, 0, 1)), seg(2, 1, 5), seg(2, 1, 2), seg(3, 3, 0), seg(3, 6, 0)}, []int{0, 1, 4}},
		{"the same Number, the first with that First", []api.Segment{snapped(seg(1, 0, 1)), seg(2, 0, 5), seg(2, 2, 5), seg(2, 1, 2), seg(3, 3, 0)}, []int{0, 3, 4}},
		{"one has a snapshot, so that it is the base", []api.Segment{snapped(seg(1, 0, 1)), snapped(seg(2, 1, 1)), seg(2, 1, 0)}, []int{1}},
		{"a gap", []api.Segment{snapped(seg(1, 0, 1)), seg(3, 1, 1)}, []int{0}},
		{"First too small", []api.Segment{snapped(seg(1, 4, 2)), seg(2, 5, 1)}, []int{0}},
		{"First too great", []api.Segment{snapped(seg(1, 4, 2)), seg(2, 7, 1)}, []int{0}},
		{"the base is Torn", []api.Segment{torn(snapped(seg(1, 0, 1))), seg(2, 1, 1)}, []int{0}},
		{"a later one is Torn", []api.Segment{snapped(seg(1, 0, 1)), torn(seg(2, 1, 1)), seg(3, 2, 0)}, []int{0, 1}},
		{"the last one is Torn", []api.Segment{snapped(seg(1, 0, 1)), seg(2, 1, 1), torn(seg(3, 2, 0))}, []int{0, 1, 2}},
		{"a Torn one first, of the same Number", []api.Segment{snapped(seg(1, 0, 1)), torn(seg(2, 1, 0)), seg(2, 1, 0), seg(3, 1, 0)}, []int{0, 1}},
	} {
		before := slices.Clone(c.l)
		if got := Chain(c.l); !slices.Equal(got, c.want) {
			t.Errorf("%s: Chain = %v, want %v", c.what, got, c.want)
		}
		if !slices.EqualFunc(before, c.l, same) {
			t.Errorf("%s: Chain changed its argument", c.what)
		}
	}
}

func TestChainAtTheGreatestNumbers(t *testing.T) {
	for _, c := range []struct {
		what string
		l    []api.Segment
		want []int
	}{
		{"Number 2^63 - 1 as the last one", []api.Segment{snapped(seg(math.MaxInt-1, 0, 1)), seg(math.MaxInt, 1, 1)}, []int{0, 1}},
		{"behind Number 2^63 - 1 there is none", []api.Segment{snapped(seg(math.MaxInt, 0, 1)), seg(math.MinInt, 1, 1), seg(0, 1, 1), seg(math.MaxInt, 1, 1)}, []int{0}},
		{"a First of 2^63 - 1", []api.Segment{snapped(seg(1, math.MaxInt-2, 2)), seg(2, math.MaxInt, 0), seg(3, math.MaxInt, 1), seg(4, math.MaxInt, 0), seg(4, math.MinInt, 0)}, []int{0, 1, 2}},
		{"records beyond 2^63 - 1", []api.Segment{snapped(seg(1, math.MaxInt-1, 2)), seg(2, math.MinInt, 0), seg(2, math.MaxInt, 0), seg(2, 0, 0)}, []int{0}},
		{"numbers below 0 go on as others", []api.Segment{seg(0, 1, 0), snapped(seg(-1, -1, 2))}, []int{1, 0}},
		{"the smallest numbers", []api.Segment{snapped(seg(math.MinInt, math.MinInt, 1)), seg(math.MinInt+1, math.MinInt+1, 0)}, []int{0, 1}},
	} {
		if got := Chain(c.l); !slices.Equal(got, c.want) {
			t.Errorf("%s: Chain = %v, want %v", c.what, got, c.want)
		}
	}
}

// chainByTheBook goes along the document's words, of small numbers.
func chainByTheBook(l []api.Segment) []int {
	at := -1
	for i, s := range l {
		if s.Has && (at == -1 || s.Number > l[at].Number) {
			at = i
		}
	}
	if at == -1 {
		return nil
	}
	chain := []int{at}
	for !l[at].Torn {
		next := slices.IndexFunc(l, func(s api.Segment) bool {
			return s.Number-1 == l[at].Number && !s.Has && s.First-len(l[at].Records) == l[at].First
		})
		if next == -1 {
			break
		}
		at = next
		chain = append(chain, at)
	}
	return chain
}

func TestChainOfAnySegments(t *testing.T) {
	r := rand.New(rand.NewSource(5))
	longest := 0
	for range 30000 {
		l := make([]api.Segment, r.Intn(12))
		for i := range l {
			l[i] = seg(1+r.Intn(5), r.Intn(3), r.Intn(2))
			l[i].Has, l[i].Torn = r.Intn(6) == 0, r.Intn(8) == 0
		}
		want := chainByTheBook(l)
		if got := Chain(l); !slices.Equal(got, want) {
			t.Fatalf("Chain(%+v) = %v, want %v", l, got, want)
		}
		longest = max(longest, len(want))
	}
	if longest < 4 {
		t.Errorf("no chain was longer than %d", longest)
	}
}

func TestChainOfParsedSegments(t *testing.T) {
	var l []api.Segment
	for _, b := range [][]byte{
		slices.Concat(Head(3, 4), Record([]byte("d"))),
		slices.Concat(Head(1, 0), Snap(nil), Record([]byte("a"))),
		slices.Concat(Head(2, 1), Record([]byte("b")), Record(nil), Record([]byte("c"))),
		slices.Concat(Head(4, 5), Record([]byte("e")))[:12],
	} {
		s, e := Parse(b)
		if e != api.OK {
			t.Fatal(e)
		}
		l = append(l, s)
	}
	c := Chain(l)
	if !slices.Equal(c, []int{1, 2, 0, 3}) {
		t.Errorf("Chain = %v", c)
	}
	if n, records := End(l, c); n != 4 || records != 5 {
		t.Errorf("End = %d, %d", n, records)
	}
}

func TestEnd(t *testing.T) {
	l := []api.Segment{snapped(seg(3, 7, 2)), seg(4, 9, 0), seg(5, 9, 4), seg(math.MaxInt, math.MaxInt-1, 1), seg(7, math.MaxInt-1, 2), seg(8, math.MaxInt, 0), seg(9, math.MaxInt, 3), seg(-2, -5, 3), torn(seg(10, 1, 1))}
	for _, c := range []struct {
		what            string
		chain           []int
		number, records int
	}{
		{"no chain", nil, 0, 0},
		{"an empty chain", []int{}, 0, 0},
		{"the base alone", []int{0}, 3, 9},
		{"without records", []int{0, 1}, 4, 9},
		{"the last one counts", []int{0, 1, 2}, 5, 13},
		{"whatever the order is", []int{2, 1, 0}, 3, 9},
		{"2^63 - 1 in all", []int{3}, math.MaxInt, math.MaxInt},
		{"one beyond 2^63 - 1", []int{4}, 7, math.MaxInt},
		{"a First of 2^63 - 1", []int{5}, 8, math.MaxInt},
		{"a First of 2^63 - 1, and records", []int{6}, 9, math.MaxInt},
		{"numbers below 0", []int{7}, -2, -2},
		{"a Torn one", []int{0, 8}, 10, 2},
		{"places below 0 and above behind the last one", []int{0, 1, -1, 9, math.MinInt, math.MaxInt}, 4, 9},
		{"places below 0 and above ahead of it", []int{-1, 9, 2}, 5, 13},
		{"no place that the list has", []int{-1, 9, 100, math.MinInt}, 0, 0},
	} {
		before := slices.Clone(c.chain)
		if n, records := End(l, c.chain); n != c.number || records != c.records {
			t.Errorf("%s: End = %d, %d, want %d, %d", c.what, n, records, c.number, c.records)
		}
		if !slices.Equal(before, c.chain) {
			t.Errorf("%s: End changed its argument", c.what)
		}
	}
	if n, records := End(nil, []int{0, 1, -1}); n != 0 || records != 0 {
		t.Errorf("no segments: End = %d, %d", n, records)
	}
	if n, records := End(nil, nil); n != 0 || records != 0 {
		t.Errorf("no segments, no chain: End = %d, %d", n, records)
	}
}
