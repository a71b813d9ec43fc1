package batch

import (
	"bytes"
	"fmt"
	"math"
	"math/rand"
	"slices"
	"strings"
	"testing"

	"usher/api"
)

// number is a number's bytes as the document tells them.
func number(n int) []byte {
	if n < 240 {
		return []byte{byte(n)}
	}
	var b []byte
	for ; n > 0; n >>= 8 {
		b = append([]byte{byte(n)}, b...)
	}
	return append([]byte{byte(239 + len(b))}, b...)
}

func text(s string) []byte {
	return append(number(len(s)), s...)
}

// byTheBook gives a batch's bytes, also of one that may not be.
func byTheBook(b api.Batch) []byte {
	out := slices.Concat(text(b.Key), number(b.Expect), text(string(b.Row)), number(len(b.Writes)))
	for _, w := range b.Writes {
		out = slices.Concat(out, text(w.Branch), text(w.Fork), number(w.Keep), number(w.At), number(len(w.Events)))
		for _, e := range w.Events {
			out = append(out, text(string(e))...)
		}
	}
	return out
}

// events gives n events of one byte each.
func events(n int) [][]byte {
	var out [][]byte
	for i := range n {
		out = append(out, []byte{byte(i)})
	}
	return out
}

// long gives a text of n bytes.
func long(n int) string {
	return strings.Repeat("x", n)
}

// writes gives a batch of the key "k" with these writes.
func writes(l ...api.Write) api.Batch {
	return api.Batch{Key: "k", Writes: l}
}

// shown gives all of a batch that is small.
func shown(b api.Batch) string {
	s := fmt.Sprintf("%v", b)
	if len(s) > 300 {
		return s[:300] + ".."
	}
	return s
}

func isNone(b api.Batch) bool {
	return b.Key == "" && b.Expect == 0 && b.Row == nil && b.Writes == nil
}

func TestTheExample(t *testing.T) {
	got, e := Encode(api.Batch{Key: "k"})
	if e != api.OK || !bytes.Equal(got, []byte{0x01, 0x6b, 0, 0, 0}) {
		t.Errorf("Encode = %x, %d", got, e)
	}
	b, e := Decode([]byte{0x01, 0x6b, 0, 0, 0})
	if e != api.OK || !Same(b, api.Batch{Key: "k"}) {
		t.Errorf("Decode = %s, %d", shown(b), e)
	}
}

// right are batches that may be, by what they are the edge of.
func right() map[string]api.Batch {
	return map[string]api.Batch{
		"a key of 1 byte":          {Key: "k"},
		"a key of any byte":        {Key: "\x00"},
		"a key of no UTF-8":        {Key: "\xff\xfe/"},
		"a key of 64 bytes":        {Key: long(64)},
		"Expect 1":                 {Key: "k", Expect: 1},
		"Expect 239":               {Key: "k", Expect: 239},
		"Expect 240":               {Key: "k", Expect: 240},
		"Expect 2^31 - 1":          {Key: "k", Expect: 1<<31 - 1},
		"Expect 2^31":              {Key: "k", Expect: 1 << 31},
		"a row of 1 byte":          {Key: "k", Row: []byte{0}},
		"a row of 300 bytes":       {Key: "k", Row: []byte(long(300))},
		"a row of 2^19 bytes":      {Key: "k", Row: []byte(long(1 << 19))},
		"1 write":                  writes(api.Write{Branch: "h"}),
		"4 writes":                 writes(api.Write{Branch: "a"}, api.Write{Branch: "b", At: 3}, api.Write{Branch: "c", Fork: "a", Keep: 2}, api.Write{Branch: "d"}),
		"4 writes of one branch":   writes(api.Write{Branch: "a"}, api.Write{Branch: "a"}, api.Write{Branch: "a"}, api.Write{Branch: "a"}),
		"a branch of 64 bytes":     writes(api.Write{Branch: long(64)}),
		"a fork of 1 byte":         writes(api.Write{Branch: "h", Fork: "g"}),
		"a fork of 64 bytes":       writes(api.Write{Branch: "h", Fork: long(64)}),
		"a fork of itself":         writes(api.Write{Branch: "h", Fork: "h"}),
		"Keep 1":                   writes(api.Write{Branch: "h", Fork: "g", Keep: 1}),
		"Keep 120":                 writes(api.Write{Branch: "h", Fork: "g", Keep: 120}),
		"At 1":                     writes(api.Write{Branch: "h", At: 1}),
		"At 120":                   writes(api.Write{Branch: "h", At: 120}),
		"At 120 and 120 events":    writes(api.Write{Branch: "h", At: 120, Events: events(120)}),
		"120 events":               writes(api.Write{Branch: "h", Events: events(120)}),
		"120 events of a fork":     writes(api.Write{Branch: "h", Fork: "g", Keep: 120, Events: events(120)}),
		"an event of 1 byte":       writes(api.Write{Branch: "h", Events: [][]byte{{0}}}),
		"an event of 4096 bytes":   writes(api.Write{Branch: "h", Events: [][]byte{{7}, []byte(long(4096))}}),
		"a Row, and two histories": {Key: "r/a", Expect: 2, Row: []byte("row"), Writes: []api.Write{{Branch: "h/a/1", At: 4, Events: [][]byte{[]byte("e"), []byte("ff")}}, {Branch: "h/a/2", Fork: "h/a/1", Keep: 3, Events: [][]byte{[]byte("ggg")}}}},
	}
}

// tooMuch are those that are told by a number that is above its limit.
func tooMuch() map[string]api.Batch {
	return map[string]api.Batch{
		"a key of 65 bytes":          {Key: long(65)},
		"a key of 300 bytes":         {Key: long(300)},
		"Expect 2^31 + 1":            {Key: "k", Expect: 1<<31 + 1},
		"Expect 2^63 - 1":            {Key: "k", Expect: math.MaxInt},
		"a row of 2^19 + 1 bytes":    {Key: "k", Row: []byte(long(1<<19 + 1))},
		"5 writes":                   writes(api.Write{Branch: "a"}, api.Write{Branch: "b"}, api.Write{Branch: "c"}, api.Write{Branch: "d"}, api.Write{Branch: "e"}),
		"a branch of 65 bytes":       writes(api.Write{Branch: long(65)}),
		"a fork of 65 bytes":         writes(api.Write{Branch: "h", Fork: long(65)}),
		"Keep 121":                   writes(api.Write{Branch: "h", Fork: "g", Keep: 121}),
		"Keep 2^63 - 1":              writes(api.Write{Branch: "h", Fork: "g", Keep: math.MaxInt}),
		"At 121":                     writes(api.Write{Branch: "h", At: 121}),
		"121 events":                 writes(api.Write{Branch: "h", Events: events(121)}),
		"an event of 4097 bytes":     writes(api.Write{Branch: "h", Events: [][]byte{[]byte(long(4097))}}),
		"the 4th write's last event": writes(api.Write{Branch: "a"}, api.Write{Branch: "b"}, api.Write{Branch: "c"}, api.Write{Branch: "h", Events: [][]byte{{1}, {2}, []byte(long(4097))}}),
		"Keep 121 without a fork":    writes(api.Write{Branch: "h", Keep: 121}),
		"At 121 with a fork":         writes(api.Write{Branch: "h", Fork: "g", At: 121}),
	}
}

// wrongForm are those whose bytes can be read, though they are no batch that may be.
func wrongForm() map[string]api.Batch {
	return map[string]api.Batch{
		"no key":                     {},
		"no key, and a row":          {Expect: 3, Row: []byte("row"), Writes: []api.Write{{Branch: "h"}}},
		"no branch":                  writes(api.Write{}),
		"no branch, but a fork":      writes(api.Write{Fork: "g"}),
		"the 4th write's branch":     writes(api.Write{Branch: "a"}, api.Write{Branch: "b"}, api.Write{Branch: "c"}, api.Write{}),
		"a fork with At 1":           writes(api.Write{Branch: "h", Fork: "g", At: 1}),
		"a fork with At and Keep":    writes(api.Write{Branch: "h", Fork: "g", Keep: 1, At: 1}),
		"Keep 1 without a fork":      writes(api.Write{Branch: "h", Keep: 1}),
		"Keep and At without a fork": writes(api.Write{Branch: "h", Keep: 120, At: 120}),
		"the 2nd write's Keep":       writes(api.Write{Branch: "h"}, api.Write{Branch: "h", Keep: 1}),
		"an event of 0 bytes":        writes(api.Write{Branch: "h", Events: [][]byte{{}}}),
		"a nil event":                writes(api.Write{Branch: "h", Events: [][]byte{{1}, nil}}),
	}
}

// below are those of numbers that have no bytes.
func below() map[string]api.Batch {
	return map[string]api.Batch{
		"Expect -1":            {Key: "k", Expect: -1},
		"Expect -2^63":         {Key: "k", Expect: math.MinInt},
		"Keep -1":              writes(api.Write{Branch: "h", Fork: "g", Keep: -1}),
		"Keep -1, no fork":     writes(api.Write{Branch: "h", Keep: -1}),
		"At -1":                writes(api.Write{Branch: "h", At: -1}),
		"At -1, with a fork":   writes(api.Write{Branch: "h", Fork: "g", At: -1}),
		"the 2nd write's Keep": writes(api.Write{Branch: "h"}, api.Write{Branch: "h", Fork: "g", Keep: math.MinInt}),
	}
}

func TestBatchesThatMayBe(t *testing.T) {
	for what, b := range right() {
		if e := Check(b); e != api.OK {
			t.Errorf("%s: Check = %d", what, e)
		}
		got, e := Encode(b)
		if e != api.OK || !bytes.Equal(got, byTheBook(b)) {
			t.Errorf("%s: Encode = %d bytes, %d", what, len(got), e)
		}
		c, e := Decode(got)
		if e != api.OK || !Same(b, c) || !Same(c, b) {
			t.Errorf("%s: Decode = %s, %d", what, shown(c), e)
		}
		if c.Key != b.Key || c.Expect != b.Expect || string(c.Row) != string(b.Row) || len(c.Writes) != len(b.Writes) || fmt.Sprint(c.Writes) != fmt.Sprint(b.Writes) {
			t.Errorf("%s: Decode gives other fields: %s", what, shown(c))
		}
	}
}

func TestBatchesThatMayNotBe(t *testing.T) {
	for _, all := range []map[string]api.Batch{tooMuch(), wrongForm(), below()} {
		for what, b := range all {
			if e := Check(b); e != api.ErrArg {
				t.Errorf("%s: Check = %d", what, e)
			}
			if got, e := Encode(b); e != api.ErrArg || got != nil {
				t.Errorf("%s: Encode = %d bytes, %d", what, len(got), e)
			}
		}
	}
}

// undecoded fails unless Decode gives no batch, and that error.
func undecoded(t *testing.T, what string, b []byte, want api.Errno) {
	t.Helper()
	if got, e := Decode(b); e != want || !isNone(got) {
		t.Errorf("%s: Decode = %s, %d, want none, %d", what, shown(got), e, want)
	}
}

func TestDecodeOfBatchesThatMayNotBe(t *testing.T) {
	for what, b := range tooMuch() {
		undecoded(t, what, byTheBook(b), api.ErrLong)
	}
	for what, b := range wrongForm() {
		undecoded(t, what, byTheBook(b), api.ErrForm)
	}
}

func TestDecodeOfBeginningsAndMore(t *testing.T) {
	for what, b := range right() {
		whole := byTheBook(b)
		undecoded(t, what+", one byte more", append(slices.Clone(whole), 0), api.ErrForm)
		undecoded(t, what+", one byte less", whole[:len(whole)-1], api.ErrShort)
		for n := range min(len(whole), 200) {
			undecoded(t, fmt.Sprintf("%s, %d bytes", what, n), whole[:n], api.ErrShort)
		}
	}
	undecoded(t, "nil", nil, api.ErrShort)
	undecoded(t, "none", []byte{}, api.ErrShort)
}

// TestErrorsOfBytesComeFirst: the bytes are read whole, whatever they say.
func TestErrorsOfBytesComeFirst(t *testing.T) {
	for _, c := range []struct {
		what string
		b    []byte
		want api.Errno
	}{
		{"no key, and nothing behind it", []byte{0}, api.ErrShort},
		{"no key, and Expect is too great", slices.Concat([]byte{0}, number(1<<31+1), []byte{0, 0}), api.ErrLong},
		{"no key, and a number of too many bytes", []byte{0, 0xf0, 5, 0, 0}, api.ErrForm},
		{"no key, and 5 writes", []byte{0, 0, 0, 5}, api.ErrLong},
		{"no key, and one byte more", []byte{0, 0, 0, 0, 0}, api.ErrForm},
		{"no branch, and Keep 121", []byte{1, 'k', 0, 0, 1, 0, 0, 121, 0, 0}, api.ErrLong},
		{"Keep without a fork, and At 121", []byte{1, 'k', 0, 0, 1, 1, 'h', 0, 1, 121, 0}, api.ErrLong},
		{"a fork with an At, and too few events", []byte{1, 'k', 0, 0, 1, 1, 'h', 1, 'g', 0, 1, 2, 1, 7}, api.ErrShort},
		{"an event of no bytes, and one that ends early", []byte{1, 'k', 0, 0, 1, 1, 'h', 0, 0, 0, 2, 0, 2, 7}, api.ErrShort},
		{"an event of no bytes, and one that is too long", slices.Concat([]byte{1, 'k', 0, 0, 1, 1, 'h', 0, 0, 0, 2, 0}, text(long(4097))), api.ErrLong},
		{"the first one of two errors: long, short", []byte{1, 'k', 0, 0, 5}, api.ErrLong},
		{"the first one of two errors: short within a key that is too long", []byte{65, 'k'}, api.ErrLong},
		{"the first one of two errors: form, long", slices.Concat([]byte{1, 'k', 248, 0, 0}, number(5)), api.ErrForm},
		{"a key's length in two bytes", []byte{0xf0, 1, 'k', 0, 0, 0}, api.ErrForm},
		{"Expect in nine bytes, above 2^63 - 1", []byte{1, 'k', 247, 255, 255, 255, 255, 255, 255, 255, 255, 0, 0}, api.ErrForm},
		{"events' number in two bytes", []byte{1, 'k', 0, 0, 1, 1, 'h', 0, 0, 0, 0xf0, 1, 1, 7}, api.ErrForm},
		{"a row of 2^40 bytes", []byte{1, 'k', 0, 245, 1, 0, 0, 0, 0, 0}, api.ErrLong},
	} {
		undecoded(t, c.what, c.b, c.want)
	}
}

// anyBatch gives a small batch that may be.
func anyBatch(r *rand.Rand) api.Batch {
	some := func(least, most int) string {
		b := make([]byte, least+r.Intn(most-least+1))
		for i := range b {
			b[i] = "abc\x00\xff"[r.Intn(5)]
		}
		return string(b)
	}
	b := api.Batch{Key: some(1, 5), Expect: []int{0, 1, 2, 239, 240, 70000, 1 << 31}[r.Intn(7)], Row: []byte(some(0, 6))}
	for range r.Intn(5) {
		w := api.Write{Branch: some(1, 3)}
		if r.Intn(2) == 0 {
			w.Fork, w.Keep = some(1, 3), r.Intn(121)
		} else {
			w.At = r.Intn(121)
		}
		for range r.Intn(4) {
			w.Events = append(w.Events, []byte(some(1, 4)))
		}
		b.Writes = append(b.Writes, w)
	}
	return b
}

func TestDecodeOfEncode(t *testing.T) {
	r := rand.New(rand.NewSource(10))
	for range 3000 {
		b := anyBatch(r)
		p, e := Encode(b)
		if e != api.OK || !bytes.Equal(p, byTheBook(b)) {
			t.Fatalf("Encode(%s) = %x, %d", shown(b), p, e)
		}
		c, e := Decode(p)
		if e != api.OK || !Same(b, c) || !bytes.Equal(byTheBook(c), p) {
			t.Fatalf("Decode of Encode(%s) = %s, %d", shown(b), shown(c), e)
		}
	}
}

// TestWhatIsDecodedHasThoseBytes turns bytes of batches into others: each is refused, or has just these bytes.
func TestWhatIsDecodedHasThoseBytes(t *testing.T) {
	r := rand.New(rand.NewSource(11))
	decoded := 0
	for range 60000 {
		b := byTheBook(anyBatch(r))
		for range 1 + r.Intn(2) {
			at := r.Intn(len(b))
			switch r.Intn(4) {
			case 0:
				b[at] = byte(r.Intn(256))
			case 1:
				b[at]--
			case 2:
				b = slices.Delete(b, at, at+1)
			case 3:
				b = slices.Insert(b, at, byte(r.Intn(5)))
			}
			if len(b) == 0 {
				break
			}
		}
		c, e := Decode(b)
		if e != api.OK {
			if !isNone(c) || e != api.ErrForm && e != api.ErrShort && e != api.ErrLong {
				t.Fatalf("Decode(%x) = %s, %d", b, shown(c), e)
			}
			continue
		}
		decoded++
		if p, e := Encode(c); e != api.OK || !bytes.Equal(p, b) {
			t.Fatalf("Decode(%x) = %s, whose bytes are %x, %d", b, shown(c), p, e)
		}
	}
	if decoded < 1000 {
		t.Errorf("only %d were batches", decoded)
	}
}

func TestSame(t *testing.T) {
	one := func() api.Batch {
		return api.Batch{Key: "k", Expect: 1, Row: []byte("r"), Writes: []api.Write{{Branch: "h", Fork: "g", Keep: 2, At: 3, Events: [][]byte{{1}, {2}}}, {Branch: "i"}}}
	}
	if !Same(one(), one()) || !Same(api.Batch{}, api.Batch{}) {
		t.Error("one is not the same as itself")
	}
	for what, change := range map[string]func(b *api.Batch){
		"Key":             func(b *api.Batch) { b.Key = "l" },
		"no Key":          func(b *api.Batch) { b.Key = "" },
		"Expect":          func(b *api.Batch) { b.Expect = -1 },
		"Row":             func(b *api.Batch) { b.Row = []byte("s") },
		"a longer Row":    func(b *api.Batch) { b.Row = []byte("rr") },
		"no Row":          func(b *api.Batch) { b.Row = nil },
		"one write less":  func(b *api.Batch) { b.Writes = b.Writes[:1] },
		"one write more":  func(b *api.Batch) { b.Writes = append(b.Writes, api.Write{}) },
		"no writes":       func(b *api.Batch) { b.Writes = nil },
		"writes' order":   func(b *api.Batch) { slices.Reverse(b.Writes) },
		"Branch":          func(b *api.Batch) { b.Writes[1].Branch = "j" },
		"Fork":            func(b *api.Batch) { b.Writes[0].Fork = "" },
		"Keep":            func(b *api.Batch) { b.Writes[0].Keep = 3 },
		"At":              func(b *api.Batch) { b.Writes[0].At = 2 },
		"an event":        func(b *api.Batch) { b.Writes[0].Events[1] = []byte{3} },
		"an empty event":  func(b *api.Batch) { b.Writes[0].Events[1] = nil },
		"one event less":  func(b *api.Batch) { b.Writes[0].Events = b.Writes[0].Events[:1] },
		"one event more":  func(b *api.Batch) { b.Writes[1].Events = [][]byte{nil} },
		"events' order":   func(b *api.Batch) { slices.Reverse(b.Writes[0].Events) },
		"events put over": func(b *api.Batch) { b.Writes[1].Events, b.Writes[0].Events = b.Writes[0].Events, nil },
	} {
		b := one()
		change(&b)
		if Same(one(), b) || Same(b, one()) {
			t.Errorf("another %s is the same", what)
		}
		if !Same(b, b) {
			t.Errorf("with another %s it is not the same as itself", what)
		}
	}
}

func TestEmptyListsAreAsNone(t *testing.T) {
	none := api.Batch{Key: "k", Writes: []api.Write{{Branch: "h", Events: [][]byte{nil}}, {Branch: "i"}}}
	empty := api.Batch{Key: "k", Row: []byte{}, Writes: []api.Write{{Branch: "h", Events: [][]byte{{}}}, {Branch: "i", Events: [][]byte{}}}}
	if !Same(none, empty) || !Same(empty, none) || !Same(api.Batch{Key: "k"}, api.Batch{Key: "k", Row: []byte{}, Writes: []api.Write{}}) {
		t.Error("empty lists are not as none")
	}
	none.Writes[0].Events, empty.Writes[0].Events = nil, [][]byte{}
	a, e := Encode(none)
	b, f := Encode(empty)
	if e != api.OK || f != api.OK || !bytes.Equal(a, b) {
		t.Errorf("Encode = %x, %x", a, b)
	}
}

func TestNothingIsSharedOrChanged(t *testing.T) {
	b := right()["a Row, and two histories"]
	was := byTheBook(b)
	p, _ := Encode(b)
	Check(b)
	clear(p)
	if !bytes.Equal(byTheBook(b), was) {
		t.Error("the batch that was handed in has changed")
	}
	p, _ = Encode(b)
	b.Row[0], b.Writes[0].Events[0][0] = 'X', 'X'
	if !bytes.Equal(p, was) {
		t.Error("the bytes share memory with the batch")
	}
	c, _ := Decode(p)
	if !bytes.Equal(p, was) {
		t.Error("Decode changed its argument")
	}
	clear(p)
	if !bytes.Equal(byTheBook(c), was) {
		t.Error("the batch shares memory with the bytes")
	}
	c.Row = append(c.Row[:1], "grown"...)
	c.Writes[0].Events[0] = append(c.Writes[0].Events[0], "grown"...)
	c.Writes[0].Events = append(c.Writes[0].Events, []byte("grown"))
	if string(c.Writes[0].Events[1]) != "ff" || string(c.Writes[1].Events[0]) != "ggg" {
		t.Error("lists of one batch share memory")
	}
}

func TestAGreatBatch(t *testing.T) {
	b := api.Batch{Key: long(64), Expect: 1 << 31, Row: []byte(long(1 << 19))}
	for i := range 4 {
		w := api.Write{Branch: long(64), Fork: long(60 + i), Keep: 120}
		for range 120 {
			w.Events = append(w.Events, []byte(long(4096)))
		}
		b.Writes = append(b.Writes, w)
	}
	p, e := Encode(b)
	if e != api.OK || !bytes.Equal(p, byTheBook(b)) {
		t.Fatalf("Encode = %d bytes, %d", len(p), e)
	}
	if c, e := Decode(p); e != api.OK || !Same(b, c) {
		t.Errorf("Decode: %d", e)
	}
	undecoded(t, "one byte less", p[:len(p)-1], api.ErrShort)
}
