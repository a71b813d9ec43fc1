package script

import (
	"bytes"
	"math"
	"math/rand"
	"reflect"
	"slices"
	"testing"
	"testing/quick"

	"usher/api"
	"usher/pack"
)

// kinds are all, and numbers that are none.
var kinds = []int{math.MinInt, -1, 0, 1, 2, 3, 4, 5, 6, 7, 8, 9, 256 + api.StepStep, 1<<32 + api.StepStep, math.MaxInt}

var numbers = []int{math.MinInt, math.MinInt + 1, -1, 0, 1, 239, 240, 255, 256, 1 << 20, 1<<40 - 1, 1 << 40, 1<<40 + 1, 1<<62 + 1, math.MaxInt}

// times gives so many of x.
func times[T any](n int, x T) []T {
	out := make([]T, n)
	for i := range out {
		out[i] = x
	}
	return out
}

// may says what the chapter says of a step.
func may(s api.Step) bool {
	keeps := len(s.Keeps) <= 64
	for _, n := range s.Keeps {
		keeps = keeps && n >= 0 && n <= 1<<40
	}
	session, number := s.Session >= 0 && s.Session <= 255, s.N >= 0 && s.N <= 1<<40
	switch s.Kind {
	case api.StepInvoke:
		return session && s.N == 0 && len(s.Bytes) <= 16384 && len(s.Keeps) == 0
	case api.StepStep:
		return session && s.N == 0 && len(s.Bytes) == 0 && len(s.Keeps) == 0
	case api.StepTick, api.StepFuse, api.StepRoom:
		return s.Session == 0 && number && len(s.Bytes) == 0 && len(s.Keeps) == 0
	case api.StepCrash:
		return s.Session == 0 && s.N == 0 && len(s.Bytes) == 0 && keeps
	case api.StepOpen, api.StepCheckpoint:
		return s.Session == 0 && s.N == 0 && len(s.Bytes) == 0 && len(s.Keeps) == 0
	}
	return false
}

// written gives a step's bytes, whether it may be or not.
func written(s api.Step) []byte {
	b := pack.Num(nil, s.Kind)
	switch s.Kind {
	case api.StepInvoke:
		b = pack.Text(pack.Num(b, s.Session), string(s.Bytes))
	case api.StepStep:
		b = pack.Num(b, s.Session)
	case api.StepTick, api.StepFuse, api.StepRoom:
		b = pack.Num(b, s.N)
	case api.StepCrash:
		b = pack.Num(b, len(s.Keeps))
		for _, n := range s.Keeps {
			b = pack.Num(b, n)
		}
	}
	return b
}

// text gives b as one text of a script.
func text(b []byte) []byte {
	return pack.Text(nil, string(b))
}

// isStep complains unless b is that step's bytes.
func isStep(t *testing.T, b []byte, s api.Step) {
	t.Helper()
	if got, ok := Step(b); !ok || !Same(got, s) {
		t.Errorf("%.40x is %+v, %v, not %+v", b, got, ok, s)
	}
	if l := Parse(text(b)); len(l) != 1 || !Same(l[0], s) {
		t.Errorf("the script of %.40x is %+v", b, l)
	}
}

// isNone complains if b is a step's bytes.
func isNone(t *testing.T, b []byte) {
	t.Helper()
	if got, ok := Step(b); ok || !reflect.DeepEqual(got, api.Step{}) {
		t.Errorf("%.40x is %+v, %v", b, got, ok)
	}
	if l := Parse(text(b)); len(l) != 0 {
		t.Errorf("the script of %.40x is %+v", b, l)
	}
}

// holds complains unless a step is put and read, if it may be, and passed over, if not.
func holds(t *testing.T, s api.Step) {
	t.Helper()
	b := Put([]api.Step{s})
	if !may(s) {
		if len(b) != 0 {
			t.Errorf("Put of %+v is %.40x", s, b)
		}
		return
	}
	if !bytes.Equal(b, text(written(s))) {
		t.Errorf("Put of %+v is %.40x", s, b)
	}
	isStep(t, written(s), s)
}

func TestTheExample(t *testing.T) {
	s := api.Step{Kind: api.StepStep, Session: 1}
	if b := Put([]api.Step{s}); !bytes.Equal(b, []byte{2, 2, 1}) {
		t.Errorf("%x", b)
	}
	isStep(t, []byte{2, 1}, s)
}

// TestBytes: one of each kind, spelt out.
func TestBytes(t *testing.T) {
	for _, c := range []struct {
		s api.Step
		b []byte
	}{
		{api.Step{Kind: api.StepInvoke, Session: 255, Bytes: []byte{7, 8}}, []byte{1, 0xf0, 255, 2, 7, 8}},
		{api.Step{Kind: api.StepInvoke}, []byte{1, 0, 0}},
		{api.Step{Kind: api.StepStep, Session: 7}, []byte{2, 7}},
		{api.Step{Kind: api.StepTick, N: 256}, []byte{3, 0xf1, 1, 0}},
		{api.Step{Kind: api.StepCrash}, []byte{4, 0}},
		{api.Step{Kind: api.StepCrash, Keeps: []int{3, 0, 240}}, []byte{4, 3, 3, 0, 0xf0, 240}},
		{api.Step{Kind: api.StepOpen}, []byte{5}},
		{api.Step{Kind: api.StepFuse, N: 9}, []byte{6, 9}},
		{api.Step{Kind: api.StepCheckpoint}, []byte{7}},
		{api.Step{Kind: api.StepRoom, N: 1 << 40}, []byte{8, 0xf5, 1, 0, 0, 0, 0, 0}},
	} {
		if b := Put([]api.Step{c.s}); !bytes.Equal(b, text(c.b)) || !may(c.s) {
			t.Errorf("Put of %+v: %x, not %x", c.s, b, c.b)
		}
		isStep(t, c.b, c.s)
		for n := range c.b {
			isNone(t, c.b[:n])
		}
		for _, more := range [][]byte{{0}, {1}, {255}, c.b} {
			isNone(t, slices.Concat(c.b, more))
		}
	}
}

// TestFields: each kind with each field at its ends and one beyond, whether it has it or not.
func TestFields(t *testing.T) {
	for _, kind := range kinds {
		for _, n := range numbers {
			holds(t, api.Step{Kind: kind, Session: n})
			holds(t, api.Step{Kind: kind, N: n})
			holds(t, api.Step{Kind: kind, Session: n, N: n})
			holds(t, api.Step{Kind: kind, Keeps: []int{n}})
			holds(t, api.Step{Kind: kind, Keeps: []int{5, n, 5}})
			holds(t, api.Step{Kind: kind, Keeps: []int{n, 5}, N: 1})
		}
		for _, n := range []int{0, 1, 239, 240, 16383, 16384, 16385, 1<<15 - 3, 1 << 15, 1 << 16} {
			holds(t, api.Step{Kind: kind, Bytes: times(n, byte(9))})
			holds(t, api.Step{Kind: kind, Session: 255, Bytes: times(n, byte(0))})
			holds(t, api.Step{Kind: kind, Bytes: times(n, byte(0)), N: 1})
		}
		for _, n := range []int{0, 1, 63, 64, 65, 66, 240} {
			holds(t, api.Step{Kind: kind, Keeps: times(n, 1<<40)})
			holds(t, api.Step{Kind: kind, Keeps: times(n, 0)})
			holds(t, api.Step{Kind: kind, Keeps: times(n, 0), Bytes: []byte{1}})
		}
	}
	holds(t, api.Step{})
}

// TestBytesOfNoStep: what could be read as a step that may not be is none.
func TestBytesOfNoStep(t *testing.T) {
	for _, kind := range kinds {
		if kind < 1 || kind > 8 {
			isNone(t, pack.Num(nil, kind))
			isNone(t, pack.Num(pack.Num(nil, kind), 0))
		}
	}
	for _, s := range []api.Step{
		{Kind: api.StepInvoke, Session: 256},
		{Kind: api.StepInvoke, Session: math.MaxInt},
		{Kind: api.StepInvoke, Bytes: times(16385, byte(0))},
		{Kind: api.StepStep, Session: 256},
		{Kind: api.StepTick, N: 1<<40 + 1},
		{Kind: api.StepFuse, N: 1<<40 + 1},
		{Kind: api.StepRoom, N: math.MaxInt},
		{Kind: api.StepCrash, Keeps: times(65, 0)},
		{Kind: api.StepCrash, Keeps: []int{0, 1<<40 + 1}},
		{Kind: api.StepCrash, Keeps: []int{math.MaxInt, 0}},
	} {
		isNone(t, written(s))
	}
	for _, b := range [][]byte{
		nil, {}, {0}, {0, 0}, {0, 0, 0},
		{2, 0xf0, 239},  // a number that could be shorter
		{2, 0xf8, 1},    // one of no form
		{0xf0, 2, 1},    // a kind that could be shorter
		{1, 0, 3, 1, 2}, // a text that is cut off
		{4, 2, 1},       // a list that is cut off
		{4, 0xf7, 255, 255, 255, 255, 255, 255, 255, 255}, // far too many
		{4, 0xf7, 127, 255, 255, 255, 255, 255, 255, 255},
		{5, 0}, {7, 0},
	} {
		isNone(t, b)
	}
}

// TestPut: those that may be, one behind the other.
func TestPut(t *testing.T) {
	for _, l := range [][]api.Step{nil, {}, {{}}, {{Kind: 99}, {Kind: api.StepOpen, N: 1}}} {
		if b := Put(l); len(b) != 0 {
			t.Errorf("Put of %+v: %x", l, b)
		}
	}
	l := []api.Step{
		{Kind: api.StepStep, Session: -1}, {Kind: api.StepOpen}, {Kind: api.StepOpen, Session: 1}, {Kind: api.StepTick, N: 3},
		{}, {Kind: api.StepOpen}, {Kind: api.StepCrash, Keeps: []int{-1}}, {Kind: api.StepStep, Session: 256},
	}
	b := Put(l)
	if want := []byte{1, 5, 2, 3, 3, 1, 5}; !bytes.Equal(b, want) {
		t.Errorf("%x, not %x", b, want)
	}
	if got := Parse(b); len(got) != 3 || !Same(got[0], l[1]) || !Same(got[1], l[3]) || !Same(got[2], l[5]) {
		t.Errorf("%+v", got)
	}
}

// TestParsePassesOver: texts that no step is, but not what stands behind one that ends too early.
func TestParsePassesOver(t *testing.T) {
	open := []byte{1, 5}
	for _, c := range []struct {
		why   string
		b     []byte
		count int
	}{
		{"nothing", nil, 0},
		{"no bytes", []byte{}, 0},
		{"one", open, 1},
		{"an empty text", slices.Concat([]byte{0}, open), 1},
		{"empty texts", slices.Concat(times(1000, byte(0)), open, []byte{0}, open, []byte{0}), 2},
		{"a text that no step is", slices.Concat(open, []byte{1, 9}, open), 2},
		{"a step with something behind it", slices.Concat(open, []byte{2, 5, 5}, open), 2},
		{"a step that is cut off", slices.Concat(open, []byte{1, 2}, open), 2},
		{"a text that is cut off", slices.Concat(open, []byte{2, 5}), 1},
		{"a text that takes up what is behind it", slices.Concat(open, []byte{3}, open), 1},
		{"a length that is cut off", slices.Concat(open, []byte{0xf1, 0}), 1},
		{"a length that could be shorter", slices.Concat(open, []byte{0xf0, 1, 5}, open), 1},
		{"a length of no form", slices.Concat(open, []byte{0xff}, open), 1},
		{"a length of no number", slices.Concat(open, []byte{0xf7}, times(8, byte(255)), open), 1},
		{"2^15 bytes", slices.Concat(open, text(times(1<<15, byte(5))), open), 2},
		{"2^15 bytes and one more", slices.Concat(open, text(times(1<<15+1, byte(5))), open), 1},
		{"2^15 bytes, cut off", slices.Concat(open, text(times(1<<15, byte(5)))[:1<<15]), 1},
		{"the longest step", slices.Concat(open, text(written(api.Step{Kind: api.StepInvoke, Session: 255, Bytes: times(16384, byte(1))})), open), 3},
		{"one too long", slices.Concat(open, text(written(api.Step{Kind: api.StepInvoke, Session: 255, Bytes: times(16385, byte(1))})), open), 2},
	} {
		if l := Parse(c.b); len(l) != c.count {
			t.Errorf("%s: %d steps, not %d", c.why, len(l), c.count)
		}
	}
}

// TestSame: each field parts, and empty lists are as none.
func TestSame(t *testing.T) {
	full := func() api.Step {
		return api.Step{Kind: 1, Session: 2, N: 3, Bytes: []byte{4, 5}, Keeps: []int{6, 7}}
	}
	if !Same(full(), full()) || !Same(api.Step{}, api.Step{}) {
		t.Error("the same is not the same")
	}
	for i, change := range []func(s *api.Step){
		func(s *api.Step) { s.Kind = math.MinInt },
		func(s *api.Step) { s.Session++ },
		func(s *api.Step) { s.N = -3 },
		func(s *api.Step) { s.Bytes[0]++ },
		func(s *api.Step) { s.Bytes[1]++ },
		func(s *api.Step) { s.Bytes = s.Bytes[:1] },
		func(s *api.Step) { s.Bytes = append(s.Bytes, 0) },
		func(s *api.Step) { s.Bytes = nil },
		func(s *api.Step) { s.Keeps[0]++ },
		func(s *api.Step) { s.Keeps[1]++ },
		func(s *api.Step) { s.Keeps = s.Keeps[:1] },
		func(s *api.Step) { s.Keeps = append(s.Keeps, 0) },
		func(s *api.Step) { s.Keeps = nil },
		func(s *api.Step) { s.Keeps = []int{7, 6} },
	} {
		s := full()
		change(&s)
		if Same(s, full()) || Same(full(), s) {
			t.Errorf("change %d: the same", i)
		}
	}
	none := api.Step{Kind: 5}
	for _, s := range []api.Step{{Kind: 5, Bytes: []byte{}}, {Kind: 5, Keeps: []int{}}, {Kind: 5, Bytes: []byte{}, Keeps: make([]int, 0, 9)}} {
		if !Same(s, none) || !Same(none, s) {
			t.Errorf("%+v is not as none", s)
		}
		if !bytes.Equal(Put([]api.Step{s}), []byte{1, 5}) {
			t.Errorf("%+v is passed over", s)
		}
	}
}

// TestNewMemory: nothing that is handed in is changed, or shared.
func TestNewMemory(t *testing.T) {
	l := []api.Step{{Kind: api.StepInvoke, Bytes: []byte{1, 2, 3}}, {Kind: api.StepCrash, Keeps: []int{4, 5}}}
	b := Put(l)
	l[0].Bytes[0], l[1].Keeps[0] = 9, 9
	want := []byte{6, 1, 0, 3, 1, 2, 3, 4, 4, 2, 4, 5}
	if !bytes.Equal(b, want) {
		t.Errorf("%x", b)
	}
	got := Parse(b)
	one, _ := Step(b[1:7])
	for i := range b {
		b[i] = 77
	}
	if !bytes.Equal(got[0].Bytes, []byte{1, 2, 3}) || !slices.Equal(got[1].Keeps, []int{4, 5}) || !bytes.Equal(one.Bytes, []byte{1, 2, 3}) {
		t.Errorf("%+v, %+v", got, one)
	}
	b = slices.Clone(want)
	got, again := Parse(b), Parse(b)
	_ = append(got[0].Bytes[:1], 66, 66, 66, 66)
	got[1].Keeps[0] = 66
	if !bytes.Equal(b, want) || !bytes.Equal(again[0].Bytes, []byte{1, 2, 3}) || again[1].Keeps[0] != 4 {
		t.Errorf("%x, %+v", b, again)
	}
	room := append(make([]byte, 0, 100), want...)
	Parse(room)
	Step(room[1:7])
	for _, c := range room[len(want):cap(room)] {
		if c != 0 {
			t.Fatal("something was laid behind the bytes")
		}
	}
}

// roundTrip complains unless what is put of what is read is read as the same.
func roundTrip(t *testing.T, b []byte) []api.Step {
	t.Helper()
	l := Parse(b)
	put := Put(l)
	if again := Parse(put); !slices.EqualFunc(l, again, Same) || !bytes.Equal(Put(again), put) || len(put) > len(b) {
		t.Fatalf("%x is %+v, put and read %+v", b, l, again)
	}
	for _, s := range l {
		if !may(s) {
			t.Fatalf("%x has %+v", b, s)
		}
	}
	return l
}

// TestAllShortBytes: every script of up to four bytes of those that matter.
func TestAllShortBytes(t *testing.T) {
	l := []byte{0, 1, 2, 3, 4, 5, 6, 7, 8, 9, 239, 240, 241, 247, 248, 255}
	count := 0
	var every func(b []byte)
	every = func(b []byte) {
		count += len(roundTrip(t, b))
		if s, ok := Step(b); ok && (!may(s) || !bytes.Equal(written(s), b)) {
			t.Fatalf("%x is %+v", b, s)
		}
		if len(b) < 4 {
			for _, c := range l {
				every(append(slices.Clone(b), c))
			}
		}
	}
	every(nil)
	if count < 500 {
		t.Error("too little was seen:", count)
	}
}

// anyStep gives a step, more often than not one that may be.
func anyStep(r *rand.Rand) api.Step {
	s := api.Step{Kind: 1 + r.Intn(8)}
	switch s.Kind {
	case api.StepInvoke:
		s.Session, s.Bytes = r.Intn(256), []byte(string(times(r.Intn(300), byte(r.Intn(256)))))
	case api.StepStep:
		s.Session = r.Intn(256)
	case api.StepTick, api.StepFuse, api.StepRoom:
		s.N = r.Intn(1 << uint(1+r.Intn(40)))
	case api.StepCrash:
		for range r.Intn(65) {
			s.Keeps = append(s.Keeps, r.Intn(1<<uint(1+r.Intn(40))))
		}
	}
	switch r.Intn(20) {
	case 0:
		s.Kind = numbers[r.Intn(len(numbers))]
	case 1:
		s.N = numbers[r.Intn(len(numbers))]
	case 2:
		s.Session = numbers[r.Intn(len(numbers))]
	case 3:
		s.Keeps = append(s.Keeps, numbers[r.Intn(len(numbers))])
	}
	return s
}

// TestParseOfPut: the steps that may be, whatever stood among them.
func TestParseOfPut(t *testing.T) {
	r := rand.New(rand.NewSource(34))
	over := 0
	for range 1000 {
		var l, want []api.Step
		for range r.Intn(20) {
			s := anyStep(r)
			l = append(l, s)
			if may(s) {
				want = append(want, s)
			}
		}
		over += len(l) - len(want)
		b := Put(l)
		if got := Parse(b); !slices.EqualFunc(got, want, Same) {
			t.Fatalf("%+v, not %+v", got, want)
		}
		for range 20 { // and one byte of it turned, or what is behind some byte cut off
			if len(b) > 0 {
				b[r.Intn(len(b))] ^= byte(1 << r.Intn(8))
				roundTrip(t, b[:r.Intn(len(b)+1)])
			}
		}
	}
	if over < 300 {
		t.Error("too little was seen:", over)
	}
}

// TestAnyBytes: whatever bytes these are, they are a script.
func TestAnyBytes(t *testing.T) {
	r := rand.New(rand.NewSource(341))
	if e := quick.Check(func(b []byte) bool { roundTrip(t, b); return true }, &quick.Config{Rand: r, MaxCount: 2000}); e != nil {
		t.Error(e)
	}
	count := 0
	for range 3000 {
		b := make([]byte, r.Intn(200))
		for i := range b {
			b[i] = byte(r.Intn(1 + r.Intn(10)))
		}
		count += len(roundTrip(t, b))
	}
	if count < 3000 {
		t.Error("too little was seen:", count)
	}
}

// FuzzParse is for the fuzzer; without it, it runs these alone.
func FuzzParse(f *testing.F) {
	f.Add([]byte{2, 2, 1})
	f.Add([]byte{0, 4, 4, 2, 3, 4, 6, 1, 0, 3, 1, 2, 3})
	f.Fuzz(func(t *testing.T, b []byte) { roundTrip(t, b) })
}
