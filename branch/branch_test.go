package branch

import (
	"bytes"
	"math"
	"math/rand"
	"reflect"
	"slices"
	"strings"
	"testing"

	"usher/api"
	"usher/event"
)

// listOf gives a value that has memory of its own.
func listOf(s string) api.Value {
	return api.Value{Kind: api.VList, List: []api.Value{{Kind: api.VText, Text: s}}}
}

// some are events that may be, all of the Time 0.
func some() []api.Event {
	return []api.Event{
		{Kind: api.EvStarted, Due: 300, Name: "t", Value: listOf("in"), Policy: api.Policy{First: 1, Coef: 1 << 62, Most: 9}},
		{Kind: api.EvScheduled, Num: 1},
		{Kind: api.EvTaken, Due: 9},
		{Kind: api.EvSignaled, Name: "s", Value: listOf("s")},
		{Kind: api.EvDone},
		{Kind: api.EvMarker, Value: listOf("m")},
		{Kind: api.EvTaskFailed, Num: 10, Name: "why?"},
	}
}

// long gives n events that may be, each one later than the one ahead.
func long(n int) []api.Event {
	var h []api.Event
	for i := range n {
		l := some()
		e := l[i%len(l)]
		e.Time = i * 2
		h = append(h, e)
	}
	return h
}

// with gives long(n) with one event, of that place, changed.
func with(n, at int, change func(e *api.Event)) []api.Event {
	h := long(n)
	change(&h[at])
	return h
}

// wrongs are ways in which an event may not be.
func wrongs() map[string]func(e *api.Event) {
	return map[string]func(e *api.Event){
		"the zero event": func(e *api.Event) { *e = api.Event{} },
		"kind 20":        func(e *api.Event) { *e = api.Event{Kind: 20, Time: e.Time} },
		"time below 0":   func(e *api.Event) { *e = api.Event{Kind: api.EvDone, Time: -1} },
		"time too late":  func(e *api.Event) { *e = api.Event{Kind: api.EvDone, Time: api.MaxTime + 1} },
		"no name":        func(e *api.Event) { *e = api.Event{Kind: api.EvFired, Time: e.Time, Name: "a b"} },
		"a name of 25":   func(e *api.Event) { *e = api.Event{Kind: api.EvFired, Time: e.Time, Name: strings.Repeat("a", 25)} },
		"a text of 201":  func(e *api.Event) { *e = api.Event{Kind: api.EvFailed, Time: e.Time, Name: strings.Repeat("a", 201)} },
		"run 11":         func(e *api.Event) { *e = api.Event{Kind: api.EvTaskFailed, Time: e.Time, Num: 11} },
		"a field too many": func(e *api.Event) {
			*e = api.Event{Kind: api.EvDone, Time: e.Time, Value: listOf("a")}
		},
	}
}

func TestCheckOfLengths(t *testing.T) {
	for n, want := range map[int]api.Errno{0: api.OK, 1: api.OK, 2: api.OK, 119: api.OK, 120: api.OK, 121: api.ErrFull, 1000: api.ErrFull} {
		if got := Check(long(n)); got != want {
			t.Errorf("%d events: %d, not %d", n, got, want)
		}
	}
	if Check(nil) != api.OK || Check([]api.Event{}) != api.OK {
		t.Error("no events")
	}
}

func TestCheckOfEvents(t *testing.T) {
	for why, change := range wrongs() {
		for _, n := range []int{1, 2, 9, 120} {
			for _, at := range []int{0, n / 2, n - 1} {
				if got := Check(with(n, at, change)); got != api.ErrArg {
					t.Errorf("%s at %d of %d: %d", why, at, n, got)
				}
			}
		}
		for _, at := range []int{0, 60, 119, 120} {
			if got := Check(with(121, at, change)); got != api.ErrFull {
				t.Errorf("%s at %d of 121: %d, but there are too many first of all", why, at, got)
			}
		}
	}
}

func TestCheckOfTimes(t *testing.T) {
	shift := func(by int) func(e *api.Event) { return func(e *api.Event) { e.Time += by } }
	for _, at := range []int{1, 60, 119} {
		if got := Check(with(120, at, shift(-2))); got != api.OK {
			t.Errorf("a time that stays the same at %d: %d", at, got)
		}
		if got := Check(with(120, at, shift(-3))); got != api.ErrArg {
			t.Errorf("a time that falls at %d: %d", at, got)
		}
	}
	for _, at := range []int{0, 60, 118} {
		if got := Check(with(120, at, shift(2))); got != api.OK {
			t.Errorf("a time that stays the same behind %d: %d", at, got)
		}
		if got := Check(with(120, at, shift(3))); got != api.ErrArg {
			t.Errorf("a time that falls behind %d: %d", at, got)
		}
	}
	if got := Check([]api.Event{{Kind: api.EvDone, Time: api.MaxTime}, {Kind: api.EvDone, Time: api.MaxTime}}); got != api.OK {
		t.Errorf("the latest time twice: %d", got)
	}
	if got := Check(with(121, 60, shift(-3))); got != api.ErrFull {
		t.Errorf("too many, and a time that falls: %d", got)
	}
}

func TestBytes(t *testing.T) {
	h := []api.Event{
		{Kind: api.EvTaken, Time: 5, Due: 9},
		{Kind: api.EvTaken, Time: 5, Due: 9, Num: 1},
		{},
		{Kind: api.EvFired, Time: 1, Name: "ab"},
		{Kind: 20, Time: 1},
	}
	want := [][]byte{{3, 5, 9}, nil, nil, {10, 1, 2, 'a', 'b'}, nil}
	got := Bytes(h)
	if !slices.EqualFunc(got, want, bytes.Equal) {
		t.Fatalf("%v, not %v", got, want)
	}
	got[0][0] = 99
	if !slices.EqualFunc(Bytes(h), want, bytes.Equal) {
		t.Error("the bytes are not the caller's alone")
	}
	for _, n := range []int{0, 1, 120, 121} {
		l := Bytes(long(n))
		if len(l) != n {
			t.Errorf("%d events: %d rows of bytes", n, len(l))
		}
		for i, e := range long(n) {
			if b, _ := event.Encode(e); !bytes.Equal(l[i], b) {
				t.Errorf("event %d of %d: %v", i, n, l[i])
			}
		}
	}
	if len(Bytes(nil)) != 0 || len(Bytes([]api.Event{})) != 0 {
		t.Error("of no events there are no bytes")
	}
}

func TestReadOfLengths(t *testing.T) {
	for n, want := range map[int]api.Errno{0: api.OK, 1: api.OK, 120: api.OK, 121: api.ErrFull, 500: api.ErrFull} {
		h, e := Read(Bytes(long(n)))
		if e != want {
			t.Errorf("%d events: %d, not %d", n, e, want)
		}
		if want == api.OK && !reflect.DeepEqual(h, long(n)) || want != api.OK && len(h) != 0 {
			t.Errorf("%d events: %v", n, h)
		}
	}
	if h, e := Read(make([][]byte, 121)); e != api.ErrFull || len(h) != 0 {
		t.Errorf("121 rows of no bytes: %d, but there are too many first of all", e)
	}
	if h, e := Read([][]byte{}); e != api.OK || len(h) != 0 {
		t.Errorf("no rows: %v, %d", h, e)
	}
}

// torn are bytes that are no event's, and what they are told.
func torn() map[string]api.Errno {
	return map[string]api.Errno{
		"":              api.ErrShort,
		"\x03\x05":      api.ErrShort,
		"\x03\x05\x09a": api.ErrForm,
		"\x00\x05":      api.ErrForm,
		"\x14\x05":      api.ErrLong,
	}
}

func TestReadOfTornBytes(t *testing.T) {
	for b, want := range torn() {
		if _, e := event.Decode([]byte(b)); e != want {
			t.Fatalf("%x: %d", b, e)
		}
		for _, n := range []int{1, 2, 9, 120} {
			for _, at := range []int{0, n / 2, n - 1} {
				l := Bytes(long(n))
				l[at] = []byte(b)
				if h, e := Read(l); e != want || len(h) != 0 {
					t.Errorf("%x at %d of %d: %v, %d, not %d", b, at, n, h, e, want)
				}
			}
		}
		for c := range torn() {
			l := Bytes(long(9))
			l[3], l[7] = []byte(b), []byte(c)
			if h, e := Read(l); e != want || len(h) != 0 {
				t.Errorf("%x ahead of %x: %v, %d, not %d", b, c, h, e, want)
			}
		}
	}
}

func TestReadTakesTimesThatFall(t *testing.T) {
	h := with(9, 4, func(e *api.Event) { e.Time = 0 })
	if g, e := Read(Bytes(h)); e != api.OK || !reflect.DeepEqual(g, h) {
		t.Errorf("%v, %d", g, e)
	}
}

func TestReadKeepsNothing(t *testing.T) {
	l := Bytes(long(9))
	h, _ := Read(l)
	for _, b := range l {
		clear(b)
	}
	if !reflect.DeepEqual(h, long(9)) {
		t.Error("events changed with the bytes that they were read of")
	}
}

// spoil changes all that events share with others, if they do.
func spoil(h []api.Event) {
	for i := range h {
		for j := range h[i].Value.List {
			h[i].Value.List[j].Text = "spoilt"
		}
		h[i].Name, h[i].Time = "spoilt", -1
	}
	spare := h[len(h):cap(h)]
	for i := range spare {
		spare[i].Name = "spoilt"
	}
}

func TestFork(t *testing.T) {
	for _, n := range []int{0, 1, 2, 9, 120, 121} {
		for keep, want := range map[int]int{math.MinInt: 0, -1: 0, 0: 0, 1: min(1, n), n - 1: max(n-1, 0), n: n, n + 1: n, 2*n + 5: n, math.MaxInt: n} {
			h := long(n)
			g := Fork(h, keep)
			if len(g) != want || !slices.EqualFunc(g, long(n)[:want], event.Same) {
				t.Fatalf("the first %d of %d: %v", keep, n, g)
			}
			spoil(g)
			if !reflect.DeepEqual(h, long(n)) {
				t.Fatalf("the first %d of %d share memory with the history", keep, n)
			}
			g = Fork(h, keep)
			spoil(h)
			if !slices.EqualFunc(g, long(n)[:want], event.Same) {
				t.Fatalf("the first %d of %d change with the history", keep, n)
			}
		}
	}
	// An event that may not be is kept as it is.
	h := []api.Event{{Kind: 77, Value: api.Value{Kind: 9, List: []api.Value{{Text: "a"}}}}}
	if !reflect.DeepEqual(Fork(h, 1), h) {
		t.Error("an event that may not be")
	}
}

func TestFind(t *testing.T) {
	h := []api.Event{{Kind: api.EvStarted, Name: "t"}, {Kind: api.EvScheduled, Num: 1}, {Kind: api.EvTaken}, {Kind: api.EvDone}}
	if got := Find(h, api.EvDone); !slices.Equal(got, []int{4}) {
		t.Errorf("%v, not 4", got)
	}
	h = append(long(21), api.Event{Kind: 0}, api.Event{Kind: 20}, api.Event{Kind: -1}, api.Event{Kind: 20})
	for kind, want := range map[int][]int{
		api.EvStarted: {1, 8, 15}, api.EvDone: {5, 12, 19}, api.EvTaskFailed: {7, 14, 21},
		api.EvTimer: nil, api.EvTimedOut: nil, 0: {22}, 20: {23, 25}, -1: {24}, 21: nil, math.MaxInt: nil, math.MinInt: nil,
	} {
		if got := Find(h, kind); !slices.Equal(got, want) {
			t.Errorf("kind %d: %v, not %v", kind, got, want)
		}
		if len(Find(nil, kind)) != 0 || len(Find([]api.Event{}, kind)) != 0 {
			t.Errorf("kind %d of no events", kind)
		}
	}
}

func TestAfter(t *testing.T) {
	h := append(long(21), api.Event{Kind: 20, Name: "no event", Value: listOf("x")})
	for _, kind := range []int{api.EvStarted, api.EvSignaled, api.EvTaskFailed, api.EvTimer, 0, 20, -1, math.MaxInt} {
		numbers := Find(h, kind)
		for _, id := range []int{math.MinInt, -1, 0, 1, 3, 4, 5, 10, 11, 20, 21, 22, 23, math.MaxInt} {
			var want []api.Event
			for _, n := range numbers {
				if n > id {
					want = append(want, h[n-1])
				}
			}
			got := After(h, id, kind)
			if len(got) != len(want) || len(want) > 0 && !reflect.DeepEqual(got, want) {
				t.Errorf("kind %d behind %d: %v, not %v", kind, id, got, want)
			}
		}
	}
	if len(After(nil, 0, api.EvDone)) != 0 || len(After([]api.Event{}, -1, api.EvDone)) != 0 {
		t.Error("of no events")
	}
	got := After(h, 3, api.EvSignaled)
	if len(got) != 3 || got[0].Time != 6 || got[1].Time != 20 || got[2].Time != 34 {
		t.Fatalf("%v", got)
	}
	spoil(got)
	if !reflect.DeepEqual(h[:21], long(21)) {
		t.Error("what After gave shares memory with the history")
	}
}

func TestCommonAndSame(t *testing.T) {
	h := long(120)
	other := func(n, at int) []api.Event {
		return with(n, at, func(e *api.Event) { e.Value = listOf("another") })
	}
	for _, c := range []struct {
		why  string
		a, b []api.Event
		want int
		same bool
	}{
		{"nil and nil", nil, nil, 0, true},
		{"nil and none", nil, []api.Event{}, 0, true},
		{"none and none", []api.Event{}, []api.Event{}, 0, true},
		{"nil and one", nil, long(1), 0, false},
		{"none and one", []api.Event{}, long(1), 0, false},
		{"one and one", long(1), long(1), 1, true},
		{"all", h, long(120), 120, true},
		{"more than there may be", long(130), long(130), 130, true},
		{"a beginning", h, h[:1], 1, false},
		{"all but the last", h, h[:119], 119, false},
		{"another first one", h, other(120, 0), 0, false},
		{"another second one", h, other(120, 1), 1, false},
		{"another one within", h, other(120, 60), 60, false},
		{"another last one", h, other(120, 119), 119, false},
		{"another one within a beginning", h, other(9, 4), 4, false},
		{"without the first one", h, h[1:], 0, false},
		{"an empty list and none", []api.Event{{Value: api.Value{List: []api.Value{}}}}, []api.Event{{}}, 1, true},
		{"two zeros", []api.Event{{Value: api.Value{Kind: api.VFloat}}}, []api.Event{{Value: api.Value{Kind: api.VFloat, Bits: 1 << 63}}}, 0, false},
	} {
		if got := Common(c.a, c.b); got != c.want {
			t.Errorf("%s: %d in common, not %d", c.why, got, c.want)
		}
		if got := Common(c.b, c.a); got != c.want {
			t.Errorf("%s, turned round: %d in common, not %d", c.why, got, c.want)
		}
		if Same(c.a, c.b) != c.same || Same(c.b, c.a) != c.same {
			t.Errorf("%s: Same is not %v", c.why, c.same)
		}
	}
}

func TestEachFieldCounts(t *testing.T) {
	for why, change := range map[string]func(e *api.Event){
		"Kind": func(e *api.Event) { e.Kind++ }, "Time": func(e *api.Event) { e.Time++ }, "Num": func(e *api.Event) { e.Num++ },
		"Due": func(e *api.Event) { e.Due++ }, "Name": func(e *api.Event) { e.Name += "a" },
		"Value": func(e *api.Event) { e.Value.Int++ }, "List": func(e *api.Event) { e.Value.List = append(e.Value.List, api.Value{}) },
		"First": func(e *api.Event) { e.Policy.First++ }, "Coef": func(e *api.Event) { e.Policy.Coef++ }, "Most": func(e *api.Event) { e.Policy.Most++ },
	} {
		for at := range 7 {
			g := with(7, at, change)
			if Same(g, long(7)) || Common(g, long(7)) != at {
				t.Errorf("%s of event %d does not count", why, at)
			}
		}
	}
}

func TestReadOfBytesAndForks(t *testing.T) {
	r := rand.New(rand.NewSource(15))
	for range 300 {
		var h []api.Event
		for range r.Intn(121) {
			l := some()
			e := l[r.Intn(len(l))]
			e.Time = r.Intn(1000)
			h = append(h, e)
		}
		g, e := Read(Bytes(h))
		if e != api.OK || !Same(g, h) || len(h) > 0 && !reflect.DeepEqual(g, h) {
			t.Fatalf("%v: %v, %d", h, g, e)
		}
		keep := r.Intn(len(h) + 1)
		if f := Fork(h, keep); Common(h, f) != keep || Common(f, h) != keep || len(f) != keep {
			t.Fatalf("a fork of %d events has %d in common", keep, Common(h, f))
		}
	}
}

func TestNothingHandedInIsChanged(t *testing.T) {
	h, g := long(20), long(19)
	Check(h)
	Bytes(h)
	Find(h, api.EvDone)
	After(h, 0, api.EvDone)
	Fork(h, 9)
	Common(h, g)
	Same(h, g)
	if !reflect.DeepEqual(h, long(20)) || !reflect.DeepEqual(g, long(19)) {
		t.Error("a history was changed")
	}
	l := Bytes(h)
	Read(l)
	if !slices.EqualFunc(l, Bytes(h), bytes.Equal) {
		t.Error("bytes were changed")
	}
}
