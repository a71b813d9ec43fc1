package fold

import (
	"math"
	"math/rand"
	"reflect"
	"slices"
	"strings"
	"testing"

	"usher/api"
	"usher/branch"
	"usher/event"
	"usher/state"
)

// The limits, as the document has them.
const (
	latest  = 1 << 40
	lastDue = 1 << 41
)

// listOf gives a value that has memory of its own.
func listOf(s string) api.Value {
	return api.Value{Kind: api.VList, List: []api.Value{{Kind: api.VText, Text: s}}}
}

func policyOf() api.Policy {
	return api.Policy{First: 10, Coef: 1 << 62, Most: 350}
}

// whole is a legal history in which each kind stands that may come ahead of a run's end, and the end.
func whole() []api.Event {
	return []api.Event{
		{Kind: api.EvStarted, Due: 900, Name: "t", Value: listOf("in"), Policy: policyOf()},
		{Kind: api.EvScheduled, Num: 1},
		{Kind: api.EvTaken, Time: 2, Due: 9},
		{Kind: api.EvSignaled, Time: 3, Name: "s", Value: listOf("s")},
		{Kind: api.EvDone, Time: 4},
		{Kind: api.EvTimer, Time: 4, Name: "b", Due: 8},
		{Kind: api.EvTimer, Time: 4, Name: "a", Due: 7},
		{Kind: api.EvTimer, Time: 4, Name: "c", Due: 50},
		{Kind: api.EvAccepted, Time: 4, Name: "u", Value: listOf("u")},
		{Kind: api.EvScheduled, Time: 4, Num: 1, Due: 4},
		{Kind: api.EvTaken, Time: 5, Due: 7},
		{Kind: api.EvTaskTimed, Time: 7},
		{Kind: api.EvScheduled, Time: 7, Num: 2, Due: 17},
		{Kind: api.EvFired, Time: 7, Name: "a"},
		{Kind: api.EvTaken, Time: 17, Due: 30},
		{Kind: api.EvTaskFailed, Time: 18, Num: 3, Name: "why?"},
		{Kind: api.EvScheduled, Time: 18, Num: 3, Due: 38},
		{Kind: api.EvCancel, Time: 19},
		{Kind: api.EvTaken, Time: 38, Due: 60},
		{Kind: api.EvDone, Time: 39},
		{Kind: api.EvTimerOff, Time: 39, Name: "b"},
		{Kind: api.EvMarker, Time: 39, Value: listOf("m")},
		{Kind: api.EvOutcome, Time: 39, Name: "u", Value: listOf("out")},
		{Kind: api.EvCompleted, Time: 39, Value: listOf("end")},
	}
}

// short is how many events of whole come ahead of the run's end.
const short = 23

// running is the state behind all of whole but its end.
func running() api.State {
	return api.State{
		Run: 4, Status: api.StRunning, Count: 23, Time: 39, Deadline: 900, From: 3, Signals: 1,
		Type: "t", Input: listOf("in"), Policy: policyOf(), Cancel: true,
		Timers:  []api.Timer{{Name: "c", Due: 50}},
		Updates: []api.Update{{Name: "u", Value: listOf("u"), Stage: 2, Outcome: listOf("out")}},
	}
}

// long gives a legal history of n events.
func long(n int) []api.Event {
	h := whole()[:min(n, short)]
	for len(h) < n {
		h = append(h, api.Event{Kind: api.EvMarker, Time: 30 + len(h), Value: listOf("m")})
	}
	return h
}

// with gives long(n) with another event at one place.
func with(n, at int, e api.Event) []api.Event {
	h := long(n)
	h[at] = e
	return h
}

// statuses are what a history of n events without an end is traced to.
func statuses(n int) []int {
	return slices.Repeat([]int{api.StRunning}, n)
}

// wrongs are events that may nowhere come in whole, and what state tells of them.
func wrongs() map[string]struct {
	e    api.Event
	code api.Errno
} {
	return map[string]struct {
		e    api.Event
		code api.Errno
	}{
		"the zero event":     {api.Event{}, api.ErrArg},
		"no kind":            {api.Event{Kind: 20, Time: latest}, api.ErrArg},
		"a kind below 0":     {api.Event{Kind: math.MinInt}, api.ErrArg},
		"a time below 0":     {api.Event{Kind: api.EvDone, Time: math.MinInt}, api.ErrArg},
		"a time too late":    {api.Event{Kind: api.EvDone, Time: math.MaxInt}, api.ErrArg},
		"a due too late":     {api.Event{Kind: api.EvTaken, Time: latest, Due: lastDue + 1}, api.ErrArg},
		"no attempt":         {api.Event{Kind: api.EvScheduled, Time: latest}, api.ErrArg},
		"run 11":             {api.Event{Kind: api.EvTaskFailed, Time: latest, Num: 11}, api.ErrArg},
		"no name":            {api.Event{Kind: api.EvFired, Time: latest}, api.ErrArg},
		"a text too long":    {api.Event{Kind: api.EvFailed, Time: latest, Name: strings.Repeat("x", 201)}, api.ErrArg},
		"a field too many":   {api.Event{Kind: api.EvMarker, Time: latest, Num: 1}, api.ErrArg},
		"a value of no kind": {api.Event{Kind: api.EvMarker, Time: latest, Value: api.Value{Kind: 5}}, api.ErrArg},
		"no such timer":      {api.Event{Kind: api.EvFired, Time: latest, Name: "z"}, api.ErrEvent},
		"no such update":     {api.Event{Kind: api.EvOutcome, Time: latest, Name: "z"}, api.ErrEvent},
		"timed out early":    {api.Event{Kind: api.EvTimedOut, Time: 899}, api.ErrEvent},
	}
}

// hold tells whether a call answered just that.
func hold(t *testing.T, why string, s api.State, n int, code api.Errno, wantS api.State, wantN int, wantCode api.Errno) {
	t.Helper()
	if n != wantN || code != wantCode {
		t.Errorf("%s: %d done and %d, not %d and %d", why, n, code, wantN, wantCode)
	}
	if !state.Same(s, wantS) {
		t.Errorf("%s: the state is\n%+v, not\n%+v", why, s, wantS)
	}
}

// stepped gives the state behind events that may all come.
func stepped(t *testing.T, s api.State, l []api.Event) api.State {
	t.Helper()
	for i, e := range l {
		x, code := state.Step(s, e)
		if code != api.OK {
			t.Fatalf("event %d, %s: %d", i+1, event.Name(e.Kind), code)
		}
		s = x
	}
	return s
}

func TestBuild(t *testing.T) {
	s, n, code := Build(4, whole()[:short])
	hold(t, "a history without its end", s, n, code, running(), 23, api.OK)
	want := running()
	want.Status, want.Count, want.Timers, want.Result = api.StCompleted, 24, nil, listOf("end")
	s, n, code = Build(4, whole())
	hold(t, "a whole history", s, n, code, want, 24, api.OK)
	s, n, code = Build(1, whole()[:3])
	hold(t, "the document's example", s, n, code, api.State{
		Run: 1, Status: api.StRunning, Count: 3, Time: 2, Deadline: 900, Type: "t", Input: listOf("in"), Policy: policyOf(),
		Task: api.Task{State: api.TaskTaken, Attempt: 1, Due: 9, Event: 3, Seen: 3},
	}, 3, api.OK)
}

func TestBuildOfRuns(t *testing.T) {
	for run, may := range map[int]bool{math.MinInt: false, -1: false, 0: false, 1: true, 2: true, 9: true, 10: true, 11: false, math.MaxInt: false} {
		for _, h := range [][]api.Event{nil, {}, long(1), whole(), long(120), long(121), {{}}} {
			s, n, code := Build(run, h)
			if !may {
				hold(t, "a run that may not be", s, n, code, api.State{}, 0, api.ErrArg)
				if Legal(run, h) || len(Trace(run, h)) != 0 {
					t.Errorf("run %d: what may not be is legal, or traced", run)
				}
				continue
			}
			x, m, want := Extend(api.State{Run: run}, h)
			hold(t, "a run that may be", s, n, code, x, m, want)
			if s.Run != run || Legal(run, h) != (code == api.OK && len(h) > 0) || len(Trace(run, h)) != n {
				t.Errorf("run %d of %d events", run, len(h))
			}
		}
	}
}

func TestLengths(t *testing.T) {
	for _, n := range []int{0, 1, 2, 23, 119, 120, 121, 122, 500} {
		done, want := min(n, 120), api.OK
		if n > 120 {
			want = api.ErrFull
		}
		s, m, code := Build(7, long(n))
		hold(t, "a history", s, m, code, stepped(t, api.State{Run: 7}, long(done)), done, want)
		if s.Count != done || state.Can(s) != (n > 0) {
			t.Errorf("of %d events Count is %d", n, s.Count)
		}
		if Legal(7, long(n)) != (n > 0 && n <= 120) {
			t.Errorf("%d events: Legal is wrong", n)
		}
		if l := Trace(7, long(n)); !slices.Equal(l, statuses(done)) {
			t.Errorf("%d events are traced to %v", n, l)
		}
	}
	if Legal(1, nil) || Legal(1, []api.Event{}) || !Legal(1, long(1)) || Legal(1, whole()[1:2]) {
		t.Error("a history is legal of one event on, the first being the start")
	}
}

func TestEventsThatMayNotCome(t *testing.T) {
	for why, wrong := range wrongs() {
		for _, n := range []int{1, 2, 23, 120} {
			for _, at := range []int{0, n / 2, n - 1} {
				h := with(n, at, wrong.e)
				s, m, code := Build(2, h)
				hold(t, why, s, m, code, stepped(t, api.State{Run: 2}, h[:at]), at, wrong.code)
				if Legal(2, h) {
					t.Errorf("%s at %d of %d is legal", why, at, n)
				}
				if l := Trace(2, h); !slices.Equal(l, statuses(at)) {
					t.Errorf("%s at %d of %d is traced to %v", why, at, n, l)
				}
			}
		}
	}
	for _, c := range []struct {
		why  string
		h    []api.Event
		done int
		code api.Errno
	}{
		{"none has started", whole()[1:], 0, api.ErrEvent},
		{"started twice", with(23, 9, whole()[0]), 9, api.ErrEvent},
		{"a time that falls", with(23, 21, api.Event{Kind: api.EvMarker, Time: 38}), 21, api.ErrEvent},
		{"behind its end", append(whole(), api.Event{Kind: api.EvMarker, Time: 39}), 24, api.ErrEvent},
		{"two that may not come", append(with(23, 5, api.Event{Kind: api.EvTimer, Time: 4}), whole()[0]), 5, api.ErrArg},
		{"the same two, turned round", append(with(23, 5, whole()[0]), api.Event{}), 5, api.ErrEvent},
		{"one that may not be behind the last", append(long(120), api.Event{}), 120, api.ErrArg},
	} {
		s, n, code := Build(5, c.h)
		hold(t, c.why, s, n, code, stepped(t, api.State{Run: 5}, c.h[:c.done]), c.done, c.code)
		if l := Trace(5, c.h); len(l) != c.done {
			t.Errorf("%s: traced to %v", c.why, l)
		}
	}
}

func TestOneThatStopsGoesOnWithNothing(t *testing.T) {
	// All behind the first that may not come might come, if it were passed by.
	h := with(60, 30, api.Event{})
	if s, n, code := Build(1, h); n != 30 || s.Count != 30 || code != api.ErrArg {
		t.Error(n, s.Count, code)
	}
	l := []api.Event{{Kind: api.EvMarker, Time: 40}, {Kind: api.EvDone, Time: 41}, {}, {Kind: api.EvMarker, Time: 42}}
	s, n, code := Extend(running(), l)
	want := running()
	want.Count, want.Time = 24, 40
	hold(t, "the first error counts", s, n, code, want, 1, api.ErrEvent)
}

func TestExtend(t *testing.T) {
	lists := [][]api.Event{nil, {}, whole(), whole()[1:], {{Kind: api.EvTerminated, Time: 50, Name: "why?"}}, {{}}}
	for _, l := range lists {
		s, n, code := Extend(running(), l)
		switch {
		case len(l) == 0:
			hold(t, "no events", s, n, code, running(), 0, api.OK)
		case l[0].Kind == api.EvTerminated:
			want := running()
			want.Status, want.Count, want.Time, want.Timers, want.Reason = api.StTerminated, 24, 50, nil, "why?"
			hold(t, "an end", s, n, code, want, 1, api.OK)
		case l[0].Kind == 0:
			hold(t, "an event that may not be", s, n, code, running(), 0, api.ErrArg)
		default:
			hold(t, "events that may not come", s, n, code, running(), 0, api.ErrEvent)
		}
	}
	s, n, code := Extend(api.State{}, whole()[:short])
	want := running()
	want.Run = 0
	hold(t, "of the zero state", s, n, code, want, 23, api.OK)
	s, n, code = Extend(api.State{}, whole()[1:])
	hold(t, "of the zero state by what does not start", s, n, code, api.State{}, 0, api.ErrEvent)
}

func TestExtendOfStatesThatCannotBe(t *testing.T) {
	marker := api.Event{Kind: api.EvMarker, Time: 50}
	markers := slices.Repeat([]api.Event{marker}, 4)
	for _, c := range []struct {
		why    string
		change func(s *api.State)
		done   int
		code   api.Errno
	}{
		{"run 0", func(s *api.State) { s.Run = 0 }, 4, api.OK},
		{"run 11", func(s *api.State) { s.Run = 11 }, 4, api.OK},
		{"the greatest run", func(s *api.State) { s.Run = math.MaxInt }, 4, api.OK},
		{"a Count below 0", func(s *api.State) { s.Count = -2 }, 2, api.ErrEvent},
		{"the least Count", func(s *api.State) { s.Count = math.MinInt }, 4, api.OK},
		{"the greatest Count", func(s *api.State) { s.Count = math.MaxInt }, 0, api.ErrFull},
		{"a Count of 118", func(s *api.State) { s.Count = 118 }, 2, api.ErrFull},
		{"the least Time", func(s *api.State) { s.Time = math.MinInt }, 4, api.OK},
		{"the greatest Time", func(s *api.State) { s.Time = math.MaxInt }, 0, api.ErrEvent},
		{"no Status", func(s *api.State) { s.Status = 0 }, 0, api.ErrEvent},
		{"Status 7", func(s *api.State) { s.Status = 7 }, 0, api.ErrEvent},
		{"a Type that is no name", func(s *api.State) { s.Type = "a b" }, 4, api.OK},
		{"a Task of no kind", func(s *api.State) { s.Task.State = 9 }, 4, api.OK},
		{"timers that fall", func(s *api.State) { s.Timers = []api.Timer{{Name: "b"}, {Name: "a"}, {}} }, 4, api.OK},
	} {
		s := running()
		c.change(&s)
		want := running()
		c.change(&want)
		if c.done > 0 {
			want.Count, want.Time = want.Count+c.done, 50
		}
		x, n, code := Extend(s, markers)
		hold(t, c.why, x, n, code, want, c.done, c.code)
		ahead := running()
		c.change(&ahead)
		if !reflect.DeepEqual(s, ahead) {
			t.Errorf("%s: the state that was handed in has changed", c.why)
		}
		y, n, code := Extend(s, nil)
		hold(t, c.why+", by no events", y, n, code, s, 0, api.OK)
	}
}

func TestTrace(t *testing.T) {
	ends := []struct {
		e      api.Event
		status int
	}{
		{api.Event{Kind: api.EvCompleted, Time: 39}, api.StCompleted},
		{api.Event{Kind: api.EvFailed, Time: 39}, api.StFailed},
		{api.Event{Kind: api.EvCanceled, Time: 39}, api.StCanceled},
		{api.Event{Kind: api.EvTerminated, Time: 39}, api.StTerminated},
		{api.Event{Kind: api.EvTimedOut, Time: 900}, api.StTimedOut},
	}
	for _, c := range ends {
		h := append(long(short), c.e)
		want := append(statuses(short), c.status)
		if l := Trace(10, h); !slices.Equal(l, want) || !Legal(10, h) {
			t.Errorf("%s: %v", event.Name(c.e.Kind), l)
		}
		if l := Trace(10, append(h, c.e)); !slices.Equal(l, want) || Legal(10, append(h, c.e)) {
			t.Errorf("%s, and an event behind it: %v", event.Name(c.e.Kind), l)
		}
	}
	if len(Trace(1, nil)) != 0 || len(Trace(1, []api.Event{})) != 0 || len(Trace(1, whole()[1:])) != 0 {
		t.Error("nothing is traced where nothing is done")
	}
	l := Trace(1, whole())
	l[0] = 99
	if l := Trace(1, whole()); l[0] != api.StRunning {
		t.Error("a trace is not the caller's alone")
	}
}

// spoilValue changes what a value shares with others, if it does.
func spoilValue(v api.Value) {
	for i := range v.List {
		v.List[i].Text = "spoilt"
	}
}

// spoil changes what a state shares with others, if it does.
func spoil(s api.State) {
	spoilValue(s.Input)
	spoilValue(s.Result)
	for i := range s.Timers {
		s.Timers[i].Name = "spoilt"
	}
	for i, u := range s.Updates {
		spoilValue(u.Value)
		spoilValue(u.Outcome)
		s.Updates[i].Name = "spoilt"
	}
}

func TestNothingIsShared(t *testing.T) {
	for n := range len(whole()) + 1 {
		h := whole()[:n]
		s, _, _ := Build(4, h)
		spoil(s)
		if !reflect.DeepEqual(h, whole()[:n]) {
			t.Fatalf("what Build of %d events gave shares memory with them", n)
		}
		s, _, _ = Build(4, h)
		want := stepped(t, api.State{Run: 4}, whole()[:n])
		for i := range h {
			spoilValue(h[i].Value)
			h[i].Name = "spoilt"
		}
		if !state.Same(s, want) {
			t.Fatalf("what Build of %d events gave changes with them", n)
		}
	}
	for _, l := range [][]api.Event{nil, {}, {{}}, {{Kind: api.EvDone, Time: 40}}, {{Kind: api.EvMarker, Time: 40}}, {{Kind: api.EvTerminated, Time: 40}}, {{Kind: api.EvMarker, Time: 40}, {}}} {
		s := running()
		ahead := branch.Fork(l, len(l))
		x, _, _ := Extend(s, l)
		spoil(x)
		if !reflect.DeepEqual(s, running()) || !branch.Same(l, ahead) {
			t.Errorf("what Extend by %d events gave shares memory with what was handed in", len(l))
		}
		x, _, _ = Extend(s, l)
		y, _, _ := Extend(running(), l)
		spoil(s)
		if !state.Same(x, y) {
			t.Errorf("what Extend by %d events gave changes with what was handed in", len(l))
		}
	}
	h := whole()
	Legal(1, h)
	Trace(1, h)
	if !reflect.DeepEqual(h, whole()) {
		t.Error("a history was changed")
	}
}

// twoParts holds a history built at once against it built in two parts, wherever it is cut.
func twoParts(t *testing.T, run int, h []api.Event) {
	t.Helper()
	whole, done, want := Build(run, h)
	for cut := range len(h) + 1 {
		s, n, code := Build(run, branch.Fork(h, cut))
		if cut > done {
			hold(t, "a beginning that stops", s, n, code, whole, done, want)
			continue
		}
		if n != cut || code != api.OK || s.Count != cut {
			t.Fatalf("the first %d of %d: %d done, Count %d, %d", cut, len(h), n, s.Count, code)
		}
		x, n, code := Extend(s, h[cut:])
		hold(t, "two parts", x, cut+n, code, whole, done, want)
	}
}

func TestTwoParts(t *testing.T) {
	twoParts(t, 4, whole())
	twoParts(t, 1, long(120))
	twoParts(t, 1, long(123))
	for _, wrong := range wrongs() {
		for _, at := range []int{0, 1, 11, 22} {
			twoParts(t, 10, with(23, at, wrong.e))
		}
	}
}

// anyEvent gives an event that may be, and in many states may come.
func anyEvent(r *rand.Rand, at int) api.Event {
	name := string(rune('a' + r.Intn(3)))
	l := []api.Event{
		{Kind: api.EvScheduled, Num: 1 + r.Intn(3), Due: r.Intn(50)},
		{Kind: api.EvTaken, Due: at + r.Intn(4)},
		{Kind: api.EvDone},
		{Kind: api.EvTaskFailed, Num: r.Intn(3)},
		{Kind: api.EvTaskTimed},
		{Kind: api.EvSignaled, Name: name, Value: listOf(name)},
		{Kind: api.EvCancel},
		{Kind: api.EvTimer, Name: name, Due: at + r.Intn(4)},
		{Kind: api.EvFired, Name: name},
		{Kind: api.EvTimerOff, Name: name},
		{Kind: api.EvAccepted, Name: name, Value: listOf(name)},
		{Kind: api.EvOutcome, Name: name, Value: listOf(name)},
		{Kind: api.EvMarker, Value: listOf(name)},
		{Kind: api.EvCompleted},
	}
	e := l[r.Intn(len(l))]
	e.Time = at
	return e
}

// anyHistory gives a legal history, made by trying events.
func anyHistory(t *testing.T, r *rand.Rand, tries int) []api.Event {
	t.Helper()
	h := []api.Event{{Kind: api.EvStarted, Name: "t", Value: listOf("in")}}
	s := stepped(t, api.State{Run: 1}, h)
	for range tries {
		e := anyEvent(r, s.Time+r.Intn(2))
		if x, code := state.Step(s, e); code == api.OK {
			s, h = x, append(h, e)
		}
	}
	return h
}

// TestAnyHistory: what Build makes of a legal history can be, has counted its events, and is made of its parts.
func TestAnyHistory(t *testing.T) {
	r := rand.New(rand.NewSource(17))
	for range 150 {
		h := anyHistory(t, r, r.Intn(200))
		run := 1 + r.Intn(10)
		s, n, code := Build(run, h)
		hold(t, "a history", s, n, code, stepped(t, api.State{Run: run}, h), len(h), api.OK)
		if !state.Can(s) || s.Count != len(h) || s.Run != run || !Legal(run, h) {
			t.Fatalf("of %d events: %+v", len(h), s)
		}
		cut := r.Intn(len(h) + 1)
		x, _, _ := Build(run, h[:cut])
		y, n, code := Extend(x, h[cut:])
		hold(t, "its parts", y, n, code, s, len(h)-cut, api.OK)
		if l := Trace(run, h); len(l) != len(h) || l[len(l)-1] != s.Status {
			t.Fatalf("traced to %v", l)
		}
		h[r.Intn(len(h))].Kind = 0
		twoParts(t, run, h)
	}
}
