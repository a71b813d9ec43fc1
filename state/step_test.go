package state

import (
	"fmt"
	"math"
	"math/rand"
	"reflect"
	"testing"

	"usher/api"
	"usher/event"
)

// stepped is a step, what it is told, and what it changes beside Count and Time.
type stepped struct {
	why  string
	s    api.State
	e    api.Event
	code api.Errno
	want func(s *api.State)
}

func nothing(*api.State) {}

// fresh makes that there is something that no worker has seen.
func fresh(s *api.State) { s.Fresh = true }

// stale makes that there is nothing such.
func stale(s *api.State) { s.Fresh = false }

func free(s *api.State) { s.Task = api.Task{} }

func waiting(s *api.State) { s.Task = api.Task{State: api.TaskWaits, Attempt: 7, Due: 90} }

func uncanceled(s *api.State) { s.Cancel = false }

// seen makes that the run may be completed.
func seen(s *api.State) {
	free(s)
	stale(s)
}

// stepAll takes each step, and holds every field of what is told against what is wanted.
func stepAll(t *testing.T, l []stepped) {
	t.Helper()
	for _, c := range l {
		ahead := Clone(c.s)
		want := Clone(c.s)
		if c.code == api.OK {
			c.want(&want)
			want.Count, want.Time = want.Count+1, c.e.Time
		}
		got, code := Step(c.s, c.e)
		if code != c.code {
			t.Errorf("%s: %d, not %d", c.why, code, c.code)
			continue
		}
		if !reflect.DeepEqual(lean(got), lean(want)) {
			t.Errorf("%s: it is\n%+v, not\n%+v", c.why, got, want)
		}
		if !Same(c.s, ahead) {
			t.Errorf("%s: the state that was handed in has changed", c.why)
		}
	}
}

// lean gives the state without empty lists.
func lean(s api.State) api.State {
	if len(s.Timers) == 0 {
		s.Timers = nil
	}
	if len(s.Updates) == 0 {
		s.Updates = nil
	}
	return s
}

func TestStarted(t *testing.T) {
	e := api.Event{Kind: api.EvStarted, Time: 5, Due: 77, Name: "t", Value: listOf("in"), Policy: api.Policy{First: 1, Coef: two, Most: 9}}
	start := func(s *api.State) {
		s.Status, s.Fresh = api.StRunning, true
		s.Type, s.Input, s.Deadline, s.Policy = "t", listOf("in"), 77, api.Policy{First: 1, Coef: two, Most: 9}
	}
	unstarted := of(func(s *api.State) { s.Count, s.Time, s.Fresh = 0, 5, false })
	l := []stepped{
		{"of the zero state", api.State{}, e, api.OK, start},
		{"of a run alone", api.State{Run: 10}, e, api.OK, start},
		{"of any state of no events", unstarted, e, api.OK, start},
		{"without a deadline", api.State{Run: 1, Deadline: 3}, api.Event{Kind: api.EvStarted, Name: "u"}, api.OK, func(s *api.State) {
			s.Status, s.Type, s.Deadline, s.Fresh = api.StRunning, "u", 0, true
		}},
		{"of a Time that is later", api.State{Time: 6}, e, api.ErrEvent, nil},
		{"twice", usual(), api.Event{Kind: api.EvStarted, Time: 100, Name: "t"}, api.ErrEvent, nil},
	}
	for _, count := range []int{math.MinInt, -1, 1, 119} {
		l = append(l, stepped{fmt.Sprint("of ", count, " events"), api.State{Count: count}, e, api.ErrEvent, nil})
	}
	for _, count := range []int{120, 121, math.MaxInt} {
		l = append(l, stepped{fmt.Sprint("of ", count, " events"), api.State{Count: count}, e, api.ErrFull, nil})
	}
	for status := api.StRunning; status <= api.StTimedOut; status++ {
		l = append(l, stepped{"of no events, but a Status", api.State{Status: status}, e, api.OK, start})
		l = append(l, stepped{"of one event, and a Status", api.State{Status: status, Count: 1}, e, api.ErrEvent, nil})
	}
	stepAll(t, l)
}

func TestTasks(t *testing.T) {
	scheduled := api.Event{Kind: api.EvScheduled, Time: 100, Num: lastTry, Due: 300}
	taken := api.Event{Kind: api.EvTaken, Time: 100, Due: 301}
	failed := api.Event{Kind: api.EvTaskFailed, Time: 100, Name: "why"}
	timed := api.Event{Kind: api.EvTaskTimed, Time: 110}
	done := api.Event{Kind: api.EvDone, Time: 100}
	from := func(n int) api.Event { return api.Event{Kind: api.EvTaskFailed, Time: 100, Num: n} }
	stepAll(t, []stepped{
		{"scheduled", of(free), scheduled, api.OK, func(s *api.State) {
			s.Task = api.Task{State: api.TaskWaits, Attempt: lastTry, Due: 300}
		}},
		{"scheduled, nothing fresh", of(seen), scheduled, api.OK, func(s *api.State) {
			s.Task = api.Task{State: api.TaskWaits, Attempt: lastTry, Due: 300}
		}},
		{"scheduled twice", of(waiting), scheduled, api.ErrEvent, nil},
		{"scheduled, when taken", usual(), scheduled, api.ErrEvent, nil},
		{"taken", of(waiting), taken, api.OK, func(s *api.State) {
			s.Task = api.Task{State: api.TaskTaken, Attempt: 7, Due: 301, Event: 21, Seen: 21}
			s.Fresh = false
		}},
		{"taken ahead of its Due", of(waiting, func(s *api.State) { s.Task.Due = 900 }), taken, api.OK, func(s *api.State) {
			s.Task = api.Task{State: api.TaskTaken, Attempt: 7, Due: 301, Event: 21, Seen: 21}
			s.Fresh = false
		}},
		{"the last event", of(waiting, func(s *api.State) { s.Count = 119 }), taken, api.OK, func(s *api.State) {
			s.Task = api.Task{State: api.TaskTaken, Attempt: 7, Due: 301, Event: 120, Seen: 120}
			s.Fresh = false
		}},
		{"taken, none there", of(free), taken, api.ErrEvent, nil},
		{"taken twice", usual(), taken, api.ErrEvent, nil},
		{"done", usual(), done, api.OK, free},
		{"done, nothing fresh", of(stale), done, api.OK, free},
		{"done, none there", of(free), done, api.ErrEvent, nil},
		{"done, when it waits", of(waiting), done, api.ErrEvent, nil},
		{"failed", usual(), failed, api.OK, free},
		{"failed, none there", of(free), failed, api.ErrEvent, nil},
		{"failed, when it waits", of(waiting), failed, api.ErrEvent, nil},
		{"set back from 1", usual(), from(1), api.OK, func(s *api.State) { s.Task, s.From = api.Task{}, 1 }},
		{"set back from 10", usual(), from(10), api.OK, func(s *api.State) { s.Task, s.From = api.Task{}, 10 }},
		{"set back from 11", usual(), from(11), api.ErrArg, nil},
		{"set back, none there", of(free), from(1), api.ErrEvent, nil},
		{"timed, just at its Due", usual(), timed, api.OK, free},
		{"timed behind its Due", usual(), api.Event{Kind: api.EvTaskTimed, Time: latest}, api.OK, free},
		{"timed ahead of its Due", of(func(s *api.State) { s.Task.Due = 111 }), timed, api.ErrEvent, nil},
		{"timed, none there", of(free), timed, api.ErrEvent, nil},
		{"timed, when it waits", of(waiting), timed, api.ErrEvent, nil},
	})
}

func TestSignalsAndSuch(t *testing.T) {
	signaled := api.Event{Kind: api.EvSignaled, Time: 100, Name: "s", Value: text("v")}
	cancel := api.Event{Kind: api.EvCancel, Time: 100}
	marker := api.Event{Kind: api.EvMarker, Time: 100, Value: text("v")}
	signal := func(s *api.State) { s.Signals, s.Fresh = s.Signals+1, true }
	stepAll(t, []stepped{
		{"signaled", usual(), signaled, api.OK, signal},
		{"signaled, nothing fresh", of(seen), signaled, api.OK, signal},
		{"the first signal", of(seen, func(s *api.State) { s.Signals = 0 }), signaled, api.OK, signal},
		{"asked to cancel", of(seen, uncanceled), cancel, api.OK, func(s *api.State) { s.Cancel, s.Fresh = true, true }},
		{"asked to cancel, when taken", of(stale, uncanceled), cancel, api.OK, func(s *api.State) { s.Cancel, s.Fresh = true, true }},
		{"asked to cancel twice", usual(), cancel, api.ErrEvent, nil},
		{"a marker", usual(), marker, api.OK, nothing},
		{"a marker, nothing fresh", of(seen), marker, api.OK, nothing},
	})
}

func TestTimers(t *testing.T) {
	timer := func(name string) api.Event { return api.Event{Kind: api.EvTimer, Time: 100, Name: name, Due: 55} }
	fired := func(name string, at int) api.Event { return api.Event{Kind: api.EvFired, Time: at, Name: name} }
	off := func(name string) api.Event { return api.Event{Kind: api.EvTimerOff, Time: 100, Name: name} }
	set := func(names string) func(s *api.State) { return func(s *api.State) { s.Timers = timersOf(names) } }
	b, d, f := usual().Timers[0], usual().Timers[1], usual().Timers[2]
	timers := func(l ...api.Timer) func(s *api.State) { return func(s *api.State) { s.Timers = l } }
	stepAll(t, []stepped{
		{"the first of all", usual(), timer("a"), api.OK, timers(api.Timer{Name: "a", Due: 55}, b, d, f)},
		{"between", usual(), timer("c"), api.OK, timers(b, api.Timer{Name: "c", Due: 55}, d, f)},
		{"the last of all", usual(), timer("g"), api.OK, timers(b, d, f, api.Timer{Name: "g", Due: 55})},
		{"by bytes", usual(), timer("G"), api.OK, timers(api.Timer{Name: "G", Due: 55}, b, d, f)},
		{"behind a beginning", usual(), timer("bb"), api.OK, timers(b, api.Timer{Name: "bb", Due: 55}, d, f)},
		{"the only one", of(seen, timers()), timer("g"), api.OK, timers(api.Timer{Name: "g", Due: 55})},
		{"there already", usual(), timer("d"), api.ErrEvent, nil},
		{"the tenth", of(set("bcdefghij")), timer("a"), api.OK, func(s *api.State) {
			s.Timers = append([]api.Timer{{Name: "a", Due: 55}}, timersOf("bcdefghij")...)
		}},
		{"the eleventh", of(set("abcdefghij")), timer("k"), api.ErrFull, nil},
		{"ten, and there already", of(set("abcdefghij")), timer("j"), api.ErrEvent, nil},
		{"one of more than there may be", of(set("abcdefghijkl")), timer("m"), api.ErrFull, nil},

		{"fired just at its Due", usual(), fired("d", 101), api.OK, timers(b, f)},
		{"fired ahead of its Due", usual(), fired("d", 100), api.ErrEvent, nil},
		{"fired behind its Due", usual(), fired("b", 100), api.OK, timers(d, f)},
		{"the last one fired", usual(), fired("f", latest), api.OK, timers(b, d)},
		{"fired, nothing fresh", of(seen), fired("b", 100), api.OK, func(s *api.State) { s.Timers, s.Fresh = []api.Timer{d, f}, true }},
		{"the only one fired", of(timers(b)), fired("b", 100), api.OK, timers()},
		{"none such fired", usual(), fired("c", latest), api.ErrEvent, nil},
		{"none at all fired", of(timers()), fired("c", latest), api.ErrEvent, nil},

		{"taken back", usual(), off("b"), api.OK, timers(d, f)},
		{"taken back ahead of its Due", usual(), off("f"), api.OK, timers(b, d)},
		{"taken back, nothing fresh", of(seen), off("d"), api.OK, timers(b, f)},
		{"the only one taken back", of(timers(b)), off("b"), api.OK, timers()},
		{"none such taken back", usual(), off("a"), api.ErrEvent, nil},
		{"none at all taken back", of(timers()), off("a"), api.ErrEvent, nil},
	})
}

func TestUpdates(t *testing.T) {
	accept := func(name string) api.Event {
		return api.Event{Kind: api.EvAccepted, Time: 100, Name: name, Value: listOf("new")}
	}
	outcome := func(name string) api.Event {
		return api.Event{Kind: api.EvOutcome, Time: 100, Name: name, Value: listOf("out")}
	}
	b, d := usual().Updates[0], usual().Updates[1]
	made := func(name string) api.Update { return api.Update{Name: name, Value: listOf("new"), Stage: 1} }
	updates := func(l ...api.Update) func(s *api.State) { return func(s *api.State) { s.Updates = l } }
	set := func(names string) func(s *api.State) { return func(s *api.State) { s.Updates = updatesOf(names) } }
	stepAll(t, []stepped{
		{"the first of all", usual(), accept("a"), api.OK, updates(made("a"), b, d)},
		{"between", usual(), accept("c"), api.OK, updates(b, made("c"), d)},
		{"the last of all", usual(), accept("e"), api.OK, updates(b, d, made("e"))},
		{"by bytes", usual(), accept("E"), api.OK, updates(made("E"), b, d)},
		{"nothing fresh", of(seen), accept("e"), api.OK, updates(b, d, made("e"))},
		{"the only one", of(updates()), accept("e"), api.OK, updates(made("e"))},
		{"there already", usual(), accept("b"), api.ErrEvent, nil},
		{"there already, with its outcome", usual(), accept("d"), api.ErrEvent, nil},
		{"the tenth", of(set("abcdefghi")), accept("j"), api.OK, func(s *api.State) { s.Updates = append(s.Updates, made("j")) }},
		{"the eleventh", of(set("abcdefghij")), accept("k"), api.ErrFull, nil},
		{"ten, and there already", of(set("abcdefghij")), accept("a"), api.ErrEvent, nil},
		{"one of more than there may be", of(set("abcdefghijkl")), accept("m"), api.ErrFull, nil},

		{"an outcome", usual(), outcome("b"), api.OK, updates(api.Update{Name: "b", Value: listOf("b"), Stage: 2, Outcome: listOf("out")}, d)},
		{"an outcome, nothing fresh", of(seen), outcome("b"), api.OK, updates(api.Update{Name: "b", Value: listOf("b"), Stage: 2, Outcome: listOf("out")}, d)},
		{"an outcome of nothing", usual(), api.Event{Kind: api.EvOutcome, Time: 100, Name: "b"}, api.OK, updates(api.Update{Name: "b", Value: listOf("b"), Stage: 2}, d)},
		{"a second outcome", usual(), outcome("d"), api.ErrEvent, nil},
		{"an outcome for none", usual(), outcome("c"), api.ErrEvent, nil},
		{"an outcome, none at all", of(updates()), outcome("c"), api.ErrEvent, nil},
		{"an outcome at stage 0", of(func(s *api.State) { s.Updates[0].Stage = 0 }), outcome("b"), api.ErrEvent, nil},
		{"an outcome at stage 3", of(func(s *api.State) { s.Updates[0].Stage = 3 }), outcome("b"), api.ErrEvent, nil},
	})
}

func TestEnds(t *testing.T) {
	completed := api.Event{Kind: api.EvCompleted, Time: 100, Value: listOf("out")}
	failed := api.Event{Kind: api.EvFailed, Time: 100, Name: "why?"}
	canceled := api.Event{Kind: api.EvCanceled, Time: 100}
	terminated := api.Event{Kind: api.EvTerminated, Time: 100, Name: "why?"}
	timedOut := func(at int) api.Event { return api.Event{Kind: api.EvTimedOut, Time: at} }
	close := func(status int) func(s *api.State) {
		return func(s *api.State) { s.Status, s.Task, s.Timers = status, api.Task{}, nil }
	}
	l := []stepped{
		{"completed", of(seen), completed, api.OK, func(s *api.State) { close(api.StCompleted)(s); s.Result = listOf("out") }},
		{"completed, not canceled", of(seen, uncanceled), completed, api.OK, func(s *api.State) { close(api.StCompleted)(s); s.Result = listOf("out") }},
		{"completed with nothing", of(seen), api.Event{Kind: api.EvCompleted, Time: 100}, api.OK, close(api.StCompleted)},
		{"failed", of(seen), failed, api.OK, func(s *api.State) { close(api.StFailed)(s); s.Reason = "why?" }},
		{"failed without a reason", of(seen), api.Event{Kind: api.EvFailed, Time: 100}, api.OK, close(api.StFailed)},
		{"canceled", of(seen), canceled, api.OK, close(api.StCanceled)},
		{"canceled, not asked to", of(seen, uncanceled), canceled, api.ErrEvent, nil},

		{"timed out just at its deadline", usual(), timedOut(500), api.OK, close(api.StTimedOut)},
		{"timed out behind its deadline", of(seen), timedOut(501), api.OK, close(api.StTimedOut)},
		{"timed out ahead of its deadline", usual(), timedOut(499), api.ErrEvent, nil},
		{"timed out, no deadline", of(func(s *api.State) { s.Deadline = 0 }), timedOut(500), api.ErrEvent, nil},
		{"timed out, a deadline below 0", of(func(s *api.State) { s.Deadline = -1 }), timedOut(500), api.ErrEvent, nil},
		{"timed out, a deadline of 1", of(func(s *api.State) { s.Deadline = 1 }), timedOut(100), api.OK, close(api.StTimedOut)},
		{"timed out, a deadline that no time reaches", of(func(s *api.State) { s.Deadline = lastDue }), timedOut(latest), api.ErrEvent, nil},

		{"terminated without a reason", of(seen), api.Event{Kind: api.EvTerminated, Time: 100}, api.OK, close(api.StTerminated)},
	}
	for why, change := range map[string]func(s *api.State){"taken": nothing, "fresh": free, "waiting": waiting, "seen": seen, "taken, seen": stale} {
		l = append(l, stepped{"terminated, when " + why, of(change), terminated, api.OK, func(s *api.State) { close(api.StTerminated)(s); s.Reason = "why?" }})
		for _, e := range []api.Event{completed, failed, canceled} {
			if why != "seen" {
				l = append(l, stepped{event.Name(e.Kind) + ", when " + why, of(change), e, api.ErrEvent, nil})
			}
		}
	}
	stepAll(t, l)
}

// comes gives an event of that kind that may come in comesTo(kind), and the Time of that state.
func comes(kind int) api.Event {
	e := api.Event{Kind: kind, Time: 110}
	switch kind {
	case api.EvStarted, api.EvSignaled, api.EvAccepted:
		e.Name, e.Value = "c", listOf("v")
	case api.EvScheduled:
		e.Num, e.Due = 1, 120
	case api.EvTaken:
		e.Due = 120
	case api.EvTimer:
		e.Name = "c"
	case api.EvFired, api.EvTimerOff, api.EvOutcome:
		e.Name = "b"
	case api.EvTimedOut:
		e.Time = 600
	}
	return e
}

func comesTo(kind int) api.State {
	s := usual()
	switch kind {
	case api.EvStarted:
		s = api.State{Run: 1, Time: 100}
	case api.EvScheduled:
		free(&s)
	case api.EvTaken:
		waiting(&s)
	case api.EvCancel:
		uncanceled(&s)
	case api.EvCompleted, api.EvFailed, api.EvCanceled:
		seen(&s)
	}
	s.Time = comes(kind).Time
	return s
}

func TestEveryKind(t *testing.T) {
	for kind := api.EvStarted; kind <= api.EvTimedOut; kind++ {
		step := func(code api.Errno, why string, changes ...func(s *api.State)) {
			t.Helper()
			s := comesTo(kind)
			for _, c := range changes {
				c(&s)
			}
			x, got := Step(s, comes(kind))
			switch {
			case got != code:
				t.Errorf("%s, %s: %d, not %d", event.Name(kind), why, got, code)
			case code != api.OK && !reflect.DeepEqual(x, s):
				t.Errorf("%s, %s: with an error the state is\n%+v, not\n%+v", event.Name(kind), why, x, s)
			case code == api.OK && (x.Count != s.Count+1 || x.Time != comes(kind).Time):
				t.Errorf("%s, %s: Count %d, Time %d", event.Name(kind), why, x.Count, x.Time)
			}
		}
		step(api.OK, "of its Time")
		step(api.OK, "of an earlier Time", func(s *api.State) { s.Time-- })
		step(api.OK, "of a Time below 0", func(s *api.State) { s.Time = math.MinInt })
		step(api.ErrEvent, "of a later Time", func(s *api.State) { s.Time++ })
		for _, count := range []int{120, 121, math.MaxInt} {
			step(api.ErrFull, "when it is full", func(s *api.State) { s.Count = count })
			step(api.ErrFull, "when it is full and closed", func(s *api.State) { s.Count, s.Status = count, api.StFailed })
			step(api.ErrFull, "when it is full and later", func(s *api.State) { s.Count, s.Time = count, latest })
			step(api.ErrFull, "when it is full and has no such task", func(s *api.State) { s.Count, s.Task.State = count, 3 })
		}
		if kind == api.EvStarted {
			continue
		}
		for _, count := range []int{-1, 1, 118, 119} {
			step(api.OK, fmt.Sprint("of ", count, " events"), func(s *api.State) { s.Count = count })
		}
		step(api.ErrEvent, "of no events", func(s *api.State) { s.Count = 0 })
		step(api.ErrEvent, "of no events, and no Status", func(s *api.State) { s.Count, s.Status = 0, api.StNone })
		for status := -1; status <= 7; status++ {
			if status != api.StRunning {
				step(api.ErrEvent, fmt.Sprint("of Status ", status), func(s *api.State) { s.Status = status })
			}
		}
	}
}

func TestStepOfTheZeroState(t *testing.T) {
	for kind := api.EvStarted; kind <= api.EvTimedOut; kind++ {
		want := api.ErrEvent
		if kind == api.EvStarted {
			want = api.OK
		}
		for _, s := range []api.State{{}, {Run: 1}, {Run: 10}} {
			if _, e := Step(s, comes(kind)); e != want {
				t.Errorf("%s: %d, not %d", event.Name(kind), e, want)
			}
		}
	}
}

// TestErrArgComesFirst: an event that may not be is told so, whatever else stands against it.
func TestErrArgComesFirst(t *testing.T) {
	for kind := api.EvStarted; kind <= api.EvTimedOut; kind++ {
		for why, change := range map[string]func(e *api.Event){
			"Time": func(e *api.Event) { e.Time = -1 }, "late": func(e *api.Event) { e.Time = latest + 1 },
			"Num": func(e *api.Event) { e.Num = -1 }, "Due": func(e *api.Event) { e.Due = lastDue + 1 },
			"Name": func(e *api.Event) { e.Name = long(201) }, "Value": func(e *api.Event) { e.Value = nested(5) },
			"Policy": func(e *api.Event) { e.Policy.First = -1 }, "low": func(e *api.Event) { e.Kind = -kind }, "high": func(e *api.Event) { e.Kind += 19 },
		} {
			for _, s := range []api.State{{}, comesTo(kind), usual(), ended(api.StFailed), of(func(s *api.State) { s.Count, s.Time = 120, latest })} {
				e := comes(kind)
				change(&e)
				if x, code := Step(s, e); code != api.ErrArg || !reflect.DeepEqual(x, s) {
					t.Errorf("%s with another %s: %d", event.Name(kind), why, code)
				}
			}
		}
	}
	for _, s := range []api.State{{}, usual()} {
		if x, code := Step(s, api.Event{}); code != api.ErrArg || !reflect.DeepEqual(x, s) {
			t.Error("the zero event", code)
		}
	}
}

// valued gives comes(kind) with a list as Value, if it has a Value.
func valued(kind int) api.Event {
	e := comes(kind)
	switch kind {
	case api.EvStarted, api.EvSignaled, api.EvAccepted, api.EvOutcome, api.EvMarker, api.EvCompleted:
		e.Value = listOf("v")
	}
	return e
}

// TestStepSharesNothing: whatever the kind, what came in and what came out are two things. States and events are made anew each time, since what shares memory would change with each other.
func TestStepSharesNothing(t *testing.T) {
	for kind := api.EvStarted; kind <= api.EvTimedOut; kind++ {
		for i, made := range []func() api.State{func() api.State { return comesTo(kind) }, usual, func() api.State { return ended(api.StCompleted) }} {
			want, _ := Step(made(), valued(kind))
			s, e := made(), valued(kind)
			x, code := Step(s, e)
			if i == 0 && code != api.OK {
				t.Fatalf("%s: %d", event.Name(kind), code)
			}
			spoil(s)
			spoilValue(e.Value)
			if !reflect.DeepEqual(x, want) {
				t.Errorf("%s: what it made changed with what was handed in", event.Name(kind))
			}
			s, e = made(), valued(kind)
			x, _ = Step(s, e)
			spoil(x)
			if !reflect.DeepEqual(s, made()) || !reflect.DeepEqual(e, valued(kind)) {
				t.Errorf("%s: what was handed in changed with what it made", event.Name(kind))
			}
		}
	}
}

// anyEvent gives an event that may be of the state or not, not much later than it.
func anyEvent(r *rand.Rand, s api.State) api.Event {
	e := api.Event{Kind: 1 + r.Intn(19), Time: max(s.Time+r.Intn(6)-1, 0)}
	name := string(rune('a' + r.Intn(14)))
	v := []api.Value{{}, listOf("x"), text("y"), {Kind: api.VInt, Int: r.Intn(9)}}[r.Intn(4)]
	switch e.Kind {
	case api.EvStarted:
		e.Name, e.Value, e.Due = name, v, r.Intn(3)*r.Intn(200)
	case api.EvScheduled:
		e.Num, e.Due = 1+r.Intn(3), s.Time+r.Intn(9)
	case api.EvTaken:
		e.Due = s.Time + r.Intn(9)
	case api.EvTaskFailed:
		e.Num = r.Intn(12)
	case api.EvSignaled, api.EvAccepted, api.EvOutcome:
		e.Name, e.Value = name, v
	case api.EvTimer:
		e.Name, e.Due = name, s.Time+r.Intn(9)
	case api.EvFired, api.EvTimerOff:
		e.Name = name
	case api.EvMarker, api.EvCompleted:
		e.Value = v
	case api.EvFailed, api.EvTerminated:
		e.Name = "why"
		if r.Intn(30) > 0 { // else few runs would come far
			e = api.Event{Kind: api.EvMarker, Time: e.Time}
		}
	}
	return e
}

// TestWhatComesCanBe: of runs of any events that come, each state can be, and goes forward.
func TestWhatComesCanBe(t *testing.T) {
	r := rand.New(rand.NewSource(16))
	came := map[int]int{}
	refused := map[api.Errno]int{}
	for range 1000 {
		s := api.State{Run: 1 + r.Intn(10)}
		for range 400 {
			e := anyEvent(r, s)
			if s.Count == 0 && r.Intn(2) == 0 {
				e = api.Event{Kind: api.EvStarted, Time: 1, Name: "t", Due: 60 * r.Intn(3)}
			}
			x, code := Step(s, e)
			if code != api.OK {
				refused[code]++
				if !reflect.DeepEqual(x, s) {
					t.Fatalf("with an error %+v became %+v", s, x)
				}
				continue
			}
			came[e.Kind]++
			if !Can(x) {
				t.Fatalf("%+v came, and this can't be: %+v", e, x)
			}
			goesForward(t, s, x)
			s = x
		}
	}
	for kind := api.EvStarted; kind <= api.EvTimedOut; kind++ {
		if came[kind] == 0 {
			t.Errorf("%s never came", event.Name(kind))
		}
	}
	for _, code := range []api.Errno{api.ErrArg, api.ErrFull, api.ErrEvent} {
		if refused[code] == 0 {
			t.Errorf("none was told %d", code)
		}
	}
}

func goesForward(t *testing.T, s, x api.State) {
	t.Helper()
	if x.Count != s.Count+1 || x.Time < s.Time || x.Run != s.Run {
		t.Fatalf("%+v became %+v", s, x)
	}
	for _, u := range s.Updates {
		v, ok := Update(x, u.Name)
		if !ok || v.Stage < u.Stage || u.Stage == 2 && !reflect.DeepEqual(u, v) {
			t.Fatalf("the update %+v became %+v", u, v)
		}
	}
}

// TestStepOfEdges: of states at their edges, too, what comes can be.
func TestStepOfEdges(t *testing.T) {
	edge := of(func(s *api.State) {
		s.Run, s.From, s.Count, s.Signals, s.Time, s.Deadline = 10, 10, 119, 119, latest, lastDue
		s.Timers, s.Updates = timersOf("abcdefghij"), updatesOf("abcdefghij")
		s.Task.Event, s.Task.Seen, s.Task.Attempt, s.Task.Due = 119, 119, lastTry, latest
	})
	if !Can(edge) {
		t.Fatal("the edge itself")
	}
	for kind, want := range map[int]api.Errno{
		api.EvStarted: api.ErrEvent, api.EvScheduled: api.ErrEvent, api.EvDone: api.OK, api.EvTaskFailed: api.OK, api.EvTaskTimed: api.OK,
		api.EvSignaled: api.OK, api.EvCancel: api.ErrEvent, api.EvTimer: api.ErrEvent, api.EvFired: api.OK, api.EvTimerOff: api.OK,
		api.EvAccepted: api.ErrEvent, api.EvOutcome: api.OK, api.EvMarker: api.OK, api.EvCompleted: api.ErrEvent, api.EvTerminated: api.OK, api.EvTimedOut: api.ErrEvent,
	} {
		e := comes(kind)
		e.Time = latest
		x, code := Step(edge, e)
		if code != want || !Can(x) {
			t.Errorf("%s: %d, not %d: %+v", event.Name(kind), code, want, x)
		}
	}
}

// TestStepOfWhatCannotBe: any state is stepped by the same words; what they don't speak of stays.
func TestStepOfWhatCannotBe(t *testing.T) {
	odd := api.Task{State: api.TaskNone, Attempt: 5, Due: 6, Event: 7, Seen: 8}
	twice := []api.Update{{Name: "z", Stage: 2, Outcome: text("first")}, {Name: "z", Stage: 1}, {Name: "a", Stage: 1}}
	stepAll(t, []stepped{
		{"a task of none", of(func(s *api.State) { s.Task = odd }), api.Event{Kind: api.EvScheduled, Time: 100, Num: 1}, api.OK, func(s *api.State) {
			s.Task = api.Task{State: api.TaskWaits, Attempt: 1}
		}},
		{"a task's state 3", of(func(s *api.State) { s.Task.State = 3 }), api.Event{Kind: api.EvScheduled, Time: 100, Num: 1}, api.ErrEvent, nil},
		{"an outcome, of two updates of one name", of(func(s *api.State) { s.Updates = twice }), api.Event{Kind: api.EvOutcome, Time: 100, Name: "z", Value: text("out")}, api.OK, func(s *api.State) {
			s.Updates[1].Stage, s.Updates[1].Outcome = 2, text("out")
		}},
		{"two timers of one name", of(func(s *api.State) { s.Timers = timersOf("zbz") }), api.Event{Kind: api.EvFired, Time: 100, Name: "z"}, api.OK, func(s *api.State) {
			s.Timers = timersOf("bz")
		}},
		{"there already, names that fall", of(func(s *api.State) { s.Timers = timersOf("zba") }), api.Event{Kind: api.EvTimer, Time: 100, Name: "a"}, api.ErrEvent, nil},
		{"completed, with a reason", of(seen, func(s *api.State) { s.Reason = "old" }), api.Event{Kind: api.EvCompleted, Time: 100}, api.OK, func(s *api.State) {
			s.Status, s.Timers = api.StCompleted, nil
		}},
		{"failed, with a result", of(seen, func(s *api.State) { s.Result = text("old") }), api.Event{Kind: api.EvFailed, Time: 100, Name: "new"}, api.OK, func(s *api.State) {
			s.Status, s.Timers, s.Reason = api.StFailed, nil, "new"
		}},
		{"signals that wrap round", of(func(s *api.State) { s.Signals = math.MaxInt }), api.Event{Kind: api.EvSignaled, Time: 100, Name: "s"}, api.OK, func(s *api.State) {
			s.Signals = math.MinInt
		}},
		{"a count below 0", of(waiting, func(s *api.State) { s.Count = -3 }), api.Event{Kind: api.EvTaken, Time: 100}, api.OK, func(s *api.State) {
			s.Task = api.Task{State: api.TaskTaken, Attempt: 7, Event: -2, Seen: -2}
			s.Fresh = false
		}},
	})
}
