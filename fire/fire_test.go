package fire

import (
	"fmt"
	"math"
	"reflect"
	"slices"
	"testing"

	"usher/api"
	"usher/branch"
	"usher/client"
	"usher/fold"
	"usher/rowcode"
)

const latest = 1 << 40

// listOf gives a value that has memory of its own.
func listOf(s string) api.Value {
	return api.Value{Kind: api.VList, List: []api.Value{{Kind: api.VText, Text: s}}}
}

func scheduledAt(t, num, due int) api.Event {
	return api.Event{Kind: api.EvScheduled, Time: t, Num: num, Due: due}
}

func takenAt(t, due int) api.Event {
	return api.Event{Kind: api.EvTaken, Time: t, Due: due}
}

func timer(name string, due int) api.Event {
	return api.Event{Kind: api.EvTimer, Time: 4, Name: name, Due: due}
}

func firedAt(t int, name string) api.Event {
	return api.Event{Kind: api.EvFired, Time: t, Name: name}
}

func timedAt(t int) api.Event {
	return api.Event{Kind: api.EvTaskTimed, Time: t}
}

func endAt(t int) api.Event {
	return api.Event{Kind: api.EvTimedOut, Time: t}
}

func signaled(t int) api.Event {
	return api.Event{Kind: api.EvSignaled, Time: t, Name: "s", Value: listOf("s")}
}

// idle is the history of a run that goes on, whose task is done, the last event at 4; and these behind it.
func idle(more ...api.Event) []api.Event {
	return append([]api.Event{
		{Kind: api.EvStarted, Due: 900, Name: "t", Value: listOf("in"), Policy: api.Policy{First: 10, Coef: 1 << 62, Most: 35}},
		{Kind: api.EvScheduled, Num: 1},
		{Kind: api.EvTaken, Time: 2, Due: 9},
		{Kind: api.EvDone, Time: 4},
		{Kind: api.EvAccepted, Time: 4, Name: "u", Value: listOf("u")},
		{Kind: api.EvMarker, Time: 4, Value: listOf("m")},
	}, more...)
}

// taken has a task of that attempt, taken at 6 and due at 16, ahead of which these came.
func taken(attempt int, ahead ...api.Event) []api.Event {
	return append(idle(ahead...), scheduledAt(5, attempt, 5), takenAt(6, 16))
}

// filled gives h with markers behind it, n events in all.
func filled(n int, h []api.Event) []api.Event {
	last := h[len(h)-1].Time
	for len(h) < n {
		h = append(h, api.Event{Kind: api.EvMarker, Time: last})
	}
	return h
}

// flowOf gives a workflow of so many runs, the last one's history that.
func flowOf(runs int, h []api.Event) api.Flow {
	s, _, e := fold.Build(runs, h)
	if e != api.OK {
		panic(e)
	}
	return api.Flow{Name: "f", Runs: runs, State: s, Table: []api.Done{{Request: "m", Kind: api.OpSignal, Key: []byte{7}, Run: 1}}}
}

// with gives f, its state changed.
func with(f api.Flow, change func(s *api.State)) api.Flow {
	change(&f.State)
	return f
}

// makes complains unless just these events come, and are told as many.
func makes(t *testing.T, why string, f api.Flow, now int, l ...api.Event) {
	t.Helper()
	s, _, e := fold.Extend(f.State, l)
	if e != api.OK {
		t.Fatalf("%s: a test's events may not come: %d", why, e)
	}
	p, x := Do(f, true, now)
	want := f
	want.State = s
	if !p.Changed || !rowcode.Same(p.Flow, want) {
		t.Errorf("%s: the workflow is\n%+v, not\n%+v", why, p.Flow, want)
	}
	if len(p.Writes) != 1 {
		t.Fatalf("%s: %d histories", why, len(p.Writes))
	}
	w := p.Writes[0]
	if w.Run != f.State.Run || w.From != 0 || w.Keep != 0 || w.At != f.State.Count || !branch.Same(w.Events, l) {
		t.Errorf("%s: the history is\n%+v, not\n%+v", why, w, l)
	}
	if !reflect.DeepEqual(x, api.Reply{Run: f.State.Run, Num: len(l)}) {
		t.Errorf("%s: told %+v", why, x)
	}
}

// told complains unless that is told, and there is no plan.
func told(t *testing.T, why string, f api.Flow, there bool, now int, want api.Reply) {
	t.Helper()
	p, x := Do(f, there, now)
	if !reflect.DeepEqual(p, api.Plan{}) {
		t.Errorf("%s: a plan: %+v", why, p)
	}
	if !reflect.DeepEqual(x, want) {
		t.Errorf("%s: told %+v, not %+v", why, x, want)
	}
}

// rests complains unless nothing is due.
func rests(t *testing.T, why string, f api.Flow, now int) {
	t.Helper()
	told(t, why, f, true, now, api.Reply{Run: f.State.Run})
}

// fails complains unless Do is told that error, and nothing beside.
func fails(t *testing.T, why string, f api.Flow, now int, code api.Errno) {
	t.Helper()
	told(t, why, f, true, now, api.Reply{Code: code})
}

func TestNotThere(t *testing.T) {
	for _, now := range []int{math.MinInt, -1, 0, 7, latest, math.MaxInt} {
		for _, f := range []api.Flow{{}, flowOf(2, idle()), flowOf(2, idle(timer("a", 5)))} {
			told(t, "not there", f, false, now, api.Reply{Code: api.ErrNone})
		}
	}
}

func TestNothingIsDue(t *testing.T) {
	for _, runs := range []int{1, 2, 10} {
		for _, now := range []int{math.MinInt, -1, 0, 4, 7, 899} {
			rests(t, fmt.Sprint("idle at ", now), flowOf(runs, idle()), now)
			rests(t, fmt.Sprint("a task waits at ", now), flowOf(runs, idle(signaled(5), scheduledAt(5, 1, 6))), now)
			rests(t, fmt.Sprint("a timer, not yet, at ", now), flowOf(runs, idle(timer("a", 901))), now)
		}
	}
	over := []api.Event{timer("a", 5), {Kind: api.EvTerminated, Time: 5, Name: "why"}}
	for _, now := range []int{math.MinInt, 0, 5, 7, 900, latest, math.MaxInt} {
		rests(t, fmt.Sprint("over, at ", now), flowOf(2, idle(over...)), now)
		rests(t, fmt.Sprint("timed out, at ", now), flowOf(2, idle(endAt(900))), now)
		rests(t, fmt.Sprint("the zero workflow at ", now), api.Flow{}, now)
	}
	for _, n := range []int{math.MinInt, -1, 0, 2, 3, 4, 5, 6, 7, math.MaxInt} { // nothing is due of what does not run
		f := with(flowOf(2, taken(1, timer("a", 5), signaled(4))), func(s *api.State) { s.Status = n })
		rests(t, fmt.Sprint("Status ", n), f, 901)
	}
}

func TestTimers(t *testing.T) {
	f := flowOf(2, idle(timer("a", 8)))
	for _, now := range []int{math.MinInt, 0, 4, 6, 7} {
		rests(t, fmt.Sprint("not due yet, at ", now), f, now)
	}
	makes(t, "due just now", f, 8, firedAt(8, "a"), scheduledAt(8, 1, 8))
	makes(t, "due", f, 9, firedAt(9, "a"), scheduledAt(9, 1, 9))
	makes(t, "due, and there is no deadline", with(f, func(s *api.State) { s.Deadline = 0 }), math.MaxInt, firedAt(latest, "a"), scheduledAt(latest, 1, latest))

	// Several of them go off by their Due, then by their names; those that are not due stay.
	f = flowOf(10, idle(timer("d", 6), timer("c", 8), timer("b", 8), timer("a", 10), timer("e", 5)))
	for now, names := range map[int]string{5: "e", 6: "ed", 7: "ed", 8: "edbc", 9: "edbc", 10: "edbca", 11: "edbca"} {
		var l []api.Event
		for _, n := range names {
			l = append(l, firedAt(now, string(n)))
		}
		makes(t, names, f, now, append(l, scheduledAt(now, 1, now))...)
	}
	rests(t, "none of several", f, 4)
}

func TestTimersWithATask(t *testing.T) {
	waits := idle(timer("b", 8), timer("a", 9), scheduledAt(5, 3, 20))
	for now, names := range map[int]string{7: "", 8: "b", 9: "ba", 19: "ba", 20: "ba", 21: "ba"} {
		f := flowOf(2, waits)
		if names == "" {
			rests(t, "a task waits", f, now)
			continue
		}
		var l []api.Event
		for _, n := range names {
			l = append(l, firedAt(now, string(n)))
		}
		makes(t, "a task waits", f, now, l...)
	}
	f := flowOf(2, taken(1, timer("b", 8), timer("a", 9)))
	rests(t, "a task is taken", f, 7)
	makes(t, "a task is taken", f, 8, firedAt(8, "b"))
	makes(t, "a task is taken", f, 15, firedAt(15, "b"), firedAt(15, "a"))
	makes(t, "a task is late", f, 16, timedAt(16), scheduledAt(16, 2, 26), firedAt(16, "b"), firedAt(16, "a"))
}

func TestSomethingIsFresh(t *testing.T) {
	f := flowOf(2, idle(signaled(5))) // such that no operation leaves it, but a worker must see it
	for now, at := range map[int]int{math.MinInt: 5, 0: 5, 5: 5, 6: 6, 899: 899} {
		makes(t, fmt.Sprint("no task, at ", now), f, now, scheduledAt(at, 1, at))
	}
	f = flowOf(2, append(taken(1), signaled(6)))
	rests(t, "a task is taken", f, 15)
	makes(t, "a task is late", f, 17, timedAt(17), scheduledAt(17, 2, 27))
	f = flowOf(2, idle(timer("a", 8), signaled(5)))
	makes(t, "and a timer", f, 7, scheduledAt(7, 1, 7))
	makes(t, "and a timer that is due", f, 8, firedAt(8, "a"), scheduledAt(8, 1, 8))
}

func TestTasksThatAreLate(t *testing.T) {
	for _, c := range []struct{ attempt, num, delay int }{
		{1, 2, 10}, {2, 3, 20}, {3, 4, 35}, {999, 1000, 35}, {1<<31 - 2, 1<<31 - 1, 35}, {1<<31 - 1, 1 << 31, 35}, {1 << 31, 1 << 31, 35},
	} {
		f := flowOf(2, taken(c.attempt))
		why := fmt.Sprint("attempt ", c.attempt)
		rests(t, why, f, math.MinInt)
		rests(t, why, f, 15)
		makes(t, why, f, 16, timedAt(16), scheduledAt(16, c.num, 16+c.delay))
		makes(t, why, f, 17, timedAt(17), scheduledAt(17, c.num, 17+c.delay))
	}
	longest := with(flowOf(2, taken(1)), func(s *api.State) {
		s.Deadline, s.Policy = 0, api.Policy{First: api.MaxDelay, Coef: 1 << 62, Most: api.MaxDelay}
	})
	makes(t, "the longest delay, at the latest time", longest, math.MaxInt, timedAt(latest), scheduledAt(latest, 2, latest+1<<30))
	for attempt, num := range map[int]int{math.MaxInt: 1 << 31, 1<<31 + 1: 1 << 31, 0: 1} { // attempts that may not be, but may wrap round
		f := with(flowOf(2, taken(1)), func(s *api.State) { s.Task.Attempt = attempt })
		p, x := Do(f, true, 16)
		if x.Code != api.OK || x.Num != 2 || p.Flow.State.Task.Attempt != num {
			t.Errorf("attempt %d: %+v, %+v", attempt, x, p.Flow.State.Task)
		}
	}
	for _, attempt := range []int{-1, math.MinInt} { // there is no attempt 0
		f := with(flowOf(2, taken(1)), func(s *api.State) { s.Task.Attempt = attempt })
		fails(t, fmt.Sprint("attempt ", attempt), f, 16, api.ErrArg)
	}
}

func TestDeadlines(t *testing.T) {
	for why, h := range map[string][]api.Event{
		"idle":     idle(),
		"Fresh":    idle(signaled(5)),
		"a timer":  idle(timer("a", 5)),
		"waits":    idle(scheduledAt(5, 1, 5)),
		"late":     taken(1, timer("a", 5), timer("b", 6)),
		"not late": append(idle(), scheduledAt(5, 1, 5), takenAt(6, 2000)),
	} {
		f := flowOf(2, h)
		for now, at := range map[int]int{900: 900, 901: 901, latest: latest, latest + 1: latest, math.MaxInt: latest} {
			makes(t, why, f, now, endAt(at))
		}
		if p, _ := Do(f, true, 899); p.Changed && p.Flow.State.Status != api.StRunning {
			t.Error(why, "ahead of its deadline")
		}
	}
	for _, n := range []int{math.MinInt, -1, 0} { // none
		rests(t, fmt.Sprint("Deadline ", n), with(flowOf(2, idle()), func(s *api.State) { s.Deadline = n }), math.MaxInt)
	}
	rests(t, "beyond the latest time", with(flowOf(2, idle()), func(s *api.State) { s.Deadline = latest + 1 }), math.MaxInt)
	rests(t, "at the end of all", with(flowOf(2, idle()), func(s *api.State) { s.Deadline = math.MaxInt }), math.MaxInt)
	makes(t, "at the latest time", with(flowOf(2, idle()), func(s *api.State) { s.Deadline = latest }), math.MaxInt, endAt(latest))
	makes(t, "long ago", with(flowOf(2, idle()), func(s *api.State) { s.Deadline = 1 }), math.MinInt, endAt(4))
}

// TestFullHistories: there is room for all events, or for none.
func TestFullHistories(t *testing.T) {
	for n := 115; n <= 120; n++ {
		for why, c := range map[string]struct {
			h []api.Event
			l []api.Event
		}{
			"a deadline":               {idle(), []api.Event{endAt(900)}},
			"a task for what is Fresh": {idle(signaled(4)), []api.Event{scheduledAt(16, 1, 16)}},
			"a timer":                  {idle(timer("a", 5)), []api.Event{firedAt(16, "a"), scheduledAt(16, 1, 16)}},
			"a timer, with a task":     {idle(timer("a", 5), scheduledAt(5, 1, 5)), []api.Event{firedAt(16, "a")}},
			"a late task":              {taken(1), []api.Event{timedAt(16), scheduledAt(16, 2, 26)}},
			"a late task and timers":   {taken(1, timer("a", 5), timer("b", 5)), []api.Event{timedAt(16), scheduledAt(16, 2, 26), firedAt(16, "a"), firedAt(16, "b")}},
		} {
			f := flowOf(2, filled(n, c.h))
			if n+len(c.l) <= 120 {
				makes(t, fmt.Sprint(why, " behind ", n), f, c.l[0].Time, c.l...)
			} else {
				fails(t, fmt.Sprint(why, " behind ", n), f, c.l[0].Time, api.ErrFull)
			}
		}
		rests(t, fmt.Sprint("nothing behind ", n), flowOf(2, filled(n, idle())), 16)
	}
	for _, n := range []int{120, 121, math.MaxInt} {
		f := with(flowOf(2, idle(timer("a", 5))), func(s *api.State) { s.Count = n })
		fails(t, fmt.Sprint("Count ", n), f, 16, api.ErrFull)
	}
}

// TestAllTimers: as many as there may be, which is many events at once.
func TestAllTimers(t *testing.T) {
	var set, l []api.Event
	for i := range api.MaxTimers {
		set = append(set, timer(string(rune('a'+i)), 8))
		l = append(l, firedAt(9, string(rune('a'+i))))
	}
	makes(t, "all", flowOf(2, idle(set...)), 9, append(l, scheduledAt(9, 1, 9))...)
}

// TestTimes: what comes has the time that an event would have.
func TestTimes(t *testing.T) {
	f := with(flowOf(2, idle(timer("a", 5), signaled(6))), func(s *api.State) { s.Deadline = 0 })
	for now, at := range map[int]int{math.MinInt: 6, -1: 6, 0: 6, 5: 6, 6: 6, 7: 7, latest - 1: latest - 1, latest: latest, latest + 1: latest, math.MaxInt: latest} {
		makes(t, fmt.Sprint("at ", now), f, now, firedAt(at, "a"), scheduledAt(at, 1, at))
	}
	for _, n := range []int{math.MinInt, math.MinInt + 1, -1, latest + 1, math.MaxInt} { // a Time that no event has
		g := with(f, func(s *api.State) { s.Time, s.Timers = n, []api.Timer{{Name: "a", Due: math.MinInt}} })
		fails(t, fmt.Sprint("Time ", n), g, math.MinInt, api.ErrArg)
		if n > latest {
			fails(t, fmt.Sprint("Time ", n), g, math.MaxInt, api.ErrArg)
		} else {
			makes(t, fmt.Sprint("Time ", n), g, 3, firedAt(3, "a"), scheduledAt(3, 1, 3))
		}
	}
}

// TestStatesThatMayNotBe: an error of the plan other than ErrFull is told as ErrArg.
func TestStatesThatMayNotBe(t *testing.T) {
	of := func(l ...api.Timer) api.Flow {
		return with(flowOf(2, idle()), func(s *api.State) { s.Deadline, s.Timers = 0, l })
	}
	fails(t, "a timer that has no name", of(api.Timer{Due: 5}), 7, api.ErrArg)
	fails(t, "a second one that has none", of(api.Timer{Name: "a", Due: 5}, api.Timer{Name: "no name!", Due: 5}), 7, api.ErrArg)
	makes(t, "one that has none, not due", of(api.Timer{Name: "a", Due: 5}, api.Timer{Due: 8}), 7, firedAt(7, "a"), scheduledAt(7, 1, 7))
	makes(t, "one name twice", of(api.Timer{Name: "a", Due: 6}, api.Timer{Name: "a", Due: 5}), 7, firedAt(7, "a"), firedAt(7, "a"), scheduledAt(7, 1, 7))
	fails(t, "one name twice, the first one not due", of(api.Timer{Name: "a", Due: 8}, api.Timer{Name: "a", Due: 5}), 7, api.ErrArg) // fold tells ErrEvent
	makes(t, "names that fall", of(api.Timer{Name: "b", Due: 5}, api.Timer{Name: "a", Due: 5}), 7, firedAt(7, "a"), firedAt(7, "b"), scheduledAt(7, 1, 7))
	makes(t, "due ahead of all", of(api.Timer{Name: "a", Due: math.MinInt}), math.MinInt, firedAt(4, "a"), scheduledAt(4, 1, 4))
	rests(t, "due behind all", of(api.Timer{Name: "a", Due: math.MaxInt}), math.MaxInt)
	fails(t, "running, but not started", with(flowOf(2, idle(timer("a", 5))), func(s *api.State) { s.Count = 0 }), 7, api.ErrArg)
	for _, n := range []int{math.MinInt, -1, 3, math.MaxInt} { // a task of no kind is neither taken, nor is there none
		f := with(flowOf(2, idle(timer("a", 5), signaled(5))), func(s *api.State) { s.Task = api.Task{State: n} })
		makes(t, fmt.Sprint("a task ", n), f, 7, firedAt(7, "a"))
	}
	f := with(flowOf(2, taken(2)), func(s *api.State) { s.Policy.First = -1 }) // it has no delay
	makes(t, "a policy that may not be", f, 16, timedAt(16), scheduledAt(16, 3, 16))
	for _, n := range []int{math.MinInt, 0, 1, 3, 11, math.MaxInt} { // it is the run of the state that is told, and written
		f := flowOf(2, idle(timer("a", 5)))
		f.Runs = n
		makes(t, fmt.Sprint("Runs ", n), f, 7, firedAt(7, "a"), scheduledAt(7, 1, 7))
		rests(t, fmt.Sprint("Runs ", n), f, 4)
		f = with(flowOf(2, idle(timer("a", 5))), func(s *api.State) { s.Run = n })
		makes(t, fmt.Sprint("Run ", n), f, 7, firedAt(7, "a"), scheduledAt(7, 1, 7))
		rests(t, fmt.Sprint("Run ", n), f, 4)
	}
}

// late complains unless f is so late at each of these times.
func late(t *testing.T, why string, f api.Flow, times map[int]int) {
	t.Helper()
	for now, want := range times {
		if got := Late(f, now); got != want {
			t.Errorf("%s: at %d late by %d, not %d", why, now, got, want)
		}
	}
}

func TestLate(t *testing.T) {
	never := map[int]int{math.MinInt: 0, -1: 0, 0: 0, 7: 0, 899: 0, latest: 0, math.MaxInt: 0}
	without := func(s *api.State) { s.Deadline = 0 }
	late(t, "the zero workflow", api.Flow{}, never)
	late(t, "nothing ever", with(flowOf(2, idle()), without), never)
	late(t, "a task that waits", with(flowOf(2, idle(signaled(5), scheduledAt(5, 1, 5))), without), never)
	late(t, "over", flowOf(2, idle(timer("a", 5), endAt(900))), never)
	for _, n := range []int{math.MinInt, -1, 0, 2, 3, 4, 5, 6, 7, math.MaxInt} {
		late(t, fmt.Sprint("Status ", n), with(flowOf(2, taken(1, timer("a", 5))), func(s *api.State) { s.Status = n }), never)
	}
	late(t, "a deadline", flowOf(2, idle()), map[int]int{
		math.MinInt: 0, 0: 0, 899: 0, 900: 0, 901: 1, 907: 7, latest: latest - 900, latest + 1: latest - 900, math.MaxInt: latest - 900,
	})
	late(t, "a timer", flowOf(2, idle(timer("b", 8), timer("a", 9))), map[int]int{0: 0, 7: 0, 8: 0, 9: 1, 10: 2, 901: 893, math.MaxInt: latest - 8})
	late(t, "a task", flowOf(2, taken(1)), map[int]int{0: 0, 15: 0, 16: 0, 17: 1, 1000: 984})
	late(t, "a task and a timer", flowOf(2, taken(1, timer("a", 12))), map[int]int{11: 0, 12: 0, 13: 1, 17: 5})
	// What was due ahead of the state's Time could not come then any more.
	late(t, "due ahead", flowOf(2, idle(timer("a", 5), signaled(7), scheduledAt(7, 1, 7))), map[int]int{math.MinInt: 0, 4: 0, 5: 0, 6: 0, 7: 0, 8: 1, 9: 2})
	late(t, "Fresh", flowOf(2, idle(signaled(7))), map[int]int{math.MinInt: 0, 6: 0, 7: 0, 8: 1, 900: 893})
	late(t, "beyond the latest time", with(flowOf(2, idle()), func(s *api.State) { s.Deadline = latest + 1 }), never)
	late(t, "at the end of all", with(flowOf(2, idle()), func(s *api.State) { s.Deadline = math.MaxInt }), never)
}

// TestLateAtTheEnds: of states that may not be, whose numbers lie as far apart as they can.
func TestLateAtTheEnds(t *testing.T) {
	of := func(time, due int) api.Flow {
		return with(flowOf(2, idle()), func(s *api.State) {
			s.Time, s.Deadline, s.Timers = time, 0, []api.Timer{{Name: "a", Due: due}}
		})
	}
	late(t, "from below", of(math.MinInt, math.MinInt), map[int]int{math.MinInt: 0, math.MinInt + 1: 1, -1: math.MaxInt, 0: math.MaxInt, latest: math.MaxInt, math.MaxInt: math.MaxInt})
	late(t, "from just above", of(math.MinInt+1, math.MinInt), map[int]int{math.MinInt: 0, math.MinInt + 2: 1, -1: math.MaxInt - 1, 0: math.MaxInt, 1: math.MaxInt})
	late(t, "from 0", of(math.MinInt, 0), map[int]int{math.MinInt: 0, -1: 0, 0: 0, 1: 1, math.MaxInt: latest})
	late(t, "to above", of(math.MaxInt, math.MinInt), map[int]int{math.MinInt: 0, 0: 0, math.MaxInt: 0})
	late(t, "above", of(math.MinInt, math.MaxInt), map[int]int{math.MinInt: 0, 0: 0, math.MaxInt: 0})
}

// TestTheExample is the document's.
func TestTheExample(t *testing.T) {
	p, x := Do(flowOf(1, idle(timer("a", 5))), true, 7)
	if x.Num != 2 {
		t.Fatal(x)
	}
	var kinds []int
	for _, e := range p.Writes[0].Events {
		kinds = append(kinds, e.Kind)
	}
	if !slices.Equal(kinds, []int{api.EvFired, api.EvScheduled}) {
		t.Error(kinds)
	}
	q, _ := client.Do(api.Flow{}, false, api.Request{Kind: api.OpStart, Flow: "a", Request: "x", Name: "t", Num: 10}, 5)
	rests(t, "started", q.Flow, 14)
	makes(t, "started", q.Flow, 15, endAt(15))
}
