package worker

import (
	"fmt"
	"math"
	"reflect"
	"slices"
	"strings"
	"testing"

	"usher/api"
	"usher/branch"
	"usher/client"
	"usher/fold"
	"usher/rowcode"
)

const latest = 1 << 40

// listOf gives a value that has memory of its own.
func listOf(s string) api.Value {
	return api.Value{Kind: api.VList, List: []api.Value{{Kind: api.VText, Text: s}}}
}

// idle is the history of a run that goes on, whose task is done: 7 events, the last one at 4.
func idle() []api.Event {
	return []api.Event{
		{Kind: api.EvStarted, Due: 900, Name: "t", Value: listOf("in"), Policy: api.Policy{First: 10, Coef: 1 << 62, Most: 35}},
		{Kind: api.EvScheduled, Num: 1},
		{Kind: api.EvTaken, Time: 2, Due: 9},
		{Kind: api.EvDone, Time: 4},
		{Kind: api.EvTimer, Time: 4, Name: "b", Due: 50},
		{Kind: api.EvAccepted, Time: 4, Name: "u", Value: listOf("u")},
		{Kind: api.EvMarker, Time: 4, Value: listOf("m")},
	}
}

// waiting has a task that waits until due; of this attempt.
func waiting(attempt, due int) []api.Event {
	return append(idle(), api.Event{Kind: api.EvScheduled, Time: 5, Num: attempt, Due: due})
}

// taken has a task of this attempt that is taken, as event 9, at 6; and events behind it.
func taken(attempt int, more ...api.Event) []api.Event {
	return append(append(waiting(attempt, 5), api.Event{Kind: api.EvTaken, Time: 6, Due: 16}), more...)
}

func over() []api.Event {
	return taken(1, api.Event{Kind: api.EvTerminated, Time: 7, Name: "why"})
}

func signaled(t int) api.Event {
	return api.Event{Kind: api.EvSignaled, Time: t, Name: "s", Value: listOf("s")}
}

// filled gives h with markers behind it, n events in all.
func filled(n int, h []api.Event) []api.Event {
	for len(h) < n {
		h = append(h, api.Event{Kind: api.EvMarker, Time: 6})
	}
	return h
}

// flowOf gives a workflow of so many runs, the last one's history that.
func flowOf(runs int, h []api.Event) api.Flow {
	s, _, e := fold.Build(runs, h)
	if e != api.OK {
		panic(e)
	}
	return api.Flow{Name: "f", Runs: runs, State: s, Table: []api.Done{{Request: "m", Kind: api.OpSignal, Key: []byte{7}, Run: 1}}}
}

// with gives f, its state changed.
func with(f api.Flow, change func(s *api.State)) api.Flow {
	change(&f.State)
	return f
}

func poll(num int) api.Request {
	return api.Request{Kind: api.OpPoll, Flow: "f", Num: num}
}

// token is that of the task that was taken, in the run 2.
func token(l ...api.Command) api.Request {
	return api.Request{Kind: api.OpComplete, Flow: "f", Run: 2, Num: 9, Commands: l}
}

func asksOf(names ...string) []api.Ask {
	var out []api.Ask
	for i, n := range names {
		out = append(out, api.Ask{Op: 40 + i, Name: n, Value: listOf(n)})
	}
	return out
}

func scheduledAt(t, num, due int) api.Event {
	return api.Event{Kind: api.EvScheduled, Time: t, Num: num, Due: due}
}

func takenAt(t, due int) api.Event {
	return api.Event{Kind: api.EvTaken, Time: t, Due: due}
}

func doneAt(t int) api.Event {
	return api.Event{Kind: api.EvDone, Time: t}
}

// same complains unless two plans are the same, an empty list being as none.
func same(t *testing.T, why string, got, want api.Plan) {
	t.Helper()
	if got.Changed != want.Changed || !rowcode.Same(got.Flow, want.Flow) {
		t.Errorf("%s: the plan is\n%+v, not\n%+v", why, got, want)
	}
	ok := slices.EqualFunc(got.Writes, want.Writes, func(a, b api.History) bool {
		return a.Run == b.Run && a.From == b.From && a.Keep == b.Keep && a.At == b.At && branch.Same(a.Events, b.Events)
	})
	if !ok {
		t.Errorf("%s: the histories are\n%+v, not\n%+v", why, got.Writes, want.Writes)
	}
}

// tells complains unless a reply is that one.
func tells(t *testing.T, why string, got, want api.Reply) {
	t.Helper()
	if !branch.Same(got.Events, want.Events) {
		t.Errorf("%s: told are the events\n%v, not\n%v", why, got.Events, want.Events)
	}
	got.Events, want.Events = nil, nil
	if !reflect.DeepEqual(got, want) {
		t.Errorf("%s: %+v, not %+v", why, got, want)
	}
}

// made complains unless a plan puts just these events behind f's history.
func made(t *testing.T, why string, f api.Flow, got api.Plan, l ...api.Event) {
	t.Helper()
	s, _, e := fold.Extend(f.State, l)
	if e != api.OK {
		t.Fatalf("%s: a test's events may not come: %d", why, e)
	}
	want := api.Plan{Changed: true, Flow: f, Writes: []api.History{{Run: f.State.Run, At: f.State.Count, Events: l}}}
	want.Flow.State = s
	same(t, why, got, want)
}

// nothing complains unless there is no plan.
func nothing(t *testing.T, why string, got api.Plan) {
	t.Helper()
	if !reflect.DeepEqual(got, api.Plan{}) {
		t.Errorf("%s: a plan: %+v", why, got)
	}
}

// takes complains unless a task is taken by these events, and told with these updates.
func takes(t *testing.T, why string, f api.Flow, h []api.Event, num, now int, asks, updates []api.Ask, l ...api.Event) {
	t.Helper()
	p, x := Poll(f, true, h, poll(num), now, asks)
	made(t, why, f, p, l...)
	tells(t, why, x, api.Reply{Run: f.State.Run, Num: f.State.Count + len(l), Events: slices.Concat(h, l), Updates: updates})
}

// idles complains unless there is no task.
func idles(t *testing.T, why string, f api.Flow, h []api.Event, num, now int, asks []api.Ask) {
	t.Helper()
	p, x := Poll(f, true, h, poll(num), now, asks)
	nothing(t, why, p)
	tells(t, why, x, api.Reply{Run: f.State.Run, Events: h})
}

// refuses complains unless Poll is told that error, and nothing beside.
func refuses(t *testing.T, why string, f api.Flow, there bool, h []api.Event, num, now int, asks []api.Ask, code api.Errno) {
	t.Helper()
	p, x := Poll(f, there, h, poll(num), now, asks)
	nothing(t, why, p)
	tells(t, why, x, api.Reply{Code: code})
}

// wrong complains unless Complete, or Fail, is told that error, and nothing beside.
func wrong(t *testing.T, why string, p api.Plan, x api.Reply, code api.Errno) {
	t.Helper()
	nothing(t, why, p)
	tells(t, why, x, api.Reply{Code: code})
}

func TestPollWithATask(t *testing.T) {
	for _, runs := range []int{1, 2, 10} {
		h := waiting(1, 5)
		takes(t, "one that waits", flowOf(runs, h), h, 10, 7, nil, nil, takenAt(7, 17))
		takes(t, "with asks", flowOf(runs, h), h, 10, 7, asksOf("x", "u", "y"), []api.Ask{asksOf("x")[0], asksOf("x", "u", "y")[2]}, takenAt(7, 17))
		takes(t, "with asks that it has", flowOf(runs, h), h, 10, 7, asksOf("u", "u"), nil, takenAt(7, 17))
	}
	h := waiting(1<<31, 7)
	takes(t, "of the last attempt, due now", flowOf(2, h), h, 10, 7, nil, nil, takenAt(7, 17))
	takes(t, "due already", flowOf(2, h), h, 10, 8, nil, nil, takenAt(8, 18))
	takes(t, "due long ago", flowOf(2, h), h, 10, math.MaxInt, nil, nil, takenAt(latest, latest+10))
	// A history that is not the workflow's own is told as it is, with what came now behind it.
	odd := []api.Event{{Kind: 99, Time: -1, Name: "\xff", Value: api.Value{Kind: 9, Text: "x", List: []api.Value{{Kind: -1, Int: 4}}}, Policy: api.Policy{First: -1}}}
	f := flowOf(2, h)
	takes(t, "no history", f, nil, 10, 7, nil, nil, takenAt(7, 17))
	takes(t, "an odd history", f, odd, 10, 7, nil, nil, takenAt(7, 17))
	takes(t, "a shorter history", f, h[:3], 10, 7, nil, nil, takenAt(7, 17))
	idles(t, "an odd history", f, odd, 10, 6, nil)
}

func TestPollWithoutATask(t *testing.T) {
	h := waiting(2, 8)
	for _, now := range []int{math.MinInt, -1, 0, 4, 5, 7} {
		idles(t, fmt.Sprint("not due at ", now), flowOf(2, h), h, 10, now, nil)
		idles(t, fmt.Sprint("not due at ", now, ", with asks"), flowOf(2, h), h, 10, now, asksOf("x", "y"))
	}
	for _, now := range []int{6, 15, 16, 17, 900, math.MaxInt} { // late, or not: until that is made so, it is taken
		idles(t, fmt.Sprint("taken, at ", now), flowOf(3, taken(1)), taken(1), 10, now, nil)
		idles(t, fmt.Sprint("taken, with asks, at ", now), flowOf(3, taken(1)), taken(1), 10, now, asksOf("x"))
		idles(t, fmt.Sprint("taken, and a signal, at ", now), flowOf(3, taken(1, signaled(6))), taken(1, signaled(6)), 10, now, nil)
	}
	idles(t, "none", flowOf(2, idle()), idle(), 10, 7, nil)
	idles(t, "none, and no asks", flowOf(2, idle()), idle(), 10, 7, []api.Ask{})
	idles(t, "none, and an ask that it has", flowOf(2, idle()), idle(), 10, 7, asksOf("u", "u"))
	idles(t, "none, but a signal", flowOf(2, append(idle(), signaled(5))), append(idle(), signaled(5)), 10, 7, nil)
	for _, num := range []int{math.MinInt, -1, 0, math.MaxInt} { // how long it may take does not matter then
		idles(t, fmt.Sprint("none, for ", num), flowOf(2, idle()), idle(), num, 7, nil)
		idles(t, fmt.Sprint("taken, for ", num), flowOf(2, taken(1)), taken(1), num, 7, asksOf("x"))
	}
	for _, n := range []int{math.MinInt, -1, 3, math.MaxInt} { // a task of no kind is none that waits, nor is there none
		f := with(flowOf(2, idle()), func(s *api.State) { s.Task.State = n })
		idles(t, fmt.Sprint("a task ", n), f, idle(), 10, 7, asksOf("x"))
	}
}

func TestPollForAsks(t *testing.T) {
	h := idle()
	f := flowOf(2, h)
	takes(t, "one", f, h, 10, 7, asksOf("x"), asksOf("x"), scheduledAt(7, 1, 7), takenAt(7, 17))
	takes(t, "two", f, h, 10, 7, asksOf("y", "x"), asksOf("y", "x"), scheduledAt(7, 1, 7), takenAt(7, 17))
	takes(t, "one twice", f, h, 10, 7, asksOf("x", "x"), asksOf("x", "x"), scheduledAt(7, 1, 7), takenAt(7, 17))
	for i, names := range [][]string{{"u", "x", "y"}, {"x", "u", "y"}, {"x", "y", "u"}} { // the state has one of them
		l := asksOf(names...)
		takes(t, fmt.Sprint(names), f, h, 10, 7, l, slices.Delete(asksOf(names...), i, i+1), scheduledAt(7, 1, 7), takenAt(7, 17))
	}
	for _, odd := range []api.Ask{{}, {Name: "U"}, {Op: math.MinInt, Name: "no name!", Value: api.Value{Kind: 9, List: []api.Value{{Int: 1}}}}, {Name: "b"}, {Name: "uu"}} {
		takes(t, fmt.Sprint(odd), f, h, 10, 7, []api.Ask{odd}, []api.Ask{odd}, scheduledAt(7, 1, 7), takenAt(7, 17))
	}
	// One whose outcome is there is one that the state has.
	h = append(idle(), api.Event{Kind: api.EvOutcome, Time: 4, Name: "u", Value: listOf("out")})
	idles(t, "with its outcome", flowOf(2, h), h, 10, 7, asksOf("u"))
	takes(t, "with its outcome", flowOf(2, h), h, 10, 7, asksOf("u", "v"), asksOf("u", "v")[1:], scheduledAt(7, 1, 7), takenAt(7, 17))
}

func TestPollOfNone(t *testing.T) {
	refuses(t, "none there", api.Flow{}, false, nil, 10, 7, nil, api.ErrNone)
	refuses(t, "one that is not there", flowOf(2, waiting(1, 5)), false, waiting(1, 5), 10, 7, asksOf("x"), api.ErrNone)
	refuses(t, "over", flowOf(2, over()), true, over(), 10, 7, nil, api.ErrClosed)
	refuses(t, "over, with asks", flowOf(2, over()), true, over(), 10, 7, asksOf("x"), api.ErrClosed)
	refuses(t, "the zero workflow", api.Flow{}, true, nil, 10, 7, asksOf("x"), api.ErrClosed)
	for _, n := range []int{math.MinInt, -1, 0, 2, 3, 4, 5, 6, 7, math.MaxInt} {
		f := with(flowOf(2, waiting(1, 5)), func(s *api.State) { s.Status = n })
		refuses(t, fmt.Sprint("Status ", n), f, true, waiting(1, 5), 10, 7, asksOf("x"), api.ErrClosed)
	}
	p, x := Poll(api.Flow{}, true, nil, api.Request{}, 0, nil)
	wrong(t, "the zero request", p, x, api.ErrClosed)
	// The zero request of a workflow: a task that is late at once.
	p, x = Poll(flowOf(2, waiting(1, 5)), true, nil, api.Request{}, 7, nil)
	made(t, "the zero request", flowOf(2, waiting(1, 5)), p, takenAt(7, 7))
	tells(t, "the zero request", x, api.Reply{Run: 2, Num: 9, Events: []api.Event{takenAt(7, 7)}})
}

func TestHowLongATaskMayTake(t *testing.T) {
	h, g := waiting(1, 5), idle()
	for num, due := range map[int]int{-7: 0, -1: 6, 0: 7, 1: 8, 1 << 30: 7 + 1<<30, 1<<41 - 7: 1 << 41} {
		takes(t, fmt.Sprint("Num ", num), flowOf(2, h), h, num, 7, nil, nil, takenAt(7, due))
		takes(t, fmt.Sprint("Num ", num), flowOf(2, g), g, num, 7, asksOf("x"), asksOf("x"), scheduledAt(7, 1, 7), takenAt(7, due))
	}
	for _, num := range []int{math.MinInt, math.MinInt + 1, -1 << 42, -1<<41 - 1, -1 << 41, -8, 1<<41 - 6, 1<<41 - 1, 1 << 41, 1<<41 + 1, 1 << 42, math.MaxInt} {
		refuses(t, fmt.Sprint("Num ", num), flowOf(2, h), true, h, num, 7, nil, api.ErrArg)
		refuses(t, fmt.Sprint("Num ", num), flowOf(2, g), true, g, num, 7, asksOf("x"), api.ErrArg)
	}
	// At 0, and at the latest time, so much counts.
	start := []api.Event{{Kind: api.EvStarted, Name: "t"}, {Kind: api.EvScheduled, Num: 1}}
	for _, num := range []int{0, 1, 1<<41 - 1, 1 << 41, 1<<41 + 1, 1 << 42, math.MaxInt} {
		takes(t, fmt.Sprint("Num ", num, " at 0"), flowOf(1, start), start, num, 0, nil, nil, takenAt(0, min(num, 1<<41)))
	}
	for num, due := range map[int]int{1 << 40: 1 << 41, 1<<40 - 1: 1<<41 - 1, -1 << 40: 0, 1 - 1<<40: 1} {
		takes(t, fmt.Sprint("Num ", num, " at the latest time"), flowOf(2, h), h, num, latest, nil, nil, takenAt(latest, due))
	}
	for _, num := range []int{math.MinInt, -1<<41 - 1, -1 << 41, -1<<40 - 1, 1<<40 + 1, 1 << 41, 1<<41 + 1, math.MaxInt} {
		refuses(t, fmt.Sprint("Num ", num, " at the latest time"), flowOf(2, h), true, h, num, math.MaxInt, nil, api.ErrArg)
	}
	refuses(t, "Num -1 at 0", flowOf(1, start), true, start, -1, 0, nil, api.ErrArg)
}

// TestTimes: what is told has the time that an event would have.
func TestTimes(t *testing.T) {
	h := waiting(1, 5)
	for now, at := range map[int]int{math.MinInt: 5, -1: 5, 4: 5, 5: 5, 6: 6, latest: latest, latest + 1: latest, math.MaxInt: latest} {
		takes(t, fmt.Sprint("Poll at ", now), flowOf(2, h), h, 10, now, nil, nil, takenAt(at, at+10))
	}
	for now, at := range map[int]int{math.MinInt: 6, -1: 6, 5: 6, 6: 6, 7: 7, latest: latest, latest + 1: latest, math.MaxInt: latest} {
		f := flowOf(2, taken(1, signaled(6)))
		p, x := Complete(f, true, token(api.Command{Kind: api.CmTimer, Name: "x", Delay: 3}), now, nil)
		made(t, fmt.Sprint("Complete at ", now), f, p, doneAt(at), api.Event{Kind: api.EvTimer, Time: at, Name: "x", Due: at + 3}, scheduledAt(at, 1, at))
		tells(t, fmt.Sprint("Complete at ", now), x, api.Reply{Run: 2, Num: 3})
		p, _ = Fail(f, true, token(), now)
		made(t, fmt.Sprint("Fail at ", now), f, p, api.Event{Kind: api.EvTaskFailed, Time: at}, scheduledAt(at, 2, at+10))
	}
	for _, n := range []int{math.MinInt, -1, latest + 1, math.MaxInt} { // a Time that no event has
		set := func(s *api.State) { s.Time, s.Task.Due = n, n }
		f := with(flowOf(2, h), set)
		refuses(t, fmt.Sprint("Time ", n), f, true, h, 10, math.MinInt, nil, api.ErrArg)
		refuses(t, fmt.Sprint("Time ", n), f, true, h, math.MinInt, math.MinInt, nil, api.ErrArg)
		f = with(flowOf(2, taken(1)), set)
		p, x := Complete(f, true, token(), math.MinInt, nil)
		wrong(t, fmt.Sprint("Time ", n), p, x, api.ErrArg)
		p, x = Fail(f, true, token(), math.MinInt)
		wrong(t, fmt.Sprint("Time ", n), p, x, api.ErrArg)
	}
}

func TestPollOfFullHistories(t *testing.T) {
	for n := 117; n <= 120; n++ {
		h := filled(n, waiting(1, 5))
		g := filled(n, idle())
		if n <= 119 {
			takes(t, fmt.Sprint(n, " events"), flowOf(2, h), h, 10, 7, nil, nil, takenAt(7, 17))
		} else {
			refuses(t, fmt.Sprint(n, " events"), flowOf(2, h), true, h, 10, 7, nil, api.ErrFull)
		}
		if n <= 118 {
			takes(t, fmt.Sprint(n, " events, an ask"), flowOf(2, g), g, 10, 7, asksOf("x"), asksOf("x"), scheduledAt(7, 1, 7), takenAt(7, 17))
		} else {
			refuses(t, fmt.Sprint(n, " events, an ask"), flowOf(2, g), true, g, 10, 7, asksOf("x"), api.ErrFull)
		}
		idles(t, fmt.Sprint(n, " events, no ask"), flowOf(2, g), g, 10, 7, nil)
	}
	f := with(flowOf(2, waiting(1, 5)), func(s *api.State) { s.Count = 0 }) // running, but not started: fold tells ErrEvent
	refuses(t, "no events", f, true, nil, 10, 7, nil, api.ErrArg)
	for _, n := range []int{120, 121, math.MaxInt} {
		f := with(flowOf(2, idle()), func(s *api.State) { s.Count = n })
		refuses(t, fmt.Sprint("Count ", n), f, true, nil, 10, 7, asksOf("x"), api.ErrFull)
	}
}

func TestCompleteOfNoTask(t *testing.T) {
	for why, f := range map[string]api.Flow{
		"taken": flowOf(2, taken(1)), "waiting": flowOf(2, waiting(1, 5)), "none": flowOf(2, idle()), "over": flowOf(2, over()), "full": flowOf(2, filled(120, taken(1))),
	} {
		for _, run := range []int{math.MinInt, 0, 1, 2, 3, math.MaxInt} { // whatever else the request has
			r := token(api.Command{Kind: api.CmComplete}, api.Command{})
			r.Run, r.Num = run, 0
			p, x := Complete(f, true, r, 7, asksOf("x"))
			nothing(t, why, p)
			tells(t, why, x, api.Reply{Run: 2})
		}
	}
	p, x := Complete(api.Flow{}, true, api.Request{}, 7, nil)
	nothing(t, "all zero", p)
	tells(t, "all zero", x, api.Reply{})
	for why, r := range map[string]api.Request{"no token": {}, "a token": token()} {
		p, x := Complete(api.Flow{}, false, r, 7, nil)
		wrong(t, "none there, "+why, p, x, api.ErrNone)
		p, x = Complete(flowOf(2, taken(1)), false, r, 7, nil)
		wrong(t, "one that is not there, "+why, p, x, api.ErrNone)
		p, x = Fail(api.Flow{}, false, r, 7)
		wrong(t, "none there, "+why, p, x, api.ErrNone)
		p, x = Fail(flowOf(2, taken(1)), false, r, 7)
		wrong(t, "one that is not there, "+why, p, x, api.ErrNone)
	}
}

func TestTokens(t *testing.T) {
	both := func(why string, f api.Flow, r api.Request) {
		t.Helper()
		p, x := Complete(f, true, r, 7, nil)
		wrong(t, "Complete, "+why, p, x, api.ErrToken)
		p, x = Fail(f, true, r, 7)
		wrong(t, "Fail, "+why, p, x, api.ErrToken)
	}
	f := flowOf(2, taken(1))
	for _, n := range []int{math.MinInt, -9, -1, 1, 3, 8, 10, 120, 256 + 9, 1<<32 + 9, math.MaxInt} {
		r := token()
		r.Num = n
		both(fmt.Sprint("Num ", n), f, r)
	}
	for _, n := range []int{math.MinInt, -2, -1, 0, 1, 3, 10, 256 + 2, math.MaxInt} {
		r := token()
		r.Run = n
		both(fmt.Sprint("Run ", n), f, r)
	}
	for _, n := range []int{math.MinInt, -1, 0, 1, 3, math.MaxInt} {
		both(fmt.Sprint("a task ", n), with(f, func(s *api.State) { s.Task.State = n }), token())
	}
	for _, n := range []int{math.MinInt, -1, 0, 2, 3, 4, 5, 6, 7, math.MaxInt} {
		both(fmt.Sprint("Status ", n), with(f, func(s *api.State) { s.Status = n }), token())
	}
	both("none", flowOf(2, idle()), token())
	both("waiting", flowOf(2, waiting(1, 5)), token())
	both("over", flowOf(2, over()), token())
	both("full, none", flowOf(2, filled(120, idle())), token(api.Command{}))
	both("the zero workflow", api.Flow{}, token())
	both("the zero workflow", api.Flow{}, api.Request{Run: 0, Num: 5})
	p, x := Fail(f, true, api.Request{Run: 2}, 7) // of Fail no token is none, too
	wrong(t, "Fail, Num 0", p, x, api.ErrToken)
	p, x = Fail(api.Flow{}, true, api.Request{}, 7)
	wrong(t, "Fail, all zero", p, x, api.ErrToken)
	p, x = Complete(f, true, token(slices.Repeat([]api.Command{{}}, 13)...), 7, nil)
	wrong(t, "what is wanted counts behind the token", p, x, api.ErrLong)
	r := token(slices.Repeat([]api.Command{{}}, 13)...)
	r.Num = 8
	both("what is wanted counts behind the token", f, r)
	// It is the state's run that counts, and a late one may be completed as long as nobody made it so.
	p, x = Complete(with(f, func(s *api.State) { s.Run = 5 }), true, token(), 7, nil)
	wrong(t, "another run of the state's", p, x, api.ErrToken)
	p, _ = Complete(f, true, token(), 800, nil)
	made(t, "late", f, p, doneAt(800))
	p, _ = Fail(f, true, token(), 800)
	made(t, "late", f, p, api.Event{Kind: api.EvTaskFailed, Time: 800}, scheduledAt(800, 2, 810))
}

func TestComplete(t *testing.T) {
	f := flowOf(2, taken(1))
	fresh := flowOf(2, taken(1, signaled(6)))
	timer, marker := api.Command{Kind: api.CmTimer, Name: "x", Delay: 5}, api.Command{Kind: api.CmMarker, Value: listOf("k")}
	timerAt, markerAt := api.Event{Kind: api.EvTimer, Time: 7, Name: "x", Due: 12}, api.Event{Kind: api.EvMarker, Time: 7, Value: listOf("k")}
	for why, c := range map[string]struct {
		f    api.Flow
		l    []api.Command
		want []api.Event
	}{
		"nothing":                  {f, nil, []api.Event{doneAt(7)}},
		"no commands":              {f, []api.Command{}, []api.Event{doneAt(7)}},
		"nothing, something Fresh": {fresh, nil, []api.Event{doneAt(7), scheduledAt(7, 1, 7)}},
		"a timer":                  {f, []api.Command{timer}, []api.Event{doneAt(7), timerAt}},
		"a timer, something Fresh": {fresh, []api.Command{timer, marker}, []api.Event{doneAt(7), timerAt, markerAt, scheduledAt(7, 1, 7)}},
		"a timer off":              {f, []api.Command{{Kind: api.CmTimerOff, Name: "b"}}, []api.Event{doneAt(7), {Kind: api.EvTimerOff, Time: 7, Name: "b"}}},
		"an outcome":               {f, []api.Command{{Kind: api.CmOutcome, Name: "u", Value: listOf("o")}}, []api.Event{doneAt(7), {Kind: api.EvOutcome, Time: 7, Name: "u", Value: listOf("o")}}},
		"an end":                   {f, []api.Command{marker, {Kind: api.CmComplete, Value: listOf("out")}}, []api.Event{doneAt(7), markerAt, {Kind: api.EvCompleted, Time: 7, Value: listOf("out")}}},
		"a failure":                {f, []api.Command{{Kind: api.CmFail, Name: "why?"}}, []api.Event{doneAt(7), {Kind: api.EvFailed, Time: 7, Name: "why?"}}},
		"twelve":                   {f, slices.Repeat([]api.Command{marker}, 12), append([]api.Event{doneAt(7)}, slices.Repeat([]api.Event{markerAt}, 12)...)},
	} {
		p, x := Complete(c.f, true, token(c.l...), 7, nil)
		made(t, why, c.f, p, c.want...)
		tells(t, why, x, api.Reply{Run: 2, Num: len(c.want)})
	}
	asked := flowOf(2, append(idle(), api.Event{Kind: api.EvCancel, Time: 5}, scheduledAt(5, 1, 5), takenAt(6, 16)))
	r := token(api.Command{Kind: api.CmCancel})
	r.Num = 10
	p, x := Complete(asked, true, r, 7, nil)
	made(t, "canceled", asked, p, doneAt(7), api.Event{Kind: api.EvCanceled, Time: 7})
	tells(t, "canceled", x, api.Reply{Run: 2, Num: 2})
}

func TestCompleteOfUpdates(t *testing.T) {
	for why, f := range map[string]api.Flow{"seen": flowOf(2, taken(1)), "something Fresh": flowOf(2, taken(1, signaled(6)))} {
		want := []api.Event{
			doneAt(7), {Kind: api.EvAccepted, Time: 7, Name: "y", Value: listOf("y")}, {Kind: api.EvOutcome, Time: 7, Name: "y", Value: listOf("o")},
		}
		if f.State.Fresh {
			want = append(want, scheduledAt(7, 1, 7))
		}
		p, x := Complete(f, true, token(
			api.Command{Kind: api.CmReject, Name: "z", Value: listOf("no")},
			api.Command{Kind: api.CmAccept, Name: "y"},
			api.Command{Kind: api.CmReject, Name: "x"},
			api.Command{Kind: api.CmOutcome, Name: "y", Value: listOf("o")},
		), 7, asksOf("x", "y", "z", "y"))
		made(t, why, f, p, want...)
		tells(t, why, x, api.Reply{Run: 2, Num: len(want), Updates: []api.Ask{{Name: "z", Value: listOf("no")}, {Name: "x"}}})
		if f.State.Fresh { // refusals alone
			want = []api.Event{doneAt(7), scheduledAt(7, 1, 7)}
		} else {
			want = want[:1]
		}
		p, x = Complete(f, true, token(api.Command{Kind: api.CmReject, Name: "x", Value: listOf("no")}), 7, asksOf("x"))
		made(t, why, f, p, want...)
		tells(t, why, x, api.Reply{Run: 2, Num: len(want), Updates: []api.Ask{{Name: "x", Value: listOf("no")}}})
	}
}

func TestCompleteOfWhatMayNotBe(t *testing.T) {
	f := flowOf(2, taken(1))
	fresh := flowOf(2, taken(1, signaled(6)))
	marker, end := api.Command{Kind: api.CmMarker}, api.Command{Kind: api.CmComplete}
	refused := func(why string, f api.Flow, code api.Errno, l ...api.Command) {
		t.Helper()
		p, x := Complete(f, true, token(l...), 7, asksOf("u", "x"))
		wrong(t, why, p, x, code)
	}
	refused("thirteen", f, api.ErrLong, slices.Repeat([]api.Command{marker}, 13)...)
	refused("a command of no kind", f, api.ErrCommand, marker, api.Command{})
	refused("a command of no kind", f, api.ErrCommand, api.Command{Kind: math.MaxInt})
	refused("an end that is not the last", f, api.ErrCommand, end, marker)
	refused("a timer that is set", f, api.ErrCommand, api.Command{Kind: api.CmTimer, Name: "b"})
	refused("an update that nobody asks", f, api.ErrCommand, api.Command{Kind: api.CmAccept, Name: "y"})
	refused("an update that there is", f, api.ErrCommand, api.Command{Kind: api.CmReject, Name: "u"})
	refused("an update that there is", f, api.ErrCommand, api.Command{Kind: api.CmAccept, Name: "u"})
	refused("both", f, api.ErrCommand, api.Command{Kind: api.CmReject, Name: "x"}, api.Command{Kind: api.CmAccept, Name: "x"})
	refused("what was not asked for", f, api.ErrCommand, api.Command{Kind: api.CmCancel})
	refused("an end, with something Fresh", fresh, api.ErrUnseen, end)
	refused("a failure, with something Fresh", fresh, api.ErrUnseen, marker, api.Command{Kind: api.CmFail})
	var timers []api.Command
	for i := range 10 { // one is set already
		timers = append(timers, api.Command{Kind: api.CmTimer, Name: fmt.Sprint("t", i)})
	}
	refused("an eleventh timer", f, api.ErrFull, timers...)
	if _, x := Complete(f, true, token(timers[:9]...), 7, nil); x.Code != api.OK || x.Num != 10 {
		t.Error("ten timers", x)
	}
	many := flowOf(2, taken(1))
	many.State.Updates = nil
	for i := range 10 {
		many.State.Updates = append(many.State.Updates, api.Update{Name: fmt.Sprint("a", i), Stage: 1})
	}
	refused("an eleventh update", many, api.ErrFull, api.Command{Kind: api.CmAccept, Name: "x"})
}

func TestCompleteOfFullHistories(t *testing.T) {
	marker := api.Command{Kind: api.CmMarker}
	for n := 116; n <= 120; n++ {
		seen, fresh := flowOf(2, filled(n, taken(1))), flowOf(2, filled(n, taken(1, signaled(6))))
		for k := range 4 { // commands
			l := slices.Repeat([]api.Command{marker}, k)
			p, x := Complete(seen, true, token(l...), 7, nil)
			if n+1+k <= 120 {
				tells(t, fmt.Sprint(n, " events, ", k), x, api.Reply{Run: 2, Num: 1 + k})
			} else {
				wrong(t, fmt.Sprint(n, " events, ", k), p, x, api.ErrFull)
			}
			p, x = Complete(fresh, true, token(l...), 7, nil)
			if n+2+k <= 120 {
				tells(t, fmt.Sprint(n, " events, ", k, ", Fresh"), x, api.Reply{Run: 2, Num: 2 + k})
			} else {
				wrong(t, fmt.Sprint(n, " events, ", k, ", Fresh"), p, x, api.ErrFull)
			}
		}
	}
	// No room for EvDone counts ahead of what is wanted, no room for the task that follows behind it.
	full, last := flowOf(2, filled(120, taken(1))), flowOf(2, filled(119, taken(1, signaled(6))))
	for _, l := range [][]api.Command{{{}}, slices.Repeat([]api.Command{marker}, 13), {{Kind: api.CmComplete}}} {
		p, x := Complete(full, true, token(l...), 7, nil)
		wrong(t, "full", p, x, api.ErrFull)
	}
	p, x := Complete(last, true, token(slices.Repeat([]api.Command{marker}, 13)...), 7, nil)
	wrong(t, "one event is left", p, x, api.ErrLong)
	p, x = Complete(last, true, token(api.Command{}), 7, nil)
	wrong(t, "one event is left", p, x, api.ErrCommand)
	p, x = Complete(last, true, token(api.Command{Kind: api.CmComplete}), 7, nil)
	wrong(t, "one event is left", p, x, api.ErrUnseen)
	f := with(flowOf(2, taken(1)), func(s *api.State) { s.Count = 0 }) // running, but not started: fold tells ErrEvent
	p, x = Complete(f, true, token(), 7, nil)
	wrong(t, "no events", p, x, api.ErrArg)
	p, x = Fail(f, true, token(), 7)
	wrong(t, "no events", p, x, api.ErrArg)
}

func TestFail(t *testing.T) {
	for _, c := range []struct{ attempt, num, delay int }{
		{1, 2, 10}, {2, 3, 20}, {3, 4, 35}, {4, 5, 35}, {999, 1000, 35}, {1<<31 - 2, 1<<31 - 1, 35}, {1<<31 - 1, 1 << 31, 35}, {1 << 31, 1 << 31, 35},
	} {
		f := flowOf(2, taken(c.attempt))
		for _, why := range []string{"", "why? \xff\x00", strings.Repeat("x", 200)} {
			r := token()
			r.Kind, r.Name = api.OpFail, why
			p, x := Fail(f, true, r, 7)
			made(t, fmt.Sprint("attempt ", c.attempt), f, p, api.Event{Kind: api.EvTaskFailed, Time: 7, Name: why}, scheduledAt(7, c.num, 7+c.delay))
			tells(t, fmt.Sprint("attempt ", c.attempt), x, api.Reply{Run: 2})
		}
	}
	f := flowOf(2, taken(1))
	r := token()
	r.Name = strings.Repeat("x", 201)
	p, x := Fail(f, true, r, 7)
	wrong(t, "a text too long", p, x, api.ErrArg)
	// Of commands, and answers, it takes no notice.
	r = token(slices.Repeat([]api.Command{{}}, 20)...)
	r.Answers, r.Value, r.Wait = []api.Answer{{}}, api.Value{Kind: 9}, math.MinInt
	p, _ = Fail(f, true, r, 7)
	made(t, "more fields", f, p, api.Event{Kind: api.EvTaskFailed, Time: 7}, scheduledAt(7, 2, 17))
	for attempt, code := range map[int]api.Errno{ // attempts that may not be, but may wrap round
		math.MaxInt: api.OK, 1<<31 + 1: api.OK, 0: api.OK, -1: api.ErrArg, math.MinInt: api.ErrArg,
	} {
		g := with(flowOf(2, taken(1)), func(s *api.State) { s.Task.Attempt = attempt })
		p, x := Fail(g, true, token(), 7)
		if code != api.OK {
			wrong(t, fmt.Sprint("attempt ", attempt), p, x, code)
			continue
		}
		if got := p.Flow.State.Task.Attempt; x.Code != api.OK || got != min(max(attempt, 1), 1<<31) {
			t.Errorf("attempt %d: %d, then %d", attempt, x.Code, got)
		}
	}
	// A policy that may not be has no delay.
	g := with(flowOf(2, taken(3)), func(s *api.State) { s.Policy.First = -1 })
	p, _ = Fail(g, true, token(), 7)
	made(t, "a policy that may not be", g, p, api.Event{Kind: api.EvTaskFailed, Time: 7}, scheduledAt(7, 4, 7))
	for n := 117; n <= 120; n++ {
		h := flowOf(2, filled(n, taken(1)))
		p, x := Fail(h, true, token(), 7)
		if n <= 118 {
			made(t, fmt.Sprint(n, " events"), h, p, api.Event{Kind: api.EvTaskFailed, Time: 7}, scheduledAt(7, 2, 17))
		} else {
			wrong(t, fmt.Sprint(n, " events"), p, x, api.ErrFull)
		}
	}
}

// TestRunsOfTheState: whatever the workflow's Runs are, it is the run of its state that is told, and written.
func TestRunsOfTheState(t *testing.T) {
	for _, n := range []int{math.MinInt, 0, 1, 3, math.MaxInt} {
		of := func(h []api.Event) api.Flow {
			f := flowOf(2, h)
			f.Runs = n
			return f
		}
		takes(t, "a task", of(waiting(1, 5)), nil, 10, 7, nil, nil, takenAt(7, 17))
		idles(t, "none", of(idle()), idle(), 10, 7, nil)
		f := of(taken(1))
		p, x := Complete(f, true, token(), 7, nil)
		made(t, "completed", f, p, doneAt(7))
		tells(t, "completed", x, api.Reply{Run: 2, Num: 1})
		_, x = Complete(f, true, api.Request{}, 7, nil)
		tells(t, "no task was taken", x, api.Reply{Run: 2})
		p, x = Fail(f, true, token(), 7)
		made(t, "failed", f, p, api.Event{Kind: api.EvTaskFailed, Time: 7}, scheduledAt(7, 2, 17))
		tells(t, "failed", x, api.Reply{Run: 2})
	}
}

// TestTheExample is the document's.
func TestTheExample(t *testing.T) {
	p, _ := client.Do(api.Flow{}, false, api.Request{Kind: api.OpStart, Flow: "a", Request: "x", Name: "t"}, 0)
	q, x := Poll(p.Flow, true, p.Writes[0].Events, poll(10), 1, nil)
	if x.Num != 3 {
		t.Fatal(x)
	}
	if _, y := Poll(q.Flow, true, x.Events, poll(10), 1, nil); y.Code != api.OK || y.Num != 0 {
		t.Error(y)
	}
	r := api.Request{Kind: api.OpComplete, Run: 1, Num: x.Num}
	z, y := Complete(q.Flow, true, r, 2, nil)
	if y.Code != api.OK {
		t.Error(y)
	}
	if _, y := Complete(z.Flow, true, r, 2, nil); y.Code != api.ErrToken {
		t.Error(y)
	}
	z, y = Fail(q.Flow, true, r, 2)
	if y.Code != api.OK {
		t.Error(y)
	}
	if _, y := Fail(z.Flow, true, r, 2); y.Code != api.ErrToken {
		t.Error(y)
	}
	if _, y := Complete(z.Flow, true, r, 2, nil); y.Code != api.ErrToken {
		t.Error(y)
	}
}
