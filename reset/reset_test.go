package reset

import (
	"fmt"
	"math"
	"reflect"
	"slices"
	"testing"

	"usher/api"
	"usher/branch"
	"usher/fold"
	"usher/rowcode"
	"usher/table"
)

const latest = 1 << 40

// listOf gives a value that has memory of its own.
func listOf(s string) api.Value {
	return api.Value{Kind: api.VList, List: []api.Value{{Kind: api.VText, Text: s}}}
}

func policyOf() api.Policy {
	return api.Policy{First: 10, Coef: 1 << 62, Most: 350}
}

func signal(t int, name string) api.Event {
	return api.Event{Kind: api.EvSignaled, Time: t, Name: name, Value: listOf(name)}
}

func scheduled(t int) api.Event {
	return api.Event{Kind: api.EvScheduled, Time: t, Num: 1, Due: t}
}

func setBack(t, run int) api.Event {
	return api.Event{Kind: api.EvTaskFailed, Time: t, Num: run, Name: "reset"}
}

func terminated(t int) api.Event {
	return api.Event{Kind: api.EvTerminated, Time: t, Name: "reset"}
}

// history is one of a run that goes on: two tasks are done (5, 12), there are signals around both.
func history() []api.Event {
	return []api.Event{
		{Kind: api.EvStarted, Due: 900, Name: "t", Value: listOf("in"), Policy: policyOf()},
		{Kind: api.EvScheduled, Num: 1},
		{Kind: api.EvTaken, Time: 2, Due: 9},
		signal(3, "a"),
		{Kind: api.EvDone, Time: 4},
		{Kind: api.EvTimer, Time: 4, Name: "b", Due: 50},
		{Kind: api.EvAccepted, Time: 4, Name: "u", Value: listOf("u")},
		signal(5, "b"),
		{Kind: api.EvScheduled, Time: 5, Num: 1, Due: 5},
		{Kind: api.EvTaken, Time: 6, Due: 16},
		signal(6, "c"),
		{Kind: api.EvDone, Time: 7},
		{Kind: api.EvMarker, Time: 7, Value: listOf("m")},
		signal(8, "d"),
		{Kind: api.EvScheduled, Time: 8, Num: 1, Due: 8},
	}
}

// ended is that history, over.
func ended() []api.Event {
	return append(history(), api.Event{Kind: api.EvTerminated, Time: 8, Name: "why"})
}

// filled is a history of n events, whose last ones change nothing.
func filled(n int) []api.Event {
	h := history()
	for len(h) < n {
		h = append(h, api.Event{Kind: api.EvMarker, Time: 8})
	}
	return h
}

// tableOf gives a table of n requests that had their effect in the first run.
func tableOf(n int) []api.Done {
	var out []api.Done
	for i := range n {
		out = append(out, api.Done{Request: fmt.Sprintf("m%02d", i), Kind: api.OpSignal, Key: []byte{byte(i), 7}, Run: 1})
	}
	return out
}

// flowOf gives a workflow of so many runs, the last one's history that.
func flowOf(runs int, h []api.Event) api.Flow {
	s, _, e := fold.Build(runs, h)
	if e != api.OK {
		panic(e)
	}
	return api.Flow{Name: "f", Runs: runs, State: s, Table: tableOf(3)}
}

func request(num int) api.Request {
	return api.Request{Kind: api.OpReset, Flow: "f", Request: "r", Num: num}
}

func used(f api.Flow, r api.Request, run int) api.Flow {
	f.Table, _ = table.Add(f.Table, r, run)
	return f
}

// same complains unless two plans are the same, an empty list being as none.
func same(t *testing.T, why string, got, want api.Plan) {
	t.Helper()
	if got.Changed != want.Changed || !rowcode.Same(got.Flow, want.Flow) {
		t.Errorf("%s: the plan is\n%+v, not\n%+v", why, got, want)
	}
	ok := slices.EqualFunc(got.Writes, want.Writes, func(a, b api.History) bool {
		return a.Run == b.Run && a.From == b.From && a.Keep == b.Keep && a.At == b.At && branch.Same(a.Events, b.Events)
	})
	if !ok {
		t.Errorf("%s: the histories are\n%+v, not\n%+v", why, got.Writes, want.Writes)
	}
}

// goesBack complains unless a request to set f back at the time now makes a run of h's first events and l, and ends the old one at that time, if end is so.
func goesBack(t *testing.T, why string, f api.Flow, h []api.Event, r api.Request, now int, end bool, l ...api.Event) {
	t.Helper()
	got, x := Do(f, true, h, r, now)
	if !reflect.DeepEqual(x, api.Reply{Run: f.Runs + 1}) {
		t.Errorf("%s: told %+v", why, x)
	}
	s, _, e := fold.Build(f.Runs+1, append(slices.Clone(h[:r.Num-1]), l...))
	if e != api.OK {
		t.Fatalf("%s: a test's events may not come: %d", why, e)
	}
	want := api.Plan{Changed: true, Flow: used(f, r, f.Runs+1)}
	want.Flow.Runs, want.Flow.State = f.Runs+1, s
	if end {
		want.Writes = append(want.Writes, api.History{Run: f.State.Run, At: f.State.Count, Events: []api.Event{terminated(l[0].Time)}})
	}
	want.Writes = append(want.Writes, api.History{Run: f.Runs + 1, From: f.State.Run, Keep: r.Num - 1, Events: l})
	same(t, why, got, want)
}

// answers complains unless a request is told that, without a plan.
func answers(t *testing.T, why string, f api.Flow, there bool, h []api.Event, r api.Request, now int, want api.Reply) {
	t.Helper()
	p, x := Do(f, there, h, r, now)
	if !reflect.DeepEqual(p, api.Plan{}) {
		t.Errorf("%s: a plan: %+v", why, p)
	}
	if !reflect.DeepEqual(x, want) {
		t.Errorf("%s: %+v, not %+v", why, x, want)
	}
}

func refuses(t *testing.T, why string, f api.Flow, h []api.Event, r api.Request, code api.Errno) {
	t.Helper()
	answers(t, why, f, true, h, r, 9, api.Reply{Code: code})
}

func TestPoints(t *testing.T) {
	for _, h := range [][]api.Event{nil, {}, history()[:1], history()[:4], {{Kind: api.EvTaskFailed}, {Kind: 0}, {Kind: 20}, {Kind: 256 + api.EvDone}, {Kind: -api.EvDone}, {Kind: math.MaxInt}, {Kind: math.MinInt}}} {
		if l := Points(h); len(l) != 0 {
			t.Errorf("%v of %v", l, h)
		}
	}
	done := api.Event{Kind: api.EvDone, Time: -1, Num: 7, Name: "what it has not"}
	for want, h := range map[[3]int][]api.Event{
		{5}:       history()[:5],
		{5, 12}:   history(),
		{1}:       {done},
		{1, 2, 3}: {done, done, done},
		{2, 4}:    {{}, done, {}, done, {}},
	} {
		if l := Points(h); !slices.Equal(append(l, 0, 0, 0)[:3], want[:]) {
			t.Errorf("%v, not %v", l, want)
		}
	}
	if l := Points(slices.Repeat([]api.Event{done}, 300)); len(l) != 300 || l[299] != 300 {
		t.Error("300 events", l)
	}
}

func TestAgain(t *testing.T) {
	for want, points := range map[string][]int{
		"abcd": {math.MinInt, -2, -1, 0, 1, 2, 3},
		"bcd":  {4, 5, 6, 7}, // at a signal, and behind it
		"cd":   {8, 9, 10},
		"d":    {11, 12, 13},
		"":     {14, 15, 16, 17, 1000, math.MaxInt},
	} {
		for _, point := range points {
			l := []api.Event{setBack(9, 3)}
			for _, c := range want {
				l = append(l, signal(9, string(c)))
			}
			l = append(l, scheduled(9))
			if got := Again(history(), point, 3, 9); !branch.Same(got, l) {
				t.Errorf("at %d: %v, not %v", point, got, l)
			}
		}
	}
	for _, h := range [][]api.Event{nil, {}, history()[:3], {{}}} {
		for _, point := range []int{math.MinInt, -1, 0, 1, 2, math.MaxInt} {
			if got := Again(h, point, 1, 7); !branch.Same(got, []api.Event{setBack(7, 1), scheduled(7)}) {
				t.Errorf("no signals: %v", got)
			}
		}
	}
	for _, n := range []int{math.MinInt, -1, 0, 10, 11, math.MaxInt} { // whatever the run and the time are
		for _, at := range []int{math.MinInt, -1, 0, latest, latest + 1, math.MaxInt} {
			if got := Again(history(), 13, n, at); !branch.Same(got, []api.Event{setBack(at, n), signal(at, "d"), scheduled(at)}) {
				t.Errorf("run %d at %d: %v", n, at, got)
			}
		}
	}
	// A signal made anew has its Name and its Value, and nothing of what it had beside.
	odd := api.Event{Kind: api.EvSignaled, Time: 77, Num: 5, Due: 6, Name: "no name!", Value: api.Value{Kind: 9, Int: 3, Text: "x", List: []api.Value{{Kind: -1}}}, Policy: policyOf()}
	want := api.Event{Kind: api.EvSignaled, Time: 9, Name: odd.Name, Value: odd.Value}
	if got := Again([]api.Event{odd}, 0, 1, 9); !branch.Same(got, []api.Event{setBack(9, 1), want, scheduled(9)}) {
		t.Errorf("%v", got)
	}
}

func TestDo(t *testing.T) {
	h := history()
	goesBack(t, "to the last task", flowOf(1, h), h, request(12), 9, true, setBack(9, 1), signal(9, "d"), scheduled(9))
	goesBack(t, "to the first task", flowOf(1, h), h, request(5), 9, true, setBack(9, 1), signal(9, "b"), signal(9, "c"), signal(9, "d"), scheduled(9))
	goesBack(t, "of a run that is over", flowOf(4, ended()), ended(), request(12), 9, false, setBack(9, 4), signal(9, "d"), scheduled(9))
	goesBack(t, "of a run that is over", flowOf(4, ended()), ended(), request(5), 9, false, setBack(9, 4), signal(9, "b"), signal(9, "c"), signal(9, "d"), scheduled(9))
	goesBack(t, "to the last event", flowOf(2, h[:12]), h[:12], request(12), 9, true, setBack(9, 2), scheduled(9))
	goesBack(t, "no signals behind", flowOf(2, h[:7]), h[:7], request(5), 9, true, setBack(9, 2), scheduled(9))
	for _, end := range []api.Event{
		{Kind: api.EvCompleted, Time: 8, Value: listOf("out")}, {Kind: api.EvFailed, Time: 8, Name: "why"}, {Kind: api.EvTerminated, Time: 8}, {Kind: api.EvTimedOut, Time: 900},
	} {
		g := append(history()[:10:10], api.Event{Kind: api.EvDone, Time: 7}, end)
		f := flowOf(2, g)
		at := max(9, f.State.Time)
		goesBack(t, fmt.Sprint("ended by ", end.Kind), f, g, request(11), 9, false, setBack(at, 2), scheduled(at))
		goesBack(t, fmt.Sprint("ended by ", end.Kind), f, g, request(5), 9, false, setBack(at, 2), signal(at, "b"), scheduled(at))
	}
	answers(t, "none there", api.Flow{}, false, nil, request(5), 9, api.Reply{Code: api.ErrNone})
	answers(t, "one that is not there", flowOf(2, h), false, h, request(5), 9, api.Reply{Code: api.ErrNone})
	answers(t, "one that is not there, of a name that was used", used(flowOf(2, h), request(5), 1), false, h, request(5), 9, api.Reply{Code: api.ErrNone})
	answers(t, "the zero request", api.Flow{}, false, nil, api.Request{}, 0, api.Reply{Code: api.ErrNone})
	answers(t, "all zero, there", api.Flow{}, true, nil, api.Request{}, 0, api.Reply{Code: api.ErrPoint})
}

// TestTheStates: what the new run knows is what the history said ahead of the point, and the signals behind it.
func TestTheStates(t *testing.T) {
	h := history()
	p, _ := Do(flowOf(3, h), true, h, request(12), 9)
	s := p.Flow.State
	if s.Run != 4 || s.From != 3 || s.Count != 14 || s.Signals != 4 || s.Time != 9 || s.Deadline != 900 || !s.Fresh || len(s.Timers) != 1 || len(s.Updates) != 1 || s.Task != (api.Task{State: api.TaskWaits, Attempt: 1, Due: 9}) {
		t.Errorf("%+v", s)
	}
	p, _ = Do(flowOf(3, h), true, h, request(5), 9)
	s = p.Flow.State
	if s.Run != 4 || s.From != 3 || s.Count != 9 || s.Signals != 4 || len(s.Timers) != 0 || len(s.Updates) != 0 {
		t.Errorf("%+v", s)
	}
}

func TestTheExample(t *testing.T) {
	h := append(history()[:3:3], api.Event{Kind: api.EvDone, Time: 4}, signal(4, "s"))
	p, _ := Do(flowOf(1, h), true, h, request(4), 9)
	var kinds []int
	for _, e := range append(branch.Fork(h, p.Writes[1].Keep), p.Writes[1].Events...) {
		kinds = append(kinds, e.Kind)
	}
	if !slices.Equal(kinds, []int{api.EvStarted, api.EvScheduled, api.EvTaken, api.EvTaskFailed, api.EvSignaled, api.EvScheduled}) {
		t.Error(kinds)
	}
}

func TestNumsThatAreNoPoint(t *testing.T) {
	for _, num := range []int{math.MinInt, -12, -1, 0, 1, 4, 6, 11, 13, 15, 16, 120, 256 + 5, 1<<32 + 5, math.MaxInt} {
		refuses(t, fmt.Sprint("running, to ", num), flowOf(2, history()), history(), request(num), api.ErrPoint)
		refuses(t, fmt.Sprint("over, to ", num), flowOf(2, ended()), ended(), request(num), api.ErrPoint)
		refuses(t, fmt.Sprint("no history, to ", num), flowOf(2, history()), nil, request(num), api.ErrPoint)
		refuses(t, fmt.Sprint("too many runs, to ", num), flowOf(10, history()), history(), request(num), api.ErrPoint)
	}
	refuses(t, "no task was done", flowOf(2, history()[:4]), history()[:4], request(4), api.ErrPoint)
}

func TestNamesThatWereUsed(t *testing.T) {
	full := flowOf(10, filled(120))
	full.Table = tableOf(29)
	for why, f := range map[string]api.Flow{"running": flowOf(3, history()), "over": flowOf(3, ended()), "the zero workflow": {}, "full": full} {
		for _, num := range []int{math.MinInt, 0, 4, 5, 12, math.MaxInt} {
			r := request(num)
			why := fmt.Sprint(why, ", to ", num)
			for _, run := range []int{1, 3} {
				answers(t, why, used(f, r, run), true, history(), r, 9, api.Reply{Run: run})
				answers(t, why+", no history", used(f, r, run), true, nil, r, math.MinInt, api.Reply{Run: run})
			}
			for change, other := range map[string]api.Request{
				"Kind": {Kind: api.OpSignal, Request: "r", Num: num}, "Num": request(num + 1), "Name": {Kind: api.OpReset, Request: "r", Num: num, Name: "n"},
				"Value": {Kind: api.OpReset, Request: "r", Num: num, Value: listOf("v")}, "Policy": {Kind: api.OpReset, Request: "r", Num: num, Policy: policyOf()},
			} {
				refuses(t, why+", another "+change, used(f, other, 1), history(), r, api.ErrMismatch)
			}
			other := r
			other.Flow, other.Run, other.Wait = "g", 7, 8 // of these a name says nothing
			answers(t, why, used(f, other, 1), true, history(), r, 9, api.Reply{Run: 1})
		}
	}
}

func TestRuns(t *testing.T) {
	h := history()
	for runs := 1; runs <= 9; runs++ {
		goesBack(t, fmt.Sprint(runs, " runs"), flowOf(runs, h), h, request(12), 9, true, setBack(9, runs), signal(9, "d"), scheduled(9))
	}
	refuses(t, "10 runs", flowOf(10, h), h, request(12), api.ErrFull)
	refuses(t, "10 runs, over", flowOf(10, ended()), ended(), request(12), api.ErrFull)
	for _, runs := range []int{10, 11, 1000, math.MaxInt} {
		f := flowOf(3, h)
		f.Runs = runs
		refuses(t, fmt.Sprint(runs, " runs"), f, h, request(12), api.ErrFull)
		refuses(t, fmt.Sprint(runs, " runs, a history that is none"), f, []api.Event{{Kind: api.EvDone}}, request(1), api.ErrFull)
	}
	for _, runs := range []int{-1, -2, -1000, math.MinInt} { // of which no run comes
		f := flowOf(3, h)
		f.Runs = runs
		refuses(t, fmt.Sprint(runs, " runs"), f, h, request(12), api.ErrPoint)
	}
}

// doneAt is a history whose last task is done as event n, with so many signals behind it.
func doneAt(n, signals int) []api.Event {
	h := filled(15)[:3]
	for len(h) < n-1 {
		h = append(h, api.Event{Kind: api.EvMarker, Time: 3})
	}
	h = append(h, api.Event{Kind: api.EvDone, Time: 4})
	for range signals {
		h = append(h, signal(5, "s"))
	}
	return h
}

func TestHowManyEvents(t *testing.T) {
	for _, c := range []struct {
		n, signals int
		code       api.Errno
	}{
		{118, 0, api.OK}, {119, 0, api.OK}, {120, 0, api.ErrFull},
		{117, 1, api.OK}, {118, 1, api.OK}, {119, 1, api.ErrFull}, {118, 2, api.ErrFull},
		{60, 58, api.OK}, {60, 59, api.OK}, {60, 60, api.ErrFull}, {4, 115, api.OK}, {4, 116, api.ErrFull},
	} {
		h := doneAt(c.n, c.signals)
		f := flowOf(2, ended()) // over: no room is needed for its end
		p, x := Do(f, true, h, request(c.n), 9)
		if x.Code != c.code {
			t.Errorf("%d, and %d signals: %d, not %d", c.n, c.signals, x.Code, c.code)
		}
		if x.Code == api.OK && (p.Flow.State.Count != c.n-1+2+c.signals || len(p.Writes) != 1 || len(p.Writes[0].Events) != 2+c.signals) {
			t.Errorf("%d, and %d signals: %+v", c.n, c.signals, p)
		}
	}
	// The signals of one that is longer than any history count, too; and they count ahead of what may not come.
	h := append(doneAt(4, 0), slices.Repeat([]api.Event{signal(5, "s")}, 500)...)
	refuses(t, "too many signals", flowOf(1, ended()), h, request(4), api.ErrFull)
	h[0] = api.Event{}
	refuses(t, "too many signals of what is no history", flowOf(1, ended()), h, request(4), api.ErrFull)
	refuses(t, "what is no history", flowOf(1, ended()), h[:100], request(4), api.ErrPoint)
	// 119 events and two are one too many; 118 and two are not.
	for n, code := range map[int]api.Errno{117: api.OK, 118: api.OK, 119: api.OK, 120: api.ErrFull} {
		h := doneAt(n, 0)
		if p, x := Do(flowOf(2, h), true, h, request(n), 9); x.Code != code || p.Changed != (code == api.OK) {
			t.Errorf("running, back to %d: %d, not %d", n, x.Code, code)
		}
	}
}

// TestFullHistories: a run that goes on must have room for its end, one that is over need not.
func TestFullHistories(t *testing.T) {
	for _, n := range []int{118, 119} {
		h := filled(n)
		goesBack(t, fmt.Sprint(n, " events"), flowOf(2, h), h, request(12), 9, true, setBack(9, 2), signal(9, "d"), scheduled(9))
	}
	refuses(t, "120 events", flowOf(2, filled(120)), filled(120), request(12), api.ErrFull)
	h := append(filled(119), api.Event{Kind: api.EvTerminated, Time: 8})
	goesBack(t, "120 events, over", flowOf(2, h), h, request(12), 9, false, setBack(9, 2), signal(9, "d"), scheduled(9))
	// Whatever hinders the end is told as ErrFull, behind what hinders the new run.
	f := flowOf(2, history())
	f.State.Count = 0
	refuses(t, "running, but not started", f, history(), request(12), api.ErrFull)
	refuses(t, "running, but not started, and what is no history", f, append([]api.Event{{}}, history()[1:]...), request(12), api.ErrPoint)
	for _, n := range []int{120, 121, math.MaxInt} {
		f.State.Count = n
		refuses(t, fmt.Sprint("Count ", n), f, history(), request(12), api.ErrFull)
	}
}

func TestFullTables(t *testing.T) {
	for n := 28; n <= 32; n++ {
		for why, h := range map[string][]api.Event{"running": history(), "over": ended()} {
			f := flowOf(2, h)
			f.Table = tableOf(n)
			why := fmt.Sprint(why, ", a table of ", n)
			if n < 30 {
				goesBack(t, why, f, h, request(12), 9, why[0] == 'r', setBack(9, 2), signal(9, "d"), scheduled(9))
				continue
			}
			refuses(t, why, f, h, request(12), api.ErrFull)
			refuses(t, why, f, h, request(11), api.ErrPoint)
			refuses(t, why, f, append([]api.Event{{}}, h[1:]...), request(12), api.ErrPoint)
		}
	}
}

func TestTimes(t *testing.T) {
	for now, at := range map[int]int{math.MinInt: 8, -1: 8, 0: 8, 7: 8, 8: 8, 9: 9, latest - 1: latest - 1, latest: latest, latest + 1: latest, math.MaxInt: latest} {
		goesBack(t, fmt.Sprint("running, at ", now), flowOf(2, history()), history(), request(12), now, true, setBack(at, 2), signal(at, "d"), scheduled(at))
		goesBack(t, fmt.Sprint("over, at ", now), flowOf(2, ended()), ended(), request(12), now, false, setBack(at, 2), signal(at, "d"), scheduled(at))
	}
	for _, n := range []int{math.MinInt, -1, 6, 7} { // the workflow's Time, not the history's, is what counts
		f := flowOf(2, ended())
		f.State.Time = n
		code := api.ErrPoint
		if n >= 6 {
			code = api.OK
		}
		if _, x := Do(f, true, ended(), request(12), math.MinInt); x.Code != code {
			t.Errorf("Time %d: %d", n, x.Code)
		}
	}
	for _, n := range []int{latest + 1, math.MaxInt} {
		f := flowOf(2, ended())
		f.State.Time = n
		refuses(t, fmt.Sprint("Time ", n), f, ended(), request(12), api.ErrPoint)
	}
}

// TestHistoriesOfOthers: a history that is not the workflow's own is set back as it stands, if what comes of it is legal.
func TestHistoriesOfOthers(t *testing.T) {
	f := flowOf(3, history()[:2])
	goesBack(t, "a longer one", f, history(), request(12), 9, true, setBack(9, 3), signal(9, "d"), scheduled(9))
	goesBack(t, "of one that is over", flowOf(3, ended()), history(), request(5), 9, false, setBack(9, 3), signal(9, "b"), signal(9, "c"), signal(9, "d"), scheduled(9))
	// What stands behind the point need not be such that may come, but for its signals.
	odd := append(history()[:12:12], api.Event{Kind: 99}, signal(-5, "d"), api.Event{Kind: api.EvStarted})
	goesBack(t, "what may not come, behind", f, odd, request(12), 9, true, setBack(9, 3), signal(9, "d"), scheduled(9))
	for why, h := range map[string][]api.Event{
		"a signal that may not be":   append(history()[:12:12], api.Event{Kind: api.EvSignaled, Name: "no name!"}),
		"a value that may not be":    append(history()[:12:12], api.Event{Kind: api.EvSignaled, Name: "s", Value: api.Value{Kind: 9}}),
		"what may not be, ahead":     append(append([]api.Event{{Kind: 99}}, history()[1:11]...), history()[11]),
		"what may not come, ahead":   append(append(history()[:2:2], history()[1]), history()[3:12]...),
		"later than the workflow is": append(append(history()[:10:10], signal(10, "c")), history()[11]),
		"an end ahead":               append(append(history()[:10:10], api.Event{Kind: api.EvTerminated, Time: 6}), history()[11]),
		"no task is taken":           append(append(history()[:8:8], history()[8], api.Event{Kind: api.EvMarker, Time: 6}, signal(6, "c")), history()[11]),
	} {
		refuses(t, why, f, h, request(12), api.ErrPoint)
	}
	refuses(t, "done ahead of all", f, []api.Event{{Kind: api.EvDone}}, request(1), api.ErrPoint)
	// The zero workflow: its next run is the first one, of none.
	p, x := Do(api.Flow{}, true, history(), request(12), 9)
	l := []api.Event{setBack(9, 0), signal(9, "d"), scheduled(9)}
	s, _, _ := fold.Build(1, append(history()[:11], l...))
	if !reflect.DeepEqual(x, api.Reply{Run: 1}) {
		t.Error(x)
	}
	same(t, "the zero workflow", p, api.Plan{Changed: true, Flow: used(api.Flow{Runs: 1, State: s}, request(12), 1), Writes: []api.History{{Run: 1, Keep: 11, Events: l}}})
	// A state of another run than Runs says: it is that run which is set back.
	f = flowOf(3, history())
	f.Runs = 6
	goesBack(t, "a state of another run", f, history(), request(12), 9, true, setBack(9, 3), signal(9, "d"), scheduled(9))
	for _, n := range []int{math.MinInt, -1, 11, math.MaxInt} {
		f.State.Run = n
		refuses(t, fmt.Sprint("a state of the run ", n), f, history(), request(12), api.ErrPoint)
	}
	for _, n := range []int{math.MinInt, -1, 0, 2, 7, math.MaxInt} { // no Status but one is running
		f := flowOf(3, history())
		f.State.Status = n
		goesBack(t, fmt.Sprint("Status ", n), f, history(), request(12), 9, false, setBack(9, 3), signal(9, "d"), scheduled(9))
	}
}
