package client

import (
	"fmt"
	"math"
	"math/rand"
	"reflect"
	"slices"
	"strings"
	"testing"

	"usher/api"
	"usher/branch"
	"usher/fold"
	"usher/rowcode"
	"usher/state"
	"usher/table"
)

const latest = 1 << 40

func long(n int) string {
	return strings.Repeat("x", n)
}

// request gives one of that kind, with a Name whether the kind has one or not.
func request(kind int) api.Request {
	r := api.Request{Kind: kind, Flow: "f", Request: "r", Name: "n"}
	switch kind {
	case api.OpStart, api.OpSignalStart:
		r.Value, r.Num, r.Policy = listOf("v"), 30, policyOf()
	case api.OpSignal:
		r.Value = listOf("v")
	}
	return r
}

// with gives a request, changed.
func with(r api.Request, change func(r *api.Request)) api.Request {
	change(&r)
	return r
}

func numbered(kind, num int) api.Request {
	return with(request(kind), func(r *api.Request) { r.Num = num })
}

// planWith gives the plan by which f has that state, and knows the request.
func planWith(f api.Flow, s api.State, at int, r api.Request, l []api.Event) api.Plan {
	f.Runs, f.State = s.Run, s
	f.Table, _ = table.Add(f.Table, r, s.Run)
	return api.Plan{Changed: true, Flow: f, Writes: []api.History{{Run: s.Run, At: at, Events: l}}}
}

// grows complains unless a request puts these events behind the last run's history.
func grows(t *testing.T, why string, f api.Flow, r api.Request, now int, l ...api.Event) {
	t.Helper()
	got, x := Do(f, true, r, now)
	s, _, e := fold.Extend(f.State, l)
	if e != api.OK {
		t.Fatalf("%s: a test's events may not come: %d", why, e)
	}
	same(t, why, got, planWith(f, s, f.State.Count, r, l))
	tells(t, why, x, api.Reply{Run: f.State.Run})
}

// starts complains unless a request makes a further run of these events.
func starts(t *testing.T, why string, f api.Flow, there bool, r api.Request, now int, l ...api.Event) {
	t.Helper()
	got, x := Do(f, there, r, now)
	if !there {
		f = api.Flow{Name: r.Flow}
	}
	s, _, e := fold.Build(f.Runs+1, l)
	if e != api.OK {
		t.Fatalf("%s: a test's events may not come: %d", why, e)
	}
	same(t, why, got, planWith(f, s, 0, r, l))
	tells(t, why, x, api.Reply{Run: f.Runs + 1})
}

// tells complains unless a reply is that one.
func tells(t *testing.T, why string, got, want api.Reply) {
	t.Helper()
	if !state.Same(got.State, want.State) {
		t.Errorf("%s: the state\n%+v, not\n%+v", why, got.State, want.State)
	}
	got.State, want.State = api.State{}, api.State{}
	if !reflect.DeepEqual(got, want) {
		t.Errorf("%s: %+v, not %+v", why, got, want)
	}
}

// refuses complains unless a request is told that error, and changes nothing.
func refuses(t *testing.T, why string, f api.Flow, there bool, r api.Request, now int, code api.Errno) {
	t.Helper()
	answers(t, why, f, there, r, now, api.Reply{Code: code})
}

// answers complains unless a request is told that, without a plan.
func answers(t *testing.T, why string, f api.Flow, there bool, r api.Request, now int, want api.Reply) {
	t.Helper()
	p, x := Do(f, there, r, now)
	if !reflect.DeepEqual(p, api.Plan{}) {
		t.Errorf("%s: a plan: %+v", why, p)
	}
	tells(t, why, x, want)
}

func startedAt(t, due int, v api.Value) api.Event {
	return api.Event{Kind: api.EvStarted, Time: t, Name: "n", Value: v, Due: due, Policy: policyOf()}
}

func scheduledAt(t int) api.Event {
	return api.Event{Kind: api.EvScheduled, Time: t, Num: 1, Due: t}
}

func signaledAt(t int) api.Event {
	return api.Event{Kind: api.EvSignaled, Time: t, Name: "n", Value: listOf("v")}
}

func terminatedAt(t int, why string) api.Event {
	return api.Event{Kind: api.EvTerminated, Time: t, Name: why}
}

// over are workflows that run no more, in each way that there is.
func over() map[string]api.Flow {
	closed := func(l ...api.Event) api.Flow {
		return flowOf(2, append(append(takes(), api.Event{Kind: api.EvDone, Time: 7}), l...)...)
	}
	return map[string]api.Flow{
		"completed":  closed(api.Event{Kind: api.EvCompleted, Time: 7, Value: listOf("out")}),
		"failed":     closed(api.Event{Kind: api.EvFailed, Time: 7, Name: "why"}),
		"terminated": flowOf(2, ends()...),
		"timed out":  flowOf(2, api.Event{Kind: api.EvTimedOut, Time: 900}),
		"canceled": flowOf(2, api.Event{Kind: api.EvCancel, Time: 5}, scheduledAt(5), api.Event{Kind: api.EvTaken, Time: 6, Due: 60},
			api.Event{Kind: api.EvDone, Time: 7}, api.Event{Kind: api.EvCanceled, Time: 7}),
	}
}

func TestKindsOfRequests(t *testing.T) {
	for kind, want := range map[int]int{api.OpStart: 1, api.OpSignal: 2, api.OpSignalStart: 3, api.OpCancel: 6, api.OpTerminate: 7, api.OpDescribe: 9} {
		if kind != want {
			t.Errorf("a kind is %d, not %d", kind, want)
		}
	}
	for _, kind := range []int{math.MinInt, -1, 0, api.OpQuery, api.OpUpdate, api.OpReset, api.OpPoll, api.OpComplete, api.OpFail, api.OpFire, 14, 256 + 1, 1<<32 + 1, math.MaxInt} {
		refuses(t, fmt.Sprint("kind ", kind, ", none there"), api.Flow{}, false, request(kind), 9, api.ErrArg)
		refuses(t, fmt.Sprint("kind ", kind, ", running"), flowOf(1), true, request(kind), 9, api.ErrArg)
		refuses(t, fmt.Sprint("kind ", kind, ", over"), flowOf(1, ends()...), true, request(kind), 9, api.ErrArg)
		refuses(t, fmt.Sprint("kind ", kind, ", no request's name"), flowOf(1), true, api.Request{Kind: kind}, 9, api.ErrArg)
	}
	refuses(t, "the zero request", api.Flow{}, false, api.Request{}, 0, api.ErrArg)
	refuses(t, "the zero request of the zero workflow", api.Flow{}, true, api.Request{}, 0, api.ErrArg)
}

func TestDescribe(t *testing.T) {
	r := api.Request{Kind: api.OpDescribe, Flow: "f"}
	refuses(t, "none there", api.Flow{}, false, r, 9, api.ErrNone)
	refuses(t, "one that is not there", flowOf(3), false, r, 9, api.ErrNone)
	for why, f := range over() {
		answers(t, why, f, true, r, 9, api.Reply{Run: 2, State: f.State})
	}
	for runs := 1; runs <= 10; runs++ {
		f := flowOf(runs, takes()...)
		answers(t, "running", f, true, r, math.MinInt, api.Reply{Run: runs, State: f.State})
	}
	answers(t, "the zero workflow", api.Flow{}, true, r, 9, api.Reply{})
	// The table is not asked: a name that was used is nothing to it.
	f := flowOf(3)
	r.Request, r.Name, r.Value = f.Table[0].Request, "n", listOf("v")
	answers(t, "a name that was used", f, true, r, 9, api.Reply{Run: 3, State: f.State})
	// What is told is new memory.
	_, x := Do(f, true, r, 9)
	spoilState(x.State)
	if !reflect.DeepEqual(f, flowOf(3)) {
		t.Error("the workflow changed with what was told")
	}
	_, x = Do(f, true, r, 9)
	spoil(f)
	tells(t, "what was handed in was spoilt", x, api.Reply{Run: 3, State: flowOf(3).State})
}

func TestStart(t *testing.T) {
	r := request(api.OpStart)
	starts(t, "none there", api.Flow{}, false, r, 9, startedAt(9, 39, listOf("v")), scheduledAt(9))
	starts(t, "what is not there does not count", flowOf(3), false, r, 9, startedAt(9, 39, listOf("v")), scheduledAt(9))
	for why, f := range over() {
		at := max(f.State.Time, 9)
		starts(t, why, f, true, r, 9, startedAt(at, at+30, listOf("v")), scheduledAt(at))
	}
	for why, f := range map[string]api.Flow{"no task": flowOf(2), "a task waits": flowOf(2, waits()...), "a task is taken": flowOf(2, takes()...), "the last run": flowOf(10)} {
		refuses(t, "running, "+why, f, true, r, 9, api.ErrStarted)
	}
	bare := api.Request{Kind: api.OpStart, Flow: "g", Request: "q", Name: "t"}
	starts(t, "nothing but a type", api.Flow{}, false, bare, 9, api.Event{Kind: api.EvStarted, Time: 9, Name: "t"}, scheduledAt(9))
}

// TestTimeOfARun: of Num so much counts, from the time on at which the run starts.
func TestTimeOfARun(t *testing.T) {
	for _, kind := range []int{api.OpStart, api.OpSignalStart} {
		started := func(at, due int) []api.Event {
			if kind == api.OpStart {
				return []api.Event{startedAt(at, due, listOf("v")), scheduledAt(at)}
			}
			return []api.Event{startedAt(at, due, api.Value{}), signaledAt(at), scheduledAt(at)}
		}
		for num, due := range map[int]int{
			math.MinInt: 0, -1: 0, 0: 0, 1: 10, 2: 11, 1 << 30: 9 + 1<<30, 1<<41 - 9: 1 << 41,
		} {
			starts(t, fmt.Sprint("kind ", kind, " Num ", num), api.Flow{}, false, numbered(kind, num), 9, started(9, due)...)
		}
		for _, num := range []int{1<<41 - 8, 1 << 41, 1<<41 + 1, math.MaxInt} { // later than any deadline
			refuses(t, fmt.Sprint("kind ", kind, " Num ", num), api.Flow{}, false, numbered(kind, num), 9, api.ErrArg)
		}
		for _, num := range []int{1<<41 - 1, 1 << 41, 1<<41 + 1, 1 << 42, math.MaxInt - 1, math.MaxInt} { // at most 2^41 count
			starts(t, fmt.Sprint("kind ", kind, " Num ", num, " at 0"), api.Flow{}, false, numbered(kind, num), 0, started(0, min(num, 1<<41))...)
		}
		starts(t, "at the latest time", api.Flow{}, false, numbered(kind, latest), math.MaxInt, started(latest, 1<<41)...)
		refuses(t, "behind the latest deadline", api.Flow{}, false, numbered(kind, latest+1), latest, api.ErrArg)
	}
}

func TestTimes(t *testing.T) {
	r := request(api.OpStart)
	for now, at := range map[int]int{math.MinInt: 0, -1: 0, 0: 0, 1: 1, latest - 1: latest - 1, latest: latest, latest + 1: latest, math.MaxInt: latest} {
		starts(t, fmt.Sprint("none there, at ", now), api.Flow{}, false, r, now, startedAt(at, at+30, listOf("v")), scheduledAt(at))
	}
	// Of one that is there time does not go back.
	for now, at := range map[int]int{math.MinInt: 7, -1: 7, 6: 7, 7: 7, 8: 8, latest: latest, latest + 1: latest, math.MaxInt: latest} {
		f := over()["terminated"]
		starts(t, fmt.Sprint("over at 7, at ", now), f, true, r, now, startedAt(at, at+30, listOf("v")), scheduledAt(at))
	}
	for now, at := range map[int]int{math.MinInt: 4, -1: 4, 3: 4, 4: 4, 5: 5, latest: latest, latest + 1: latest, math.MaxInt: latest} {
		f := flowOf(2)
		grows(t, fmt.Sprint("OpSignal at ", now), f, request(api.OpSignal), now, signaledAt(at), scheduledAt(at))
		grows(t, fmt.Sprint("OpSignalStart at ", now), f, request(api.OpSignalStart), now, signaledAt(at), scheduledAt(at))
		grows(t, fmt.Sprint("OpCancel at ", now), f, request(api.OpCancel), now, api.Event{Kind: api.EvCancel, Time: at}, scheduledAt(at))
		grows(t, fmt.Sprint("OpTerminate at ", now), f, request(api.OpTerminate), now, terminatedAt(at, "n"))
	}
}

func TestSignal(t *testing.T) {
	r := request(api.OpSignal)
	refuses(t, "none there", api.Flow{}, false, r, 9, api.ErrNone)
	refuses(t, "one that is not there", flowOf(3), false, r, 9, api.ErrNone)
	for why, f := range over() {
		refuses(t, why, f, true, r, 9, api.ErrClosed)
	}
	grows(t, "no task", flowOf(2), r, 9, signaledAt(9), scheduledAt(9))
	grows(t, "a task waits", flowOf(2, waits()...), r, 9, signaledAt(9))
	grows(t, "a task is taken", flowOf(2, takes()...), r, 9, signaledAt(9))
	grows(t, "the last run", flowOf(10), r, 9, signaledAt(9), scheduledAt(9))
	grows(t, "no value", flowOf(2), api.Request{Kind: api.OpSignal, Flow: "f", Request: "q", Name: "n"}, 9, api.Event{Kind: api.EvSignaled, Time: 9, Name: "n"}, scheduledAt(9))
	// What a signal has not changes nothing but its Key.
	grows(t, "more fields", flowOf(2), with(r, func(r *api.Request) { r.Num, r.Policy, r.Wait, r.Run = math.MaxInt, api.Policy{First: -1}, 5, 7 }), 9, signaledAt(9), scheduledAt(9))
}

func TestSignalStart(t *testing.T) {
	r := request(api.OpSignalStart)
	starts(t, "none there", api.Flow{}, false, r, 9, startedAt(9, 39, api.Value{}), signaledAt(9), scheduledAt(9))
	starts(t, "what is not there does not count", flowOf(3), false, r, 9, startedAt(9, 39, api.Value{}), signaledAt(9), scheduledAt(9))
	for why, f := range over() {
		at := max(f.State.Time, 9)
		starts(t, why, f, true, r, 9, startedAt(at, at+30, api.Value{}), signaledAt(at), scheduledAt(at))
	}
	grows(t, "no task", flowOf(2), r, 9, signaledAt(9), scheduledAt(9))
	grows(t, "a task waits", flowOf(2, waits()...), r, 9, signaledAt(9))
	grows(t, "a task is taken", flowOf(2, takes()...), r, 9, signaledAt(9))
	grows(t, "the last run", flowOf(10), r, 9, signaledAt(9), scheduledAt(9))
	// Of one that runs it is as a signal: how a run would start is not looked at.
	grows(t, "a policy that may not be", flowOf(2), with(r, func(r *api.Request) { r.Num, r.Policy = math.MaxInt, api.Policy{First: -1} }), 9, signaledAt(9), scheduledAt(9))
}

func TestCancel(t *testing.T) {
	r := api.Request{Kind: api.OpCancel, Flow: "f", Request: "r"}
	canceled := api.Event{Kind: api.EvCancel, Time: 9}
	refuses(t, "none there", api.Flow{}, false, r, 9, api.ErrNone)
	refuses(t, "one that is not there", flowOf(3, cancels()...), false, r, 9, api.ErrNone)
	for why, f := range over() {
		refuses(t, why, f, true, r, 9, api.ErrClosed)
	}
	grows(t, "no task", flowOf(2), r, 9, canceled, scheduledAt(9))
	grows(t, "a task waits", flowOf(2, waits()...), r, 9, canceled)
	grows(t, "a task is taken", flowOf(2, takes()...), r, 9, canceled)
	// Asked already: nothing changes, not even a table without room or a history that is full.
	f := flowOf(3, cancels()...)
	answers(t, "asked already", f, true, r, 9, api.Reply{Run: 3})
	f.Table = tableOf(30)
	answers(t, "asked already, a full table", f, true, r, 9, api.Reply{Run: 3})
	f = flowOf(3, append(markers(112), cancels()...)...)
	answers(t, "asked already, a full history", f, true, r, 9, api.Reply{Run: 3})
}

func TestTerminate(t *testing.T) {
	r := request(api.OpTerminate)
	refuses(t, "none there", api.Flow{}, false, r, 9, api.ErrNone)
	refuses(t, "one that is not there", flowOf(3), false, r, 9, api.ErrNone)
	for why, f := range over() {
		refuses(t, why, f, true, r, 9, api.ErrClosed)
	}
	for why, f := range map[string]api.Flow{"no task": flowOf(2), "a task waits": flowOf(2, waits()...), "a task is taken": flowOf(2, takes()...), "the last run": flowOf(10), "asked to cancel": flowOf(2, cancels()...)} {
		grows(t, why, f, r, 9, terminatedAt(9, "n"))
	}
	for _, s := range []string{"", "why? \xff\x00", long(200)} {
		grows(t, "a text", flowOf(2), with(r, func(r *api.Request) { r.Name = s }), 9, terminatedAt(9, s))
	}
	refuses(t, "a text too long", flowOf(2), true, with(r, func(r *api.Request) { r.Name = long(201) }), 9, api.ErrArg)
}

func TestRequestsThatMayNotBe(t *testing.T) {
	bad := map[string]func(r *api.Request){
		"no name":             func(r *api.Request) { r.Name = "" },
		"what is no name":     func(r *api.Request) { r.Name = "a b" },
		"a name too long":     func(r *api.Request) { r.Name = long(25) },
		"a value of no kind":  func(r *api.Request) { r.Value = api.Value{Kind: 5} },
		"a value too deep":    func(r *api.Request) { r.Value = nested(5) },
		"a value too great":   func(r *api.Request) { r.Value = api.Value{Kind: api.VText, Text: long(201)} },
		"a field of no value": func(r *api.Request) { r.Value = api.Value{Int: 1} },
	}
	for why, change := range bad {
		refuses(t, "OpStart with "+why, api.Flow{}, false, with(request(api.OpStart), change), 9, api.ErrArg)
		refuses(t, "OpStart of one that is over, with "+why, flowOf(2, ends()...), true, with(request(api.OpStart), change), 9, api.ErrArg)
		refuses(t, "OpSignalStart with "+why, api.Flow{}, false, with(request(api.OpSignalStart), change), 9, api.ErrArg)
		refuses(t, "OpSignalStart of one that runs, with "+why, flowOf(2), true, with(request(api.OpSignalStart), change), 9, api.ErrArg)
		refuses(t, "OpSignal with "+why, flowOf(2), true, with(request(api.OpSignal), change), 9, api.ErrArg)
	}
	for _, p := range []api.Policy{{First: -1}, {Most: -1}, {First: 1<<30 + 1}, {Most: 1<<30 + 1}, {Coef: 0x7ff8000000000000}, {Coef: 0x7ff0000000000001}, {First: math.MinInt, Most: math.MaxInt}} {
		for _, kind := range []int{api.OpStart, api.OpSignalStart} {
			refuses(t, fmt.Sprint("kind ", kind, " with ", p), api.Flow{}, false, with(request(kind), func(r *api.Request) { r.Policy = p }), 9, api.ErrArg)
		}
	}
	// A list within itself is refused, and ends.
	loop := []api.Value{{Kind: api.VList}}
	loop[0].List = loop
	refuses(t, "a list within itself", flowOf(2), true, with(request(api.OpSignal), func(r *api.Request) { r.Value = loop[0] }), 9, api.ErrArg)
	// What the workflow is counts ahead of what the request is.
	for why, change := range bad {
		refuses(t, why, flowOf(2), true, with(request(api.OpStart), change), 9, api.ErrStarted)
		refuses(t, why, flowOf(2, ends()...), true, with(request(api.OpSignal), change), 9, api.ErrClosed)
		refuses(t, why, api.Flow{}, false, with(request(api.OpSignal), change), 9, api.ErrNone)
	}
}

// nested gives a number within so many lists.
func nested(lists int) api.Value {
	v := api.Value{Kind: api.VInt, Int: 1}
	for range lists {
		v = api.Value{Kind: api.VList, List: []api.Value{v}}
	}
	return v
}

func TestFullHistories(t *testing.T) {
	for _, n := range []int{118, 119, 120} {
		f := flowOf(2, markers(n-7)...)
		g := flowOf(2, append(waits(), markers(n-8)...)...) // with a task: one event less is needed
		for _, kind := range []int{api.OpSignal, api.OpSignalStart, api.OpCancel} {
			e := signaledAt(9)
			if kind == api.OpCancel {
				e = api.Event{Kind: api.EvCancel, Time: 9}
			}
			if n <= 118 {
				grows(t, fmt.Sprint("kind ", kind, " behind ", n), f, request(kind), 9, e, scheduledAt(9))
			} else {
				refuses(t, fmt.Sprint("kind ", kind, " behind ", n), f, true, request(kind), 9, api.ErrFull)
			}
			if n <= 119 {
				grows(t, fmt.Sprint("kind ", kind, " behind ", n, ", a task waits"), g, request(kind), 9, e)
			} else {
				refuses(t, fmt.Sprint("kind ", kind, " behind ", n, ", a task waits"), g, true, request(kind), 9, api.ErrFull)
			}
		}
		if n <= 119 {
			grows(t, fmt.Sprint("OpTerminate behind ", n), f, request(api.OpTerminate), 9, terminatedAt(9, "n"))
		} else {
			refuses(t, fmt.Sprint("OpTerminate behind ", n), f, true, request(api.OpTerminate), 9, api.ErrFull)
		}
	}
}

func TestTooManyRuns(t *testing.T) {
	for _, kind := range []int{api.OpStart, api.OpSignalStart} {
		for runs := 8; runs <= 10; runs++ {
			f := flowOf(runs, ends()...)
			if runs == 10 {
				refuses(t, "an eleventh run", f, true, request(kind), 9, api.ErrFull)
				refuses(t, "an eleventh run, of what may not be", f, true, with(request(kind), func(r *api.Request) { r.Name = "" }), 9, api.ErrFull)
				continue
			}
			if p, x := Do(f, true, request(kind), 9); x.Code != api.OK || x.Run != runs+1 || p.Flow.Runs != runs+1 || !rowcode.Can(p.Flow) {
				t.Error(runs, p, x)
			}
		}
	}
}

// used gives f with that request known as one that was answered by run.
func used(f api.Flow, r api.Request, run int) api.Flow {
	f.Table, _ = table.Add(f.Table, r, run)
	return f
}

// TestNamesThatWereUsed: whatever the workflow is, a request that had its effect is told its run, another one of its name a mismatch.
func TestNamesThatWereUsed(t *testing.T) {
	flows := over()
	flows["running"], flows["canceling"] = flowOf(2), flowOf(2, cancels()...)
	flows["full"] = flowOf(2, markers(113)...)
	flows["zero"] = api.Flow{}
	for why, f := range flows {
		for kind := -1; kind <= 14; kind++ { // those that belong to others, too
			if kind == api.OpDescribe {
				continue
			}
			r := request(kind)
			why := fmt.Sprint(why, ", kind ", kind)
			for _, run := range []int{1, 2} {
				answers(t, why, used(f, r, run), true, r, 9, api.Reply{Run: run})
			}
			for change, other := range map[string]func(r *api.Request){
				"Name": func(r *api.Request) { r.Name = "m" }, "Value": func(r *api.Request) { r.Value = listOf("w") }, "Num": func(r *api.Request) { r.Num++ },
				"Policy": func(r *api.Request) { r.Policy.First++ }, "Kind": func(r *api.Request) { r.Kind += 20 },
			} {
				answers(t, why+", another "+change, used(f, with(r, other), 1), true, r, 9, api.Reply{Code: api.ErrMismatch})
			}
			answers(t, why+", what does not count", used(f, r, 1), true, with(r, func(r *api.Request) { r.Wait, r.Run, r.Flow = 7, 8, "g" }), 9, api.Reply{Run: 1})
		}
	}
	// Of a workflow that is not there no name was used.
	r := request(api.OpStart)
	starts(t, "not there", used(flowOf(2), r, 1), false, r, 9, startedAt(9, 39, listOf("v")), scheduledAt(9))
	refuses(t, "not there", used(flowOf(2), request(api.OpSignal), 1), false, request(api.OpSignal), 9, api.ErrNone)
}

func TestFullTables(t *testing.T) {
	for n := 28; n <= 32; n++ {
		f, g := flowOf(2), flowOf(2, ends()...)
		f.Table, g.Table = tableOf(n), tableOf(n)
		why := fmt.Sprint("a table of ", n)
		if n >= 30 {
			for _, kind := range []int{api.OpSignal, api.OpSignalStart, api.OpCancel, api.OpTerminate} {
				refuses(t, why, f, true, request(kind), 9, api.ErrFull)
			}
			refuses(t, why, g, true, request(api.OpStart), 9, api.ErrFull)
			refuses(t, why, g, true, request(api.OpSignalStart), 9, api.ErrFull)
			// What may not be is told first: there is no plan to be added.
			refuses(t, why, g, true, with(request(api.OpStart), func(r *api.Request) { r.Name = "" }), 9, api.ErrArg)
			refuses(t, why, f, true, request(api.OpStart), 9, api.ErrStarted)
			continue
		}
		grows(t, why, f, request(api.OpSignal), 9, signaledAt(9), scheduledAt(9))
		grows(t, why, f, request(api.OpSignalStart), 9, signaledAt(9), scheduledAt(9))
		grows(t, why, f, request(api.OpCancel), 9, api.Event{Kind: api.EvCancel, Time: 9}, scheduledAt(9))
		grows(t, why, f, request(api.OpTerminate), 9, terminatedAt(9, "n"))
		starts(t, why, g, true, request(api.OpStart), 9, startedAt(9, 39, listOf("v")), scheduledAt(9))
		starts(t, why, g, true, request(api.OpSignalStart), 9, startedAt(9, 39, api.Value{}), signaledAt(9), scheduledAt(9))
	}
}

// TestTheExample is the document's.
func TestTheExample(t *testing.T) {
	x, y := api.Request{Kind: api.OpStart, Flow: "a", Request: "x", Name: "t"}, api.Request{Kind: api.OpStart, Flow: "a", Request: "y", Name: "t"}
	p, told := Do(api.Flow{}, false, x, 5)
	if told.Code != api.OK || told.Run != 1 || p.Flow.Name != "a" || p.Flow.Runs != 1 {
		t.Fatal(p, told)
	}
	refuses(t, "of another name", p.Flow, true, y, 5, api.ErrStarted)
	answers(t, "of the same name", p.Flow, true, x, 5, api.Reply{Run: 1})
}

// TestDoIsNewMemory spoils what was handed in, and what was told, each in turn: the other one stays.
func TestDoIsNewMemory(t *testing.T) {
	for _, kind := range []int{api.OpStart, api.OpSignal, api.OpSignalStart, api.OpCancel, api.OpTerminate} {
		made := func() api.Flow { return flowOf(2) }
		if kind == api.OpStart {
			made = func() api.Flow { return over()["completed"] }
		}
		want, _ := Do(made(), true, request(kind), 9)
		f, r := made(), request(kind)
		got, _ := Do(f, true, r, 9)
		spoilPlan(got)
		if !reflect.DeepEqual(f, made()) || !reflect.DeepEqual(r, request(kind)) {
			t.Errorf("kind %d: what was handed in changed with what was told", kind)
		}
		got, _ = Do(f, true, r, 9)
		spoil(f)
		spoilValue(r.Value)
		same(t, fmt.Sprint("kind ", kind), got, want)
		got, _ = Do(made(), true, request(kind), 9)
		spoilState(got.Flow.State)
		if !branch.Same(got.Writes[0].Events, want.Writes[0].Events) {
			t.Errorf("kind %d: the history changed with the state", kind)
		}
	}
}

// anyRequest gives a request of few names, which more often than not may be; its own name is one.
func anyRequest(r *rand.Rand) api.Request {
	x := api.Request{
		Kind: 1 + r.Intn(9), Flow: "f", Request: fmt.Sprint("r", r.Intn(45)), Name: string(rune('a' + r.Intn(2))), Num: r.Intn(4) - 1,
		Value: api.Value{Kind: r.Intn(2), Int: 0},
	}
	if r.Intn(12) == 0 {
		x.Name = ""
	}
	if r.Intn(30) == 0 {
		x.Num = math.MaxInt
	}
	return x
}

// world is a workflow with the histories of its runs, as plans make them.
type world struct {
	f     api.Flow
	there bool
	runs  map[int][]api.Event
	now   int
}

// put does what a plan says, and complains unless it goes with the histories that there are.
func (w *world) put(t *testing.T, p api.Plan) {
	t.Helper()
	h := p.Writes[0]
	if len(p.Writes) != 1 || h.From != 0 || h.Keep != 0 || h.At != len(w.runs[h.Run]) || len(h.Events) == 0 {
		t.Fatalf("%+v behind %d events", p.Writes, len(w.runs[h.Run]))
	}
	w.runs[h.Run] = append(w.runs[h.Run], h.Events...)
	w.f, w.there = p.Flow, true
	s, _, e := fold.Build(w.f.Runs, w.runs[w.f.Runs])
	if e != api.OK || !state.Same(s, w.f.State) {
		t.Fatalf("the state is not that of its history: %d", e)
	}
	if !rowcode.Can(w.f) {
		t.Fatalf("may not be: %+v", w.f)
	}
}

// work moves the last run's task on, as a worker would, now and then to the run's end.
func (w *world) work(t *testing.T, r *rand.Rand) {
	t.Helper()
	at := max(w.now, w.f.State.Time)
	var l []api.Event
	switch w.f.State.Task.State {
	case api.TaskWaits:
		l = []api.Event{{Kind: api.EvTaken, Time: at, Due: at + 5}}
	case api.TaskTaken:
		l = []api.Event{{Kind: api.EvDone, Time: at}}
		if !w.f.State.Fresh && r.Intn(3) == 0 {
			l = append(l, api.Event{Kind: api.EvCompleted, Time: at})
		}
	}
	if p, e := Grow(w.f, l); e == api.OK && len(l) > 0 {
		w.put(t, p)
	}
}

// TestWhateverIsAsked: what a plan makes may be, and goes with its history; asked again it is told the same without a plan, another one of its name a mismatch.
func TestWhateverIsAsked(t *testing.T) {
	r := rand.New(rand.NewSource(22))
	seen := map[api.Errno]int{}
	for range 150 {
		w := world{runs: map[int][]api.Event{}}
		for range 150 {
			w.now += r.Intn(3) - 1
			x := anyRequest(r)
			p, told := Do(w.f, w.there, x, w.now)
			seen[told.Code]++
			if again, same := Do(w.f, w.there, x, w.now); !reflect.DeepEqual(again, p) || !reflect.DeepEqual(same, told) {
				t.Fatal("another answer")
			}
			if !p.Changed {
				if !reflect.DeepEqual(p, api.Plan{}) {
					t.Fatal(p)
				}
				w.work(t, r)
				continue
			}
			if told.Code != api.OK || told.Run != p.Flow.State.Run || told.Run != p.Flow.Runs || !isKnown(p.Flow, x, told.Run) {
				t.Fatal(p, told)
			}
			w.put(t, p)
			answers(t, "again", w.f, true, x, w.now+r.Intn(9), told)
			other := with(x, func(x *api.Request) { x.Num += 2 })
			answers(t, "another one", w.f, true, other, w.now, api.Reply{Code: api.ErrMismatch})
		}
	}
	for _, e := range []api.Errno{api.OK, api.ErrArg, api.ErrNone, api.ErrFull, api.ErrStarted, api.ErrClosed, api.ErrMismatch} {
		if seen[e] < 20 {
			t.Errorf("%d was told %d times", e, seen[e])
		}
	}
}

// isKnown says whether a request is in the table, with its run.
func isKnown(f api.Flow, r api.Request, run int) bool {
	return slices.ContainsFunc(f.Table, func(d api.Done) bool {
		return d.Request == r.Request && d.Kind == r.Kind && d.Run == run && slices.Equal(d.Key, table.Key(r))
	})
}

// TestStatesThatCannotBe: numbers at the ends of the range are refused, not reckoned with.
func TestStatesThatCannotBe(t *testing.T) {
	for _, n := range []int{math.MinInt, -1, latest + 1, math.MaxInt} {
		f, g := flowOf(2), flowOf(2, ends()...)
		f.State.Time, g.State.Time = n, n
		for _, now := range []int{math.MinInt, -1} {
			for _, kind := range []int{api.OpSignal, api.OpSignalStart, api.OpCancel, api.OpTerminate} {
				refuses(t, fmt.Sprint("Time ", n, " kind ", kind), f, true, request(kind), now, api.ErrArg)
			}
			refuses(t, fmt.Sprint("Time ", n), g, true, numbered(api.OpStart, math.MaxInt), now, api.ErrArg)
			refuses(t, fmt.Sprint("Time ", n), g, true, numbered(api.OpSignalStart, 1), now, api.ErrArg)
		}
	}
	for _, n := range []int{math.MinInt, -1, 3, math.MaxInt} { // a task of no kind is there, as far as it is asked
		f := flowOf(2)
		f.State.Task.State = n
		grows(t, fmt.Sprint("a task ", n), f, request(api.OpSignal), 9, signaledAt(9))
	}
	for _, n := range []int{math.MinInt, -1, 0, 7, math.MaxInt} { // no Status but one is running
		f := flowOf(2)
		f.State.Status = n
		refuses(t, fmt.Sprint("Status ", n), f, true, request(api.OpSignal), 9, api.ErrClosed)
		starts(t, fmt.Sprint("Status ", n), f, true, request(api.OpStart), 9, startedAt(9, 39, listOf("v")), scheduledAt(9))
	}
	for _, kind := range []int{api.OpSignal, api.OpSignalStart, api.OpCancel, api.OpTerminate} { // running, but not started: fold tells ErrEvent
		refuses(t, fmt.Sprint("no events, kind ", kind), api.Flow{State: api.State{Run: 1, Status: api.StRunning}}, true, request(kind), 9, api.ErrArg)
	}
	// The zero workflow, as one that is there: it runs not, and its next run is the first one.
	refuses(t, "the zero workflow", api.Flow{}, true, request(api.OpSignal), 9, api.ErrClosed)
	refuses(t, "the zero workflow", api.Flow{}, true, request(api.OpCancel), 9, api.ErrClosed)
	refuses(t, "the zero workflow", api.Flow{}, true, request(api.OpTerminate), 9, api.ErrClosed)
	starts(t, "the zero workflow", api.Flow{}, true, request(api.OpStart), 9, startedAt(9, 39, listOf("v")), scheduledAt(9))
	for _, runs := range []int{math.MinInt, -1} {
		refuses(t, fmt.Sprint(runs, " runs"), api.Flow{Runs: runs}, true, request(api.OpStart), 9, api.ErrArg)
	}
	refuses(t, "too many runs", api.Flow{Runs: math.MaxInt}, true, request(api.OpStart), 9, api.ErrFull)
}
