package decide

import (
	"fmt"
	"math"
	"reflect"
	"testing"

	"usher/api"
	"usher/client"
	"usher/fire"
	"usher/fold"
	"usher/reset"
	"usher/worker"
)

const latest = 1 << 40

// moments are times such as there are, and such as there are not.
var moments = []int{math.MinInt, -1, 0, 1, 5, 6, 7, 15, 16, 17, 50, 899, 900, latest - 1, latest, latest + 1, math.MaxInt}

// listOf gives a value that has memory of its own.
func listOf(s string) api.Value {
	return api.Value{Kind: api.VList, List: []api.Value{{Kind: api.VText, Text: s}}}
}

// idle is the history of a run that goes on, whose task is done: 9 events, with the update u, which was accepted, and v, which has its outcome; and these behind it.
func idle(more ...api.Event) []api.Event {
	return append([]api.Event{
		{Kind: api.EvStarted, Due: 900, Name: "t", Value: listOf("in"), Policy: api.Policy{First: 10, Coef: 1 << 62, Most: 35}},
		{Kind: api.EvScheduled, Num: 1},
		{Kind: api.EvTaken, Time: 2, Due: 9},
		{Kind: api.EvDone, Time: 4},
		{Kind: api.EvTimer, Time: 4, Name: "b", Due: 50},
		{Kind: api.EvAccepted, Time: 4, Name: "u", Value: listOf("u")},
		{Kind: api.EvAccepted, Time: 4, Name: "v", Value: listOf("v")},
		{Kind: api.EvOutcome, Time: 4, Name: "v", Value: listOf("out")},
		{Kind: api.EvMarker, Time: 4, Value: listOf("m")},
	}, more...)
}

// queued has a task that waits.
func queued() []api.Event {
	return idle(api.Event{Kind: api.EvScheduled, Time: 5, Num: 1, Due: 5})
}

// taken has a task, taken as event 11.
func taken() []api.Event {
	return append(queued(), api.Event{Kind: api.EvTaken, Time: 6, Due: 16})
}

func over() []api.Event {
	return append(taken(), api.Event{Kind: api.EvTerminated, Time: 7, Name: "why"})
}

// flowOf gives a workflow of so many runs, the last one's history that.
func flowOf(runs int, h []api.Event) api.Flow {
	s, _, e := fold.Build(runs, h)
	if e != api.OK {
		panic(e)
	}
	return api.Flow{Name: "f", Runs: runs, State: s, Table: []api.Done{{Request: "m", Kind: api.OpSignal, Key: []byte{7}, Run: 1}}}
}

// with gives f, its state changed.
func with(f api.Flow, change func(s *api.State)) api.Flow {
	change(&f.State)
	return f
}

func asksOf(names ...string) []api.Ask {
	var out []api.Ask
	for i, n := range names {
		out = append(out, api.Ask{Op: 40 + i, Name: n, Value: listOf(n)})
	}
	return out
}

// found is what an operation finds.
type found struct {
	why   string
	f     api.Flow
	there bool
	h     []api.Event
}

func allFound() []found {
	return []found{
		{"not there", api.Flow{}, false, nil},
		{"one that is not there", flowOf(2, taken()), false, taken()},
		{"the zero workflow", api.Flow{}, true, nil},
		{"idle", flowOf(2, idle()), true, idle()},
		{"a task waits", flowOf(2, queued()), true, queued()},
		{"a task is taken", flowOf(2, taken()), true, taken()},
		{"the first run", flowOf(1, taken()), true, taken()},
		{"over", flowOf(2, over()), true, over()},
		{"over, of the last run", flowOf(10, over()), true, over()},
		{"another history", flowOf(2, taken()), true, idle()[:4]},
		{"no history", flowOf(2, taken()), true, nil},
	}
}

// requests are some of that kind: one that may be at its best, one of a name that was used, and such as may not be.
func requests(kind int) []api.Request {
	token := api.Request{Kind: kind, Flow: "f", Request: "r", Name: "n", Value: listOf("v"), Run: 2, Num: 11, Commands: []api.Command{{Kind: api.CmAccept, Name: "x"}, {Kind: api.CmReject, Name: "y", Value: listOf("no")}}}
	return []api.Request{
		{Kind: kind, Flow: "f", Request: "r", Name: "n", Value: listOf("v"), Run: 2, Num: 4},
		{Kind: kind, Flow: "f", Request: "m", Name: "n", Value: listOf("v"), Run: 2, Num: 4},
		token,
		{Kind: kind},
		{Kind: kind, Flow: "no name!", Request: "\xff", Name: "no name!", Value: api.Value{Kind: 9}, Run: math.MinInt, Num: math.MinInt, Wait: math.MinInt, Policy: api.Policy{First: -1}},
		{Kind: kind, Flow: "f", Request: "r", Name: "n", Run: math.MaxInt, Num: math.MaxInt, Wait: math.MaxInt},
	}
}

// below gives what the layer says that an operation of that kind belongs to.
func below(kind int, x found, r api.Request, now int, asks []api.Ask) (api.Plan, api.Reply) {
	switch kind {
	case api.OpReset:
		return reset.Do(x.f, x.there, x.h, r, now)
	case api.OpPoll:
		return worker.Poll(x.f, x.there, x.h, r, now, asks)
	case api.OpComplete:
		return worker.Complete(x.f, x.there, r, now, asks)
	case api.OpFail:
		return worker.Fail(x.f, x.there, r, now)
	case api.OpFire:
		return fire.Do(x.f, x.there, now)
	}
	return client.Do(x.f, x.there, r, now)
}

// TestKinds: each kind is answered by its layer, whatever is found, asked, and waits.
func TestKinds(t *testing.T) {
	kinds := []int{api.OpStart, api.OpSignal, api.OpSignalStart, api.OpCancel, api.OpTerminate, api.OpReset, api.OpDescribe, api.OpPoll, api.OpComplete, api.OpFail, api.OpFire}
	for _, kind := range kinds {
		plans, codes := 0, map[api.Errno]int{}
		for _, x := range allFound() {
			for i, r := range requests(kind) {
				for _, now := range moments {
					for _, asks := range [][]api.Ask{nil, asksOf("x", "u", "y")} {
						p, a := Do(x.f, x.there, x.h, r, now, asks)
						q, b := below(kind, x, r, now, asks)
						if !reflect.DeepEqual(p, q) || !reflect.DeepEqual(a, b) {
							t.Fatalf("kind %d, %s, request %d, at %d: %+v, %+v, not %+v, %+v", kind, x.why, i, now, p, a, q, b)
						}
						codes[a.Code]++
						if p.Changed {
							plans++
						}
					}
				}
			}
		}
		if plans == 0 != (kind == api.OpDescribe) || codes[api.OK] == 0 || len(codes) < 2 {
			t.Errorf("kind %d: %d plans, %v", kind, plans, codes)
		}
	}
}

// makes complains unless a request is told that, and comes to events of these kinds.
func makes(t *testing.T, f api.Flow, there bool, h []api.Event, r api.Request, asks []api.Ask, run int, kinds ...int) {
	t.Helper()
	p, x := Do(f, there, h, r, 7, asks)
	if x.Code != api.OK || x.Run != run || len(p.Writes) == 0 {
		t.Fatalf("%+v: told %+v", r, x)
	}
	var got []int
	for _, e := range p.Writes[len(p.Writes)-1].Events {
		got = append(got, e.Kind)
	}
	if !reflect.DeepEqual(got, kinds) || !p.Changed || p.Flow.State.Time != 7 {
		t.Errorf("%+v: the events are %v, not %v", r, got, kinds)
	}
}

// TestWhatEachMakes: ordinary requests, by the events that come of them.
func TestWhatEachMakes(t *testing.T) {
	of := func(kind, num int) api.Request {
		return api.Request{Kind: kind, Flow: "f", Request: "r", Name: "n", Run: 2, Num: num}
	}
	f, asks := flowOf(2, taken()), asksOf("x")
	makes(t, api.Flow{}, false, nil, of(api.OpStart, 9), nil, 1, api.EvStarted, api.EvScheduled)
	makes(t, flowOf(2, over()), true, over(), of(api.OpStart, 9), nil, 3, api.EvStarted, api.EvScheduled)
	makes(t, f, true, taken(), of(api.OpSignal, 0), nil, 2, api.EvSignaled)
	makes(t, api.Flow{}, false, nil, of(api.OpSignalStart, 9), nil, 1, api.EvStarted, api.EvSignaled, api.EvScheduled)
	makes(t, f, true, taken(), of(api.OpSignalStart, 9), nil, 2, api.EvSignaled)
	makes(t, f, true, taken(), of(api.OpCancel, 0), nil, 2, api.EvCancel)
	makes(t, f, true, taken(), of(api.OpTerminate, 0), nil, 2, api.EvTerminated)
	makes(t, f, true, taken(), of(api.OpReset, 4), nil, 3, api.EvTaskFailed, api.EvScheduled)
	makes(t, flowOf(2, queued()), true, queued(), of(api.OpPoll, 9), nil, 2, api.EvTaken)
	makes(t, flowOf(2, idle()), true, idle(), of(api.OpPoll, 9), asks, 2, api.EvScheduled, api.EvTaken)
	makes(t, f, true, taken(), of(api.OpComplete, 11), nil, 2, api.EvDone)
	accept := of(api.OpComplete, 11)
	accept.Commands = []api.Command{{Kind: api.CmAccept, Name: "x"}}
	makes(t, f, true, taken(), accept, asks, 2, api.EvDone, api.EvAccepted)
	makes(t, f, true, taken(), of(api.OpFail, 11), nil, 2, api.EvTaskFailed, api.EvScheduled)
	late := with(f, func(s *api.State) { s.Task.Due = 7 })
	makes(t, late, true, taken(), of(api.OpFire, 0), nil, 2, api.EvTaskTimed, api.EvScheduled)
	p, x := Do(f, true, taken(), of(api.OpDescribe, 0), 7, nil)
	if !reflect.DeepEqual(p, api.Plan{}) || !reflect.DeepEqual(x, api.Reply{Run: 2, State: f.State}) {
		t.Errorf("described: %+v, %+v", p, x)
	}
}

// tells complains unless that is told, at any time, whatever the history is and whatever waits, and nothing changes.
func tells(t *testing.T, why string, f api.Flow, there bool, r api.Request, want api.Reply) {
	t.Helper()
	for _, now := range moments {
		for _, h := range [][]api.Event{nil, taken(), over()[:2], {{}}} {
			for _, asks := range [][]api.Ask{nil, asksOf("x", "u")} {
				p, x := Do(f, there, h, r, now, asks)
				if !reflect.DeepEqual(p, api.Plan{}) || !reflect.DeepEqual(x, want) {
					t.Fatalf("%s: at %d: %+v, %+v, not %+v", why, now, p, x, want)
				}
			}
		}
	}
}

// TestOtherKinds: numbers that are no kinds.
func TestOtherKinds(t *testing.T) {
	for _, kind := range []int{math.MinInt, -14, -5, -1, 0, 14, 15, 100, 1 << 32, 1<<32 + 4, math.MaxInt} {
		for _, x := range allFound() {
			for _, r := range requests(kind) {
				tells(t, fmt.Sprint(x.why, ", kind ", kind), x.f, x.there, r, api.Reply{Code: api.ErrArg})
			}
		}
	}
	tells(t, "the zero request", flowOf(2, idle()), true, api.Request{}, api.Reply{Code: api.ErrArg})
}

func TestQuery(t *testing.T) {
	for _, r := range append(requests(api.OpQuery), api.Request{Kind: api.OpQuery, Request: "v", Value: listOf("v"), Num: 1}) {
		tells(t, "not there", api.Flow{}, false, r, api.Reply{Code: api.ErrNone})
		tells(t, "one that is not there", flowOf(2, idle()), false, r, api.Reply{Code: api.ErrNone})
		tells(t, "idle", flowOf(2, idle()), true, r, api.Reply{Code: api.ErrWaits, Run: 2, Num: 9})
		tells(t, "a task waits", flowOf(1, queued()), true, r, api.Reply{Code: api.ErrWaits, Run: 1, Num: 10})
		tells(t, "a task is taken", flowOf(10, taken()), true, r, api.Reply{Code: api.ErrWaits, Run: 10, Num: 11})
		tells(t, "started", flowOf(1, idle()[:1]), true, r, api.Reply{Code: api.ErrWaits, Run: 1, Num: 1})
		tells(t, "over", flowOf(2, over()), true, r, api.Reply{Code: api.ErrClosed})
		tells(t, "the zero workflow", api.Flow{}, true, r, api.Reply{Code: api.ErrClosed})
	}
	r := api.Request{Kind: api.OpQuery, Flow: "f"}
	for _, n := range []int{math.MinInt, -1, 0, 2, 3, 4, 5, 6, 7, math.MaxInt} {
		tells(t, fmt.Sprint("Status ", n), with(flowOf(2, idle()), func(s *api.State) { s.Status = n }), true, r, api.Reply{Code: api.ErrClosed})
	}
	for _, n := range []int{math.MinInt, -1, 0, 1, 120, 121, math.MaxInt} { // told as it is
		tells(t, fmt.Sprint("Count ", n), with(flowOf(2, idle()), func(s *api.State) { s.Count = n }), true, r, api.Reply{Code: api.ErrWaits, Run: 2, Num: n})
		tells(t, fmt.Sprint("Run ", n), with(flowOf(2, idle()), func(s *api.State) { s.Run = n }), true, r, api.Reply{Code: api.ErrWaits, Run: n, Num: 9})
		f := flowOf(2, idle())
		f.Runs = n
		tells(t, fmt.Sprint("Runs ", n), f, true, r, api.Reply{Code: api.ErrWaits, Run: 2, Num: 9})
	}
}

func update(name string, v api.Value, num int) api.Request {
	return api.Request{Kind: api.OpUpdate, Flow: "f", Request: name, Value: v, Num: num, Wait: 5}
}

// ends are all that a run may end by, and one that is not as any.
func ends(h []api.Event) map[string]api.Flow {
	out := map[string]api.Flow{}
	for n := range 9 {
		if n != api.StRunning {
			out[fmt.Sprint("Status ", n)] = with(flowOf(2, h), func(s *api.State) { s.Status = n })
		}
	}
	out["over"] = flowOf(2, over())
	return out
}

// TestUpdateThatTheStateHas: u is of Stage 1, v of Stage 2.
func TestUpdateThatTheStateHas(t *testing.T) {
	flows := ends(idle())
	flows["idle"], flows["a task"], flows["another run"] = flowOf(2, idle()), flowOf(2, taken()), flowOf(9, queued())
	for why, f := range flows {
		run, runs := f.State.Run, f.State.Status == api.StRunning
		for _, num := range []int{math.MinInt, -1, 0, 1} {
			tells(t, why, f, true, update("u", listOf("u"), num), api.Reply{Run: run, Num: 1})
		}
		later := api.Reply{Code: api.ErrClosed} // of a run that is over no worker brings it on
		if runs {
			later = api.Reply{Code: api.ErrWaits, Run: run}
		}
		for _, num := range []int{2, 3, math.MaxInt} {
			tells(t, why, f, true, update("u", listOf("u"), num), later)
		}
		for _, num := range []int{math.MinInt, -1, 0, 1, 2} {
			tells(t, why, f, true, update("v", listOf("v"), num), api.Reply{Run: run, Num: 2, Value: listOf("out")})
		}
		for _, num := range []int{3, 4, math.MaxInt} {
			tells(t, why, f, true, update("v", listOf("v"), num), later)
		}
	}
}

// TestUpdateOfAnotherValue: whatever its stage is, and is waited for, also if the run is over.
func TestUpdateOfAnotherValue(t *testing.T) {
	flows := ends(idle())
	flows["idle"] = flowOf(2, idle())
	for why, f := range flows {
		for _, num := range []int{math.MinInt, 0, 1, 2, 3, math.MaxInt} {
			for _, v := range []api.Value{{}, listOf("x"), listOf("out"), {Kind: api.VList}, {Kind: 9}, {Kind: api.VText, Text: "u"}, {Kind: api.VList, Int: 1, List: listOf("u").List}} {
				tells(t, why, f, true, update("u", v, num), api.Reply{Code: api.ErrMismatch})
				tells(t, why, f, true, update("v", v, num), api.Reply{Code: api.ErrMismatch})
			}
			tells(t, why, f, true, update("u", listOf("v"), num), api.Reply{Code: api.ErrMismatch})
		}
	}
	// The sign of zero is kept, and a list of none is none.
	minus := api.Value{Kind: api.VFloat, Bits: 1 << 63}
	f := with(flowOf(2, idle()), func(s *api.State) {
		s.Updates = []api.Update{{Name: "u", Value: minus, Stage: 1}, {Name: "v", Value: api.Value{Kind: api.VList}, Stage: 2}}
	})
	tells(t, "-0", f, true, update("u", minus, 1), api.Reply{Run: 2, Num: 1})
	tells(t, "0", f, true, update("u", api.Value{Kind: api.VFloat}, 1), api.Reply{Code: api.ErrMismatch})
	tells(t, "no list", f, true, update("v", api.Value{Kind: api.VList, List: []api.Value{}}, 1), api.Reply{Run: 2, Num: 2})
}

func TestUpdateThatTheStateDoesNotHave(t *testing.T) {
	for _, name := range []string{"w", "", "U", "uu", "b", "m", "n", "\xff"} { // b is a timer's name, m a request's
		for _, num := range []int{math.MinInt, -1, 0, 1, 2, 3, math.MaxInt} {
			for _, v := range []api.Value{{}, listOf("u")} {
				r := update(name, v, num)
				tells(t, "idle", flowOf(2, idle()), true, r, api.Reply{Code: api.ErrWaits, Run: 2})
				tells(t, "a task", flowOf(10, taken()), true, r, api.Reply{Code: api.ErrWaits, Run: 10})
				tells(t, "the zero workflow", api.Flow{}, true, r, api.Reply{Code: api.ErrClosed})
				for why, f := range ends(idle()) {
					tells(t, why, f, true, r, api.Reply{Code: api.ErrClosed})
				}
			}
		}
	}
	for _, name := range []string{"u", "v", "w", ""} {
		tells(t, "not there", api.Flow{}, false, update(name, listOf("u"), 1), api.Reply{Code: api.ErrNone})
		tells(t, "one that is not there", flowOf(2, idle()), false, update(name, listOf(name), 1), api.Reply{Code: api.ErrNone})
		tells(t, "one that is over, and not there", flowOf(2, over()), false, update(name, listOf(name), 1), api.Reply{Code: api.ErrNone})
	}
	tells(t, "the zero update", flowOf(2, idle()), true, api.Request{Kind: api.OpUpdate}, api.Reply{Code: api.ErrWaits, Run: 2})
}

// TestUpdatesThatMayNotBe: of one name the first one counts, and a stage is told as it is.
func TestUpdatesThatMayNotBe(t *testing.T) {
	of := func(l ...api.Update) api.Flow {
		return with(flowOf(2, idle()), func(s *api.State) { s.Updates = l })
	}
	f := of(api.Update{Name: "x", Value: listOf("a"), Stage: 1}, api.Update{Name: "x", Value: listOf("b"), Stage: 2, Outcome: listOf("o")})
	tells(t, "the first one", f, true, update("x", listOf("a"), 1), api.Reply{Run: 2, Num: 1})
	tells(t, "the first one", f, true, update("x", listOf("a"), 2), api.Reply{Code: api.ErrWaits, Run: 2})
	tells(t, "the second one", f, true, update("x", listOf("b"), 1), api.Reply{Code: api.ErrMismatch})
	for _, n := range []int{math.MinInt, -1, 0, 3, math.MaxInt} {
		f := of(api.Update{Name: "x", Stage: n, Outcome: listOf("o")})
		tells(t, fmt.Sprint("Stage ", n), f, true, update("x", api.Value{}, n), api.Reply{Run: 2, Num: n, Value: listOf("o")})
		tells(t, fmt.Sprint("Stage ", n), f, true, update("x", api.Value{}, math.MinInt), api.Reply{Run: 2, Num: n, Value: listOf("o")})
		if n < math.MaxInt {
			tells(t, fmt.Sprint("Stage ", n), f, true, update("x", api.Value{}, n+1), api.Reply{Code: api.ErrWaits, Run: 2})
		}
	}
	f = of(api.Update{Stage: 1, Outcome: api.Value{Kind: 9, Text: "odd"}}) // one whose name is none
	tells(t, "no name", f, true, update("", api.Value{}, 1), api.Reply{Run: 2, Num: 1, Value: api.Value{Kind: 9, Text: "odd"}})
}

// TestAllUpdates: as many as there may be. One more waits, since a query, or an update, has no effect; a worker can't take it up.
func TestAllUpdates(t *testing.T) {
	h := idle()
	for i := range api.MaxUpdates - 2 {
		h = append(h, api.Event{Kind: api.EvAccepted, Time: 4, Name: fmt.Sprint("w", i)})
	}
	h = append(h, taken()[len(idle()):]...)
	f := flowOf(2, h)
	tells(t, "the last one", f, true, update("w7", api.Value{}, 1), api.Reply{Run: 2, Num: 1})
	tells(t, "one more", f, true, update("w8", listOf("w8"), 1), api.Reply{Code: api.ErrWaits, Run: 2})
	r := api.Request{Kind: api.OpComplete, Flow: "f", Run: 2, Num: len(h), Commands: []api.Command{{Kind: api.CmAccept, Name: "w8"}}}
	tells(t, "taken up, but not asked", f, true, r, api.Reply{Code: api.ErrCommand})
	if p, x := Do(f, true, h, r, 7, asksOf("w8")); p.Changed || x.Code != api.ErrFull {
		t.Error("taken up:", x)
	}
}

func TestReadsAndWaits(t *testing.T) {
	for kind := -30; kind < 300; kind++ {
		reads := kind == 4 || kind == 5 || kind == 9
		waits := kind == 4 || kind == 5
		if Reads(kind) != reads || Waits(kind) != waits {
			t.Errorf("kind %d: reads %v, waits %v", kind, Reads(kind), Waits(kind))
		}
	}
	for _, kind := range []int{math.MinInt, math.MinInt + 4, -1 << 32, 1<<32 + 4, 1<<32 + 9, math.MaxInt} {
		if Reads(kind) || Waits(kind) {
			t.Error("no kind", kind)
		}
	}
	if !Reads(api.OpQuery) || !Reads(api.OpUpdate) || !Reads(api.OpDescribe) || Waits(api.OpDescribe) {
		t.Error("api's kinds")
	}
}

// TestTheExample is the document's.
func TestTheExample(t *testing.T) {
	f := flowOf(2, idle())
	if _, x := Do(f, true, idle(), update("u", listOf("u"), 2), 7, nil); x.Code != api.ErrWaits {
		t.Error(x)
	}
	if _, x := Do(f, true, idle(), update("u", listOf("u"), 1), 7, nil); x.Code != api.OK || x.Num != 1 {
		t.Error(x)
	}
}
