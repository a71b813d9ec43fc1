package client

import (
	"fmt"
	"math"
	"reflect"
	"slices"
	"testing"

	"usher/api"
	"usher/branch"
	"usher/fold"
	"usher/rowcode"
	"usher/state"
	"usher/table"
)

// listOf gives a value that has memory of its own.
func listOf(s string) api.Value {
	return api.Value{Kind: api.VList, List: []api.Value{{Kind: api.VText, Text: s}}}
}

func policyOf() api.Policy {
	return api.Policy{First: 10, Coef: 1 << 62, Most: 350}
}

// history is one of a run that goes on, whose task is done.
func history() []api.Event {
	return []api.Event{
		{Kind: api.EvStarted, Due: 900, Name: "t", Value: listOf("in"), Policy: policyOf()},
		{Kind: api.EvScheduled, Num: 1},
		{Kind: api.EvTaken, Time: 2, Due: 9},
		{Kind: api.EvSignaled, Time: 3, Name: "s", Value: listOf("s")},
		{Kind: api.EvDone, Time: 4},
		{Kind: api.EvTimer, Time: 4, Name: "b", Due: 50},
		{Kind: api.EvAccepted, Time: 4, Name: "u", Value: listOf("u")},
	}
}

// waits, takes and ends are events that may come behind that.
func waits() []api.Event {
	return []api.Event{{Kind: api.EvScheduled, Time: 5, Num: 1, Due: 5}}
}

func takes() []api.Event {
	return append(waits(), api.Event{Kind: api.EvTaken, Time: 6, Due: 60})
}

func cancels() []api.Event {
	return []api.Event{{Kind: api.EvCancel, Time: 6}}
}

func ends() []api.Event {
	return []api.Event{{Kind: api.EvTerminated, Time: 7, Name: "why"}}
}

// tableOf gives a table of n requests that had their effect in the first run.
func tableOf(n int) []api.Done {
	var out []api.Done
	for i := range n {
		out = append(out, api.Done{Request: fmt.Sprintf("m%02d", i), Kind: api.OpSignal, Key: []byte{byte(i), 7}, Run: 1})
	}
	return out
}

// flowOf gives a workflow of so many runs, the last one's history that and more behind it.
func flowOf(runs int, more ...api.Event) api.Flow {
	s, _, e := fold.Build(runs, append(history(), more...))
	if e != api.OK {
		panic(e)
	}
	return api.Flow{Name: "f", Runs: runs, State: s, Table: tableOf(3)}
}

// markers gives n events that change nothing, but fill a history.
func markers(n int) []api.Event {
	var out []api.Event
	for range n {
		out = append(out, api.Event{Kind: api.EvMarker, Time: 5, Value: listOf("m")})
	}
	return out
}

// same complains unless two plans are the same, an empty list being as none.
func same(t *testing.T, why string, got, want api.Plan) {
	t.Helper()
	if got.Changed != want.Changed || !rowcode.Same(got.Flow, want.Flow) {
		t.Errorf("%s: the plan is\n%+v, not\n%+v", why, got, want)
	}
	ok := slices.EqualFunc(got.Writes, want.Writes, func(a, b api.History) bool {
		return a.Run == b.Run && a.From == b.From && a.Keep == b.Keep && a.At == b.At && branch.Same(a.Events, b.Events)
	})
	if !ok {
		t.Errorf("%s: the histories are\n%+v, not\n%+v", why, got.Writes, want.Writes)
	}
}

// none complains unless there is no plan, and that error.
func none(t *testing.T, why string, p api.Plan, e, want api.Errno) {
	t.Helper()
	if e != want || !reflect.DeepEqual(p, api.Plan{}) {
		t.Errorf("%s: %+v, %d, not %d", why, p, e, want)
	}
}

// lists are some events that may come behind history.
func lists() map[string][]api.Event {
	return map[string][]api.Event{
		"none":         nil,
		"no events":    {},
		"a marker":     markers(1),
		"markers":      markers(20),
		"a task":       takes(),
		"an end":       ends(),
		"a signal":     {{Kind: api.EvSignaled, Time: 900, Name: "x", Value: listOf("x")}},
		"the deadline": {{Kind: api.EvTimedOut, Time: 1 << 40}},
	}
}

func TestGrow(t *testing.T) {
	for why, l := range lists() {
		for _, runs := range []int{1, 2, 9, 10} {
			f := flowOf(runs)
			got, e := Grow(f, l)
			if e != api.OK {
				t.Errorf("%s: %d", why, e)
			}
			want := api.Plan{Changed: true, Flow: flowOf(runs, l...), Writes: []api.History{{Run: runs, At: 7, Events: l}}}
			same(t, why, got, want)
			if !reflect.DeepEqual(f, flowOf(runs)) {
				t.Errorf("%s: what was handed in has changed", why)
			}
		}
	}
}

// TestGrowOfWhatMayNotCome: fold's error of the first event that has one is told, and no plan.
func TestGrowOfWhatMayNotCome(t *testing.T) {
	f := flowOf(2)
	for want, l := range map[api.Errno][][]api.Event{
		api.ErrArg: {
			{{}}, {{Kind: 20}}, {{Kind: api.EvMarker, Time: -1}}, {{Kind: api.EvMarker, Time: 1<<40 + 1}}, {{Kind: api.EvFired, Time: 5}},
			append(markers(2), api.Event{Kind: math.MaxInt}),
		},
		api.ErrEvent: {
			{{Kind: api.EvStarted, Time: 5, Name: "t"}}, {{Kind: api.EvTaken, Time: 5}}, {{Kind: api.EvMarker, Time: 3}}, {{Kind: api.EvDone, Time: 5}},
			append(ends(), markers(1)...), append(takes(), takes()...),
		},
		api.ErrFull: {markers(114), markers(1000)},
	} {
		for _, x := range l {
			p, e := Grow(f, x)
			none(t, fmt.Sprint(x), p, e, want)
		}
	}
	// The first one counts.
	p, e := Grow(f, []api.Event{{Kind: api.EvDone, Time: 5}, {}})
	none(t, "two errors", p, e, api.ErrEvent)
	p, e = Grow(f, []api.Event{{}, {Kind: api.EvDone, Time: 5}})
	none(t, "two errors", p, e, api.ErrArg)
	if !reflect.DeepEqual(f, flowOf(2)) {
		t.Error("what was handed in has changed")
	}
}

func TestGrowOfAFullHistory(t *testing.T) {
	for n := range 114 { // up to 120, with the 7 of history
		f := flowOf(1, markers(n)...)
		for _, more := range []int{0, 1, 2, 13, 113} {
			p, e := Grow(f, markers(more))
			if f.State.Count+more <= 120 {
				if e != api.OK || p.Writes[0].At != f.State.Count || p.Flow.State.Count != f.State.Count+more {
					t.Errorf("%d behind %d: %d, At %v", more, f.State.Count, e, p.Writes)
				}
			} else {
				none(t, fmt.Sprint(more, " behind ", f.State.Count), p, e, api.ErrFull)
			}
		}
	}
}

// TestGrowOfTheZeroFlow: a run that has not started starts, its Run being the state's, whatever the workflow's Runs.
func TestGrowOfTheZeroFlow(t *testing.T) {
	p, e := Grow(api.Flow{}, history())
	s, _, _ := fold.Extend(api.State{}, history())
	if e != api.OK {
		t.Fatal(e)
	}
	same(t, "the zero workflow", p, api.Plan{Changed: true, Flow: api.Flow{State: s}, Writes: []api.History{{Events: history()}}})
	f := flowOf(4)
	f.Runs = 7
	if p, e := Grow(f, markers(1)); e != api.OK || p.Writes[0].Run != 4 || p.Flow.Runs != 7 || p.Flow.State.Run != 4 {
		t.Error("a state of another run", p, e)
	}
	p, e = Grow(api.Flow{}, markers(1))
	none(t, "behind nothing", p, e, api.ErrEvent)
}

func TestFresh(t *testing.T) {
	for why, l := range lists() {
		l = append(history(), l...)
		for runs := 1; runs < 10; runs++ {
			f := flowOf(runs, takes()...)
			got, e := Fresh(f, l)
			if e != api.OK {
				t.Errorf("%s: %d", why, e)
			}
			flow := flowOf(runs+1, l[7:]...)
			same(t, why, got, api.Plan{Changed: true, Flow: flow, Writes: []api.History{{Run: runs + 1, Events: l}}})
			if !reflect.DeepEqual(f, flowOf(runs, takes()...)) {
				t.Errorf("%s: what was handed in has changed", why)
			}
		}
	}
	// The first run of a workflow that there was not; and one of no events, which Build has no error of.
	p, e := Fresh(api.Flow{Name: "f", Table: tableOf(3)}, history())
	if e != api.OK {
		t.Fatal(e)
	}
	same(t, "the first run", p, api.Plan{Changed: true, Flow: flowOf(1), Writes: []api.History{{Run: 1, Events: history()}}})
	p, e = Fresh(api.Flow{Name: "f", Runs: 2}, nil)
	if e != api.OK {
		t.Fatal(e)
	}
	same(t, "no events", p, api.Plan{Changed: true, Flow: api.Flow{Name: "f", Runs: 3, State: api.State{Run: 3}}, Writes: []api.History{{Run: 3}}})
}

func TestFreshOfTooManyRuns(t *testing.T) {
	for _, runs := range []int{10, 11, 1000, math.MaxInt} {
		f := flowOf(10)
		f.Runs = runs
		p, e := Fresh(f, history())
		none(t, fmt.Sprint(runs, " runs"), p, e, api.ErrFull)
		p, e = Fresh(f, markers(1)) // both at once
		none(t, fmt.Sprint(runs, " runs"), p, e, api.ErrFull)
	}
	for _, runs := range []int{-1, -2, -1000, math.MinInt, math.MinInt + 1} {
		p, e := Fresh(api.Flow{Name: "f", Runs: runs}, history())
		none(t, fmt.Sprint(runs, " runs"), p, e, api.ErrArg)
	}
	if p, e := Fresh(flowOf(9), history()); e != api.OK || p.Flow.Runs != 10 || p.Flow.State.Run != 10 || p.Writes[0].Run != 10 {
		t.Error("the tenth run", p, e)
	}
}

func TestFreshOfWhatMayNotCome(t *testing.T) {
	for want, l := range map[api.Errno][][]api.Event{
		api.ErrArg:   {{{}}, {{Kind: api.EvStarted}}, append(history(), api.Event{Kind: 20})},
		api.ErrEvent: {markers(1), append(history(), history()...), append(history(), api.Event{Kind: api.EvDone, Time: 5}), {{Kind: api.EvScheduled, Num: 1}}},
		api.ErrFull:  {append(history(), markers(114)...)},
	} {
		for _, x := range l {
			for _, f := range []api.Flow{{}, {Name: "f"}, flowOf(9)} {
				p, e := Fresh(f, x)
				none(t, fmt.Sprint(x), p, e, want)
			}
		}
	}
	if _, e := Fresh(flowOf(1), append(history(), markers(113)...)); e != api.OK {
		t.Error("120 events", e)
	}
}

func spoilValue(v api.Value) {
	l := v.List[:cap(v.List)]
	for i := range l {
		l[i].Text = "spoilt"
	}
}

func spoilEvents(l []api.Event) {
	for i := range l {
		spoilValue(l[i].Value)
	}
	clear(l[:cap(l)])
}

func spoilState(s api.State) {
	spoilValue(s.Input)
	spoilValue(s.Result)
	for i := range s.Updates {
		spoilValue(s.Updates[i].Value)
		spoilValue(s.Updates[i].Outcome)
	}
	clear(s.Updates[:cap(s.Updates)])
	clear(s.Timers[:cap(s.Timers)])
}

// spoil changes all that a workflow shares with others, if it does.
func spoil(f api.Flow) {
	spoilState(f.State)
	for i := range f.Table {
		clear(f.Table[i].Key[:cap(f.Table[i].Key)])
	}
	clear(f.Table[:cap(f.Table)])
}

func spoilPlan(p api.Plan) {
	spoil(p.Flow)
	for i := range p.Writes {
		spoilEvents(p.Writes[i].Events)
	}
	clear(p.Writes[:cap(p.Writes)])
}

// TestPlansAreNewMemory spoils what was handed in, and what was told, each in turn: the other one stays.
func TestPlansAreNewMemory(t *testing.T) {
	for why, c := range map[string]struct {
		plan func(api.Flow, []api.Event) (api.Plan, api.Errno)
		l    func() []api.Event
	}{
		"Grow":            {Grow, func() []api.Event { return append(markers(2), lists()["a signal"]...) }},
		"Grow of nothing": {Grow, func() []api.Event { return nil }},
		"Fresh":           {Fresh, history},
	} {
		want, _ := c.plan(flowOf(2), c.l())
		f, l := flowOf(2), c.l()
		got, _ := c.plan(f, l)
		spoilPlan(got)
		if !reflect.DeepEqual(f, flowOf(2)) || !reflect.DeepEqual(l, c.l()) {
			t.Errorf("%s: what was handed in changed with what was told", why)
		}
		got, _ = c.plan(f, l)
		spoil(f)
		spoilEvents(l)
		same(t, why+": what was handed in was spoilt", got, want)
		got, _ = c.plan(flowOf(2), c.l())
		spoilState(got.Flow.State)
		if !branch.Same(got.Writes[0].Events, want.Writes[0].Events) {
			t.Errorf("%s: the history changed with the state", why)
		}
	}
	// One value in two events becomes two.
	v := listOf("v")
	p, _ := Grow(flowOf(1), []api.Event{{Kind: api.EvMarker, Time: 5, Value: v}, {Kind: api.EvMarker, Time: 5, Value: v}})
	spoilValue(p.Writes[0].Events[0].Value)
	if !reflect.DeepEqual(p.Writes[0].Events[1].Value, listOf("v")) {
		t.Error("two events share a value")
	}
	deep := api.Value{Kind: api.VList, List: []api.Value{listOf("deep")}}
	p, _ = Grow(flowOf(1), []api.Event{{Kind: api.EvMarker, Time: 5, Value: deep}})
	spoilValue(p.Writes[0].Events[0].Value.List[0])
	if !reflect.DeepEqual(deep.List[0], listOf("deep")) {
		t.Error("a list within a list is shared")
	}
}

// TestPlansOfAFullTable: these calls do not look at the table.
func TestPlansOfAFullTable(t *testing.T) {
	f := flowOf(1)
	f.Table = tableOf(40)
	p, e := Grow(f, markers(1))
	q, d := Fresh(f, history())
	if e != api.OK || d != api.OK || len(p.Flow.Table) != 40 || len(q.Flow.Table) != 40 || table.Can(p.Flow.Table) || !state.Can(p.Flow.State) {
		t.Error(e, d)
	}
}
