package model

import (
	"fmt"
	"math"
	"reflect"
	"slices"
	"testing"

	"usher/api"
	"usher/branch"
	"usher/decide"
	"usher/fold"
	"usher/rowcode"
	"usher/state"
)

const latest = 1 << 40

// listOf gives a value that has memory of its own.
func listOf(s string) api.Value {
	return api.Value{Kind: api.VList, List: []api.Value{{Kind: api.VText, Text: s}}}
}

func start(flow, request string) api.Request {
	return api.Request{Kind: api.OpStart, Flow: flow, Request: request, Name: "t", Value: listOf("in"), Num: 500, Policy: api.Policy{First: 10, Coef: 1 << 62, Most: 35}}
}

func signal(flow, request string) api.Request {
	return api.Request{Kind: api.OpSignal, Flow: flow, Request: request, Name: "s", Value: listOf("s")}
}

func terminate(flow, request string) api.Request {
	return api.Request{Kind: api.OpTerminate, Flow: flow, Request: request, Name: "why"}
}

func reset(flow, request string, num int) api.Request {
	return api.Request{Kind: api.OpReset, Flow: flow, Request: request, Num: num}
}

func poll(flow string) api.Request {
	return api.Request{Kind: api.OpPoll, Flow: flow, Num: 10}
}

func complete(flow string, run, num int, l ...api.Command) api.Request {
	return api.Request{Kind: api.OpComplete, Flow: flow, Run: run, Num: num, Commands: l}
}

func marker(s string) api.Command {
	return api.Command{Kind: api.CmMarker, Value: listOf(s)}
}

// must does a request that is to be told OK.
func must(t *testing.T, m *Model, r api.Request, now int) api.Reply {
	t.Helper()
	x := m.Do(r, now, nil)
	if x.Code != api.OK {
		t.Fatalf("%+v: told %+v", r, x)
	}
	return x
}

// busy gives a model of the workflow a, whose first run has a task that was done (event 4), with a timer, an update that has its outcome, and a signal behind; and of b, which is over; and of c, whose task is taken.
func busy(t *testing.T) *Model {
	t.Helper()
	m := New()
	must(t, m, start("c", "r1"), 1)
	must(t, m, poll("c"), 2)
	must(t, m, start("a", "r1"), 3)
	must(t, m, poll("a"), 4)
	asks := []api.Ask{{Op: 7, Name: "u", Value: listOf("u")}}
	done := complete("a", 1, 3, marker("m"), api.Command{Kind: api.CmTimer, Name: "b", Delay: 50}, api.Command{Kind: api.CmAccept, Name: "u"}, api.Command{Kind: api.CmOutcome, Name: "u", Value: listOf("out")})
	if x := m.Do(done, 5, asks); x.Code != api.OK {
		t.Fatal(x)
	}
	must(t, m, signal("a", "r2"), 6)
	must(t, m, start("b", "r1"), 3)
	must(t, m, terminate("b", "r2"), 9)
	return m
}

// stands complains unless a workflow's state is that of its last run's history, and it may be.
func stands(t *testing.T, why string, m *Model) {
	t.Helper()
	for _, name := range m.Names() {
		f, there := m.Flow(name)
		s, _, e := fold.Build(f.Runs, m.History(name, f.Runs))
		if !there || f.Name != name || e != api.OK || !state.Same(s, f.State) || !rowcode.Can(f) {
			t.Errorf("%s: %s is %+v, not of its history (%d)", why, name, f, e)
		}
	}
}

func TestNew(t *testing.T) {
	m, n := New(), New()
	if m == nil || n == nil || len(m.Names()) != 0 || !m.Same(n) {
		t.Error("not without workflows")
	}
	if f, there := m.Flow("a"); there || !reflect.DeepEqual(f, api.Flow{}) {
		t.Error("a workflow", f)
	}
	if h := m.History("a", 1); len(h) != 0 {
		t.Error("a history", h)
	}
	must(t, m, start("a", "r1"), 1)
	if len(n.Names()) != 0 || len(New().Names()) != 0 {
		t.Error("two models are one")
	}
}

func TestTheExample(t *testing.T) {
	m := New()
	must(t, m, start("a", "x"), 1)
	must(t, m, start("b", "x"), 1)
	if l := m.Names(); !slices.Equal(l, []string{"a", "b"}) {
		t.Error(l)
	}
}

func TestNames(t *testing.T) {
	want := []string{"-", "", "A", "B.c", "Z", "_", "a", "a-b", "a.b", "aa", "b", "\xff"} // names or not
	slices.Sort(want)
	for turn := range len(want) {
		m := New()
		for i := range want {
			must(t, m, start(want[(i*5+turn)%len(want)], "x"), 3)
		}
		l := m.Names()
		if !slices.Equal(l, want) {
			t.Errorf("%q, not %q", l, want)
		}
		clear(l)
		if !slices.Equal(m.Names(), want) {
			t.Error("the names changed with what was told")
		}
		must(t, m, terminate(want[3], "y"), 4)
		if !slices.Equal(m.Names(), want) {
			t.Error("a workflow that is over is not there")
		}
	}
}

// requests are some of that kind, of the workflow: at their best, of names that were used, and such as may not be.
func requests(kind int, flow string) []api.Request {
	return []api.Request{
		{Kind: kind, Flow: flow, Request: "new", Name: "n", Value: listOf("v"), Run: 1, Num: 4},
		{Kind: kind, Flow: flow, Request: "r1", Name: "t", Value: listOf("in"), Run: 1, Num: 3},
		{Kind: kind, Flow: flow, Request: "u", Name: "n", Value: listOf("u"), Run: 1, Num: 2},
		{Kind: kind, Flow: flow, Request: "new", Run: 1, Num: 3, Commands: []api.Command{marker("x"), {Kind: api.CmReject, Name: "y", Value: listOf("no")}}},
		{Kind: kind, Flow: flow},
		{Kind: kind, Flow: flow, Request: "no name!", Name: "\xff", Value: api.Value{Kind: 9}, Run: math.MinInt, Num: math.MinInt, Wait: math.MinInt, Policy: api.Policy{First: -1}},
		{Kind: kind, Flow: flow, Request: "new", Name: "n", Run: math.MaxInt, Num: math.MaxInt, Wait: math.MaxInt},
	}
}

var moments = []int{math.MinInt, -1, 0, 1, 6, 14, 15, 60, 900, latest - 1, latest, latest + 1, math.MaxInt}

// TestDo: each kind, and each number that is none, of each workflow, is told what decide says, and changes what its plan says.
func TestDo(t *testing.T) {
	asks := []api.Ask{{Op: 40, Name: "y", Value: listOf("y")}, {Op: 41, Name: "u", Value: listOf("u")}}
	changed := map[int]int{}
	for _, kind := range []int{math.MinInt, -1, 0, 1, 2, 3, 4, 5, 6, 7, 8, 9, 10, 11, 12, 13, 14, 15, 256 + 1, math.MaxInt} {
		for _, flow := range []string{"a", "b", "c", "d", ""} {
			for i, r := range requests(kind, flow) {
				for _, now := range moments {
					m := busy(t)
					why := fmt.Sprint("kind ", kind, " of ", flow, ", request ", i, ", at ", now)
					if follows(t, why, m, r, now, asks) {
						changed[kind]++
					}
				}
			}
		}
	}
	for kind := api.OpStart; kind <= api.OpFire; kind++ {
		if changed[kind] == 0 != decide.Reads(kind) {
			t.Error("kind", kind, "changed so often:", changed[kind])
		}
	}
	if len(changed) != 10 {
		t.Error(changed)
	}
}

// follows does a request, and complains unless that is decide's plan and reply; did it change something?
func follows(t *testing.T, why string, m *Model, r api.Request, now int, asks []api.Ask) bool {
	t.Helper()
	was := m.Copy()
	f, there := was.Flow(r.Flow)
	p, want := decide.Do(f, there, was.History(r.Flow, f.Runs), r, now, asks)
	x := m.Do(r, now, asks)
	if !reflect.DeepEqual(x, want) {
		t.Errorf("%s: told %+v, not %+v", why, x, want)
	}
	if x.Code == api.ErrNil {
		t.Errorf("%s: ErrNil of a model that was made", why)
	}
	if !p.Changed {
		if !m.Same(was) || !was.Same(m) {
			t.Errorf("%s: something has changed", why)
		}
		return false
	}
	if x.Code != api.OK || m.Same(was) || was.Same(m) {
		t.Errorf("%s: told %+v, changed", why, x)
	}
	if g, ok := m.Flow(r.Flow); !ok || !rowcode.Same(g, p.Flow) {
		t.Errorf("%s: the workflow is %+v, not %+v", why, g, p.Flow)
	}
	runs := map[int][]api.Event{}
	for _, w := range p.Writes {
		from, keep := w.From, w.Keep
		if from == 0 {
			from, keep = w.Run, w.At
		}
		if len(was.History(r.Flow, from)) < keep {
			t.Errorf("%s: %+v is no write behind %d events", why, w, len(was.History(r.Flow, from)))
		}
		runs[w.Run] = slices.Concat(was.History(r.Flow, from)[:keep], w.Events)
	}
	for run := range 12 {
		want, written := runs[run]
		if !written {
			want = was.History(r.Flow, run)
		}
		if h := m.History(r.Flow, run); !branch.Same(h, want) {
			t.Errorf("%s: the run %d's history is %+v, not %+v", why, run, h, want)
		}
	}
	others(t, why, m, was, r.Flow)
	return true
}

// others complains unless all workflows but that one are as they were.
func others(t *testing.T, why string, m, was *Model, but string) {
	t.Helper()
	for _, name := range was.Names() {
		f, there := m.Flow(name)
		g, _ := was.Flow(name)
		if name != but && (!there || !rowcode.Same(f, g) || !branch.Same(m.History(name, g.Runs), was.History(name, g.Runs))) {
			t.Errorf("%s: %s has changed", why, name)
		}
	}
}

func TestANameThatWasUsed(t *testing.T) {
	m := busy(t)
	was := m.Copy()
	for _, r := range []api.Request{start("a", "r1"), signal("a", "r2"), start("b", "r1"), terminate("b", "r2"), start("c", "r1")} {
		for _, now := range moments {
			if x := m.Do(r, now, nil); !reflect.DeepEqual(x, api.Reply{Run: 1}) || !m.Same(was) {
				t.Errorf("%+v again: %+v", r, x)
			}
			r := r
			r.Name += "x"
			if x := m.Do(r, now, nil); !reflect.DeepEqual(x, api.Reply{Code: api.ErrMismatch}) || !m.Same(was) {
				t.Errorf("%+v: %+v", r, x)
			}
		}
	}
	// A name is one workflow's: another one may have it, too.
	if x := m.Do(start("d", "r1"), 9, nil); x.Code != api.OK || x.Run != 1 {
		t.Error(x)
	}
	stands(t, "behind it", m)
}

func kindsOf(h []api.Event) []int {
	var out []int
	for _, e := range h {
		out = append(out, e.Kind)
	}
	return out
}

// TestReset: the new run's history begins as the old one's, which is terminated, if it was running.
func TestReset(t *testing.T) {
	m := busy(t)
	old := m.History("a", 1)
	if x := m.Do(reset("a", "back", 4), 20, nil); !reflect.DeepEqual(x, api.Reply{Run: 2}) {
		t.Fatal(x)
	}
	ended := m.History("a", 1)
	if !branch.Same(ended[:len(old)], old) || len(ended) != len(old)+1 || ended[len(old)].Kind != api.EvTerminated || ended[len(old)].Time != 20 {
		t.Error("the old run's history is", ended)
	}
	h := m.History("a", 2)
	want := []int{api.EvStarted, api.EvScheduled, api.EvTaken, api.EvTaskFailed, api.EvSignaled, api.EvScheduled}
	if !slices.Equal(kindsOf(h), want) || !branch.Same(h[:3], old[:3]) {
		t.Error("the new run's history is", h)
	}
	if f, _ := m.Flow("a"); f.Runs != 2 || f.State.Run != 2 || f.State.From != 1 || f.State.Status != api.StRunning {
		t.Error("the workflow is", f)
	}
	was := m.Copy()
	if x := m.Do(reset("a", "back", 4), 30, nil); !reflect.DeepEqual(x, api.Reply{Run: 2}) || !m.Same(was) {
		t.Error("again:", x)
	}
	// One that is over: its history stays; and a run that was set back may be set back.
	must(t, m, poll("a"), 31)
	must(t, m, complete("a", 2, 7, api.Command{Kind: api.CmComplete, Value: listOf("end")}), 32)
	second := m.History("a", 2)
	must(t, m, reset("a", "more", 8), 40)
	if !branch.Same(m.History("a", 2), second) || !branch.Same(m.History("a", 1), ended) {
		t.Error("an old run's history has changed")
	}
	if h := m.History("a", 3); !branch.Same(h[:7], second[:7]) || h[7].Kind != api.EvTaskFailed || h[7].Num != 2 || len(h) != 9 {
		t.Error("the third run's history is", h)
	}
	stands(t, "behind it", m)
}

func TestFlowAndHistory(t *testing.T) {
	m := busy(t)
	f, there := m.Flow("a")
	if !there || f.Name != "a" || f.Runs != 1 || f.State.Count != 10 || len(f.Table) != 2 || f.State.Timers[0].Name != "b" || f.State.Updates[0].Name != "u" {
		t.Error("a is", f)
	}
	for name, want := range map[string]int{"a": 10, "b": 3, "c": 3} {
		if h := m.History(name, 1); len(h) != want {
			t.Errorf("%s has %d events, not %d", name, len(h), want)
		}
		for _, run := range []int{math.MinInt, -1, 0, 2, 3, 10, 11, 1<<32 + 1, math.MaxInt} {
			if h := m.History(name, run); len(h) != 0 {
				t.Errorf("%s has a run %d: %v", name, run, h)
			}
		}
	}
	for _, name := range []string{"", "d", "A", "a/1", "a/", "h/a/1", "w/a", "aa", "\xff"} {
		if f, there := m.Flow(name); there || !reflect.DeepEqual(f, api.Flow{}) {
			t.Errorf("%q is there: %+v", name, f)
		}
		for _, run := range []int{-1, 0, 1, 2} {
			if h := m.History(name, run); len(h) != 0 {
				t.Errorf("%q has a run %d: %v", name, run, h)
			}
		}
	}
}

// TestWhatIsNoName: the model does not ask whether a request may be asked; what decide takes is done.
func TestWhatIsNoName(t *testing.T) {
	m := New()
	for _, name := range []string{"", "a/1", "a", "\xff"} {
		must(t, m, start(name, "r1"), 3)
		must(t, m, signal(name, ""), 4)
		must(t, m, terminate(name, "r2"), 5)
		must(t, m, start(name, "r3"), 6)
	}
	c := m.Copy()
	for _, name := range m.Names() {
		f, there := m.Flow(name)
		g, _ := c.Flow(name)
		if !there || f.Name != name || f.Runs != 2 || len(f.Table) != 4 || !rowcode.Same(f, g) || len(m.History(name, 1)) != 4 || len(m.History(name, 2)) != 2 {
			t.Errorf("%q: %+v", name, f)
		}
	}
	if !m.Same(c) || len(m.Names()) != 4 {
		t.Error(m.Names())
	}
}

func TestRunsAtTheirMost(t *testing.T) {
	m := New()
	for i := range 10 {
		if x := must(t, m, start("a", fmt.Sprint("s", i)), i); x.Run != i+1 {
			t.Fatal(x)
		}
		must(t, m, terminate("a", fmt.Sprint("t", i)), i)
	}
	was := m.Copy()
	if x := m.Do(start("a", "more"), 20, nil); !reflect.DeepEqual(x, api.Reply{Code: api.ErrFull}) || !m.Same(was) {
		t.Error("an eleventh run:", x)
	}
	for run := 1; run <= 10; run++ {
		if h := m.History("a", run); len(h) != 3 || h[0].Time != run-1 {
			t.Error(run, h)
		}
	}
	stands(t, "behind it", m)
}

// TestEventsAtTheirMost: a history of 120 events is kept whole, and has no room for more.
func TestEventsAtTheirMost(t *testing.T) {
	m := New()
	must(t, m, start("a", "r1"), 1)
	var x api.Reply
	for i := 0; x.Code == api.OK; i++ {
		x = m.Do(poll("a"), 1, nil)
		if x.Code == api.OK {
			l := []api.Command{marker("1"), marker("2"), marker("3"), marker("4"), {Kind: api.CmTimer, Name: fmt.Sprint("t", i)}}
			x = m.Do(complete("a", 1, x.Num, l...), 1, nil)
		}
		if x.Code == api.OK {
			x = m.Do(api.Request{Kind: api.OpFire, Flow: "a"}, 1, nil)
		}
	}
	f, _ := m.Flow("a")
	if x.Code != api.ErrFull || f.State.Count < 112 || len(m.History("a", 1)) != f.State.Count {
		t.Error(x, f.State.Count)
	}
	for i := f.State.Count; i < 120; i++ {
		l := m.History("a", 1)
		if s := m.Do(signal("a", fmt.Sprint("s", i)), 1, nil); s.Code != api.OK || !branch.Same(m.History("a", 1)[:len(l)], l) {
			t.Error(s)
		}
	}
	if f, _ := m.Flow("a"); f.State.Count != 120 || len(m.History("a", 1)) != 120 {
		t.Error("not full:", f.State.Count)
	}
	was := m.Copy()
	if s := m.Do(signal("a", "more"), 1, nil); s.Code != api.ErrFull || !m.Same(was) {
		t.Error("one more:", s)
	}
	stands(t, "behind it", m)
}
