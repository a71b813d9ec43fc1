package fire

import (
	"fmt"
	"math/rand"
	"reflect"
	"slices"
	"testing"

	"usher/api"
	"usher/branch"
	"usher/client"
	"usher/due"
	"usher/fold"
	"usher/rowcode"
	"usher/state"
	"usher/worker"
)

func spoilValue(v api.Value) {
	l := v.List[:cap(v.List)]
	for i := range l {
		l[i].Text = "spoilt"
	}
}

// spoil changes all that a workflow shares with others, if it does.
func spoil(f api.Flow) {
	spoilValue(f.State.Input)
	spoilValue(f.State.Result)
	for i := range f.State.Updates {
		spoilValue(f.State.Updates[i].Value)
	}
	clear(f.State.Updates[:cap(f.State.Updates)])
	clear(f.State.Timers[:cap(f.State.Timers)])
	for i := range f.Table {
		clear(f.Table[i].Key[:cap(f.Table[i].Key)])
	}
	clear(f.Table[:cap(f.Table)])
}

func spoilWrites(p api.Plan) {
	for i := range p.Writes {
		clear(p.Writes[i].Events[:cap(p.Writes[i].Events)])
	}
	clear(p.Writes[:cap(p.Writes)])
}

// TestNewMemory spoils what was handed in, and what was told, each in turn: the other one stays.
func TestNewMemory(t *testing.T) {
	for why, h := range map[string][]api.Event{
		"timers":  idle(timer("a", 5), timer("b", 6), timer("c", 99)),
		"late":    taken(1, timer("a", 5), timer("b", 99)),
		"nothing": idle(timer("b", 99)),
		"over":    idle(api.Event{Kind: api.EvCompleted, Time: 5, Value: listOf("out")}),
	} {
		made := func() api.Flow { return flowOf(2, h) }
		want, told := Do(made(), true, 20)
		f := made()
		p, x := Do(f, true, 20)
		n := Late(f, 20)
		if !reflect.DeepEqual(f, made()) {
			t.Errorf("%s: what was handed in has changed", why)
		}
		spoil(p.Flow)
		for i, w := range p.Writes {
			if !branch.Same(w.Events, want.Writes[i].Events) {
				t.Errorf("%s: the history changed with the workflow", why)
			}
		}
		spoilWrites(p)
		if !reflect.DeepEqual(f, made()) || n != Late(f, 20) {
			t.Errorf("%s: what was handed in changed with what was told", why)
		}
		p, _ = Do(f, true, 20)
		spoilWrites(p)
		if !rowcode.Same(p.Flow, want.Flow) {
			t.Errorf("%s: the workflow changed with the history", why)
		}
		p, _ = Do(f, true, 20)
		spoil(f)
		if !reflect.DeepEqual(p, want) || !reflect.DeepEqual(x, told) {
			t.Errorf("%s: what was told changed with what was handed in", why)
		}
	}
}

// TestRoomBehind: what is handed in may be the beginning of more, which stays as it is.
func TestRoomBehind(t *testing.T) {
	made := func() []api.Timer { return []api.Timer{{Name: "a", Due: 5}, {Name: "b", Due: 5}, {Name: "c", Due: 5}} }
	all := made()
	f := with(flowOf(2, idle()), func(s *api.State) { s.Timers = all[:1] })
	p, x := Do(f, true, 7)
	if x.Num != 2 || len(p.Flow.State.Timers) != 0 || !reflect.DeepEqual(all, made()) {
		t.Error("what stands behind has changed, or counts")
	}
}

// world is a workflow with its last run's history, as plans make it.
type world struct {
	f   api.Flow
	h   []api.Event
	now int
}

// put does what a plan says, and complains unless it goes with the history.
func (w *world) put(t *testing.T, p api.Plan) {
	t.Helper()
	h := p.Writes[0]
	if h.At == 0 {
		w.h = nil
	}
	if len(p.Writes) != 1 || h.Run != p.Flow.Runs || h.From != 0 || h.Keep != 0 || h.At != len(w.h) || len(h.Events) == 0 {
		t.Fatalf("%+v behind %d events", p.Writes, len(w.h))
	}
	w.h, w.f = slices.Concat(w.h, h.Events), p.Flow
	s, _, e := fold.Build(w.f.Runs, w.h)
	if e != api.OK || !state.Same(s, w.f.State) || !rowcode.Can(w.f) {
		t.Fatalf("the state is not that of its history, or may not be: %d", e)
	}
}

// fire makes so what time brings, and complains unless what follows (P25.3) is so; how many events came.
func (w *world) fire(t *testing.T) (int, api.Errno) {
	t.Helper()
	ahead, l, lag := w.f, due.At(w.f.State, w.now), Late(w.f, w.now)
	next, some := due.Next(w.f.State)
	if some = some && next <= due.Time(w.f.State, w.now); some != (len(l) > 0) || lag > 0 && !some || lag < 0 {
		t.Fatalf("late by %d, next is %d at %d, but %d events are due", lag, next, w.now, len(l))
	}
	p, x := Do(w.f, true, w.now)
	if x.Code != api.OK {
		if x.Code != api.ErrFull || len(w.h)+len(l) <= api.MaxEvents || !reflect.DeepEqual(x, api.Reply{Code: x.Code}) || !reflect.DeepEqual(p, api.Plan{}) {
			t.Fatalf("%+v, with %+v behind %d events", x, p, len(w.h))
		}
		return 0, x.Code
	}
	if !reflect.DeepEqual(x, api.Reply{Run: ahead.Runs, Num: len(l)}) || p.Changed != (len(l) > 0) {
		t.Fatalf("told %+v of %d events", x, len(l))
	}
	if !p.Changed {
		return 0, api.OK
	}
	w.put(t, p)
	if !branch.Same(w.h[ahead.State.Count:], l) {
		t.Fatalf("the history has\n%v, not\n%v", w.h[ahead.State.Count:], l)
	}
	same := w.f
	same.State = ahead.State
	if !reflect.DeepEqual(same, ahead) {
		t.Fatalf("more has changed than the state: %+v, not %+v", same, ahead)
	}
	for _, now := range []int{w.now, 0, -5} { // behind it nothing is due at that time, and ahead of it
		if q, y := Do(w.f, true, now); q.Changed || y.Code != api.OK || y.Num != 0 || Late(w.f, now) != 0 {
			t.Fatalf("again: %+v, %+v", y, q)
		}
	}
	return len(l), api.OK
}

// ask does something that a client may ask.
func (w *world) ask(t *testing.T, r *rand.Rand, i int) {
	t.Helper()
	kinds := []int{api.OpSignal, api.OpSignal, api.OpSignal, api.OpCancel, api.OpTerminate, api.OpStart}
	q := api.Request{Kind: kinds[r.Intn(len(kinds))], Flow: "f", Request: fmt.Sprint("r", i), Name: "s", Num: 60}
	if p, _ := client.Do(w.f, true, q, w.now); p.Changed && (q.Kind != api.OpTerminate || r.Intn(5) == 0) {
		w.put(t, p)
		w.f.Table = w.f.Table[:1:1] // room for more
	}
}

// work takes a task, or completes the one that is taken, with timers.
func (w *world) work(t *testing.T, r *rand.Rand) {
	t.Helper()
	if w.f.State.Task.State != api.TaskTaken {
		if p, _ := worker.Poll(w.f, true, w.h, api.Request{Num: r.Intn(9)}, w.now, []api.Ask{{Name: "x"}}); p.Changed {
			w.put(t, p)
		}
		return
	}
	q := api.Request{Run: w.f.Runs, Num: w.f.State.Task.Event}
	for range r.Intn(4) {
		q.Commands = append(q.Commands, api.Command{Kind: api.CmTimer, Name: string(rune('a' + r.Intn(12))), Delay: r.Intn(9)})
	}
	if p, _ := worker.Complete(w.f, true, q, w.now, nil); p.Changed {
		w.put(t, p)
	}
}

// lose puts something behind the history of which nobody makes a task, as only time can.
func (w *world) lose(t *testing.T) {
	t.Helper()
	if p, e := client.Grow(w.f, []api.Event{signaled(due.Time(w.f.State, w.now))}); e == api.OK {
		w.put(t, p)
	}
}

// TestWhateverTimeBrings: of workflows as they come.
func TestWhateverTimeBrings(t *testing.T) {
	r := rand.New(rand.NewSource(25))
	counts, codes, kinds := map[int]int{}, map[api.Errno]int{}, map[int]int{}
	for range 400 {
		p, _ := client.Do(api.Flow{}, false, api.Request{Kind: api.OpStart, Flow: "f", Request: "s", Name: "t", Num: r.Intn(2) * 80, Policy: api.Policy{First: 2, Coef: 1 << 62, Most: 9}}, 0)
		w := &world{}
		w.put(t, p)
		for i := range 300 {
			switch r.Intn(8) {
			case 0:
				w.ask(t, r, i)
			case 1, 2, 3, 4:
				w.work(t, r)
			case 5:
				if r.Intn(6) == 0 {
					w.lose(t)
				}
			case 6:
				w.now += r.Intn(9)
			case 7:
				n, code := w.fire(t)
				counts[n]++
				codes[code]++
				for _, e := range w.h[len(w.h)-n:] {
					kinds[e.Kind]++
				}
			}
		}
	}
	if codes[api.ErrFull] < 20 || len(codes) != 2 || counts[0] < 100 || counts[1] < 100 || counts[2] < 100 || counts[3] < 20 || counts[4] < 10 {
		t.Error("too little was seen:", codes, counts)
	}
	for _, kind := range []int{api.EvScheduled, api.EvTaskTimed, api.EvFired, api.EvTimedOut} {
		if kinds[kind] < 20 || len(kinds) != 4 {
			t.Error("too little was seen:", kinds)
		}
	}
}
