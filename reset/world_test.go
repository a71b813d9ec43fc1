package reset

import (
	"fmt"
	"math/rand"
	"reflect"
	"slices"
	"testing"

	"usher/api"
	"usher/branch"
	"usher/client"
	"usher/fold"
	"usher/rowcode"
	"usher/state"
)

func spoilValue(v api.Value) {
	l := v.List[:cap(v.List)]
	for i := range l {
		l[i].Text = "spoilt"
	}
}

func spoilEvents(l []api.Event) {
	for i := range l {
		spoilValue(l[i].Value)
	}
	clear(l[:cap(l)])
}

// spoil changes all that a workflow shares with others, if it does.
func spoil(f api.Flow) {
	spoilValue(f.State.Input)
	spoilValue(f.State.Result)
	for i := range f.State.Updates {
		spoilValue(f.State.Updates[i].Value)
	}
	clear(f.State.Updates[:cap(f.State.Updates)])
	clear(f.State.Timers[:cap(f.State.Timers)])
	for i := range f.Table {
		clear(f.Table[i].Key[:cap(f.Table[i].Key)])
	}
	clear(f.Table[:cap(f.Table)])
}

func spoilPlan(p api.Plan) {
	spoil(p.Flow)
	for i := range p.Writes {
		spoilEvents(p.Writes[i].Events)
	}
	clear(p.Writes[:cap(p.Writes)])
}

// TestNewMemory spoils what was handed in, and what was told, each in turn: the other one stays.
func TestNewMemory(t *testing.T) {
	for _, made := range []func() []api.Event{history, ended} {
		want, _ := Do(flowOf(2, made()), true, made(), request(12), 9)
		f, h := flowOf(2, made()), made()
		got, _ := Do(f, true, h, request(12), 9)
		if !reflect.DeepEqual(f, flowOf(2, made())) || !reflect.DeepEqual(h, made()) {
			t.Error("what was handed in has changed")
		}
		spoilPlan(got)
		if !reflect.DeepEqual(f, flowOf(2, made())) || !reflect.DeepEqual(h, made()) {
			t.Error("what was handed in changed with what was told")
		}
		got, _ = Do(f, true, h, request(12), 9)
		spoil(f)
		spoilEvents(h)
		same(t, "what was handed in was spoilt", got, want)
		got, _ = Do(flowOf(2, made()), true, made(), request(12), 9)
		spoil(got.Flow)
		for i, w := range got.Writes {
			if !branch.Same(w.Events, want.Writes[i].Events) {
				t.Error("a history changed with the workflow")
			}
		}
	}
	h := history()
	l := Again(h, 5, 1, 9)
	spoilEvents(l)
	if !reflect.DeepEqual(h, history()) {
		t.Error("the history changed with what comes in its place")
	}
	l = Again(h, 5, 1, 9)
	points := Points(h)
	spoilEvents(h)
	if !branch.Same(l, Again(history(), 5, 1, 9)) || !slices.Equal(points, []int{5, 12}) {
		t.Error("what was told changed with the history")
	}
}

// TestRoomBehind: what is handed in may be the beginning of more, which stays as it is.
func TestRoomBehind(t *testing.T) {
	all, tab := ended(), tableOf(9)
	f := flowOf(2, all[:12])
	f.Table = tab[:3]
	Do(f, true, all[:12], request(12), 9)
	Again(all[:5], 0, 1, 9)
	if !reflect.DeepEqual(all, ended()) || !reflect.DeepEqual(tab, tableOf(9)) {
		t.Error("what stands behind has changed")
	}
}

// world is a workflow with the histories of its runs, as plans make them.
type world struct {
	f    api.Flow
	runs map[int][]api.Event
	now  int
}

func (w *world) last() []api.Event {
	return w.runs[w.f.Runs]
}

// put does what a plan says, and complains unless it goes with the histories that there are.
func (w *world) put(t *testing.T, p api.Plan) {
	t.Helper()
	for _, h := range p.Writes {
		if h.At != len(w.runs[h.Run]) || len(h.Events) == 0 {
			t.Fatalf("%+v behind %d events", h, len(w.runs[h.Run]))
		}
		w.runs[h.Run] = slices.Concat(w.runs[h.From][:h.Keep], w.runs[h.Run], h.Events)
	}
	w.f = p.Flow
	s, _, e := fold.Build(w.f.Runs, w.last())
	if e != api.OK || !state.Same(s, w.f.State) {
		t.Fatalf("the state is not that of its history: %d", e)
	}
	if !rowcode.Can(w.f) {
		t.Fatalf("may not be: %+v", w.f)
	}
}

// grow puts events behind the last run's history, if they may come.
func (w *world) grow(t *testing.T, l ...api.Event) {
	t.Helper()
	if p, e := client.Grow(w.f, l); e == api.OK {
		w.put(t, p)
	}
}

// live does something of which a history becomes longer, at times to its end.
func (w *world) live(t *testing.T, r *rand.Rand) {
	t.Helper()
	at := max(w.now, w.f.State.Time)
	switch r.Intn(8) {
	case 0, 1:
		w.grow(t, signal(at, string(rune('a'+r.Intn(26)))))
	case 2:
		w.grow(t, scheduled(at))
	case 3:
		w.grow(t, api.Event{Kind: api.EvTaken, Time: at, Due: at + 5})
	case 4, 5:
		w.grow(t, api.Event{Kind: api.EvDone, Time: at}, api.Event{Kind: api.EvMarker, Time: at, Value: listOf("m")})
	case 6:
		if r.Intn(10) == 0 {
			w.grow(t, api.Event{Kind: api.EvTerminated, Time: at})
		}
	case 7:
		w.now += r.Intn(3)
	}
}

// signals gives what was signaled in a history, in order.
func signals(h []api.Event) string {
	s := ""
	for _, e := range h {
		if e.Kind == api.EvSignaled {
			s += e.Name
		}
	}
	return s
}

// reset sets the last run back, and complains unless what follows (P23.3) is so; false, if it was refused.
func (w *world) reset(t *testing.T, r api.Request) api.Errno {
	t.Helper()
	old, run, ran := branch.Fork(w.last(), 1000), w.f.Runs, state.Running(w.f.State)
	p, x := Do(w.f, true, w.last(), r, w.now)
	if x.Code != api.OK {
		if !reflect.DeepEqual(p, api.Plan{}) || !reflect.DeepEqual(x, api.Reply{Code: x.Code}) {
			t.Fatalf("refused with %d, and %+v, %+v", x.Code, p, x)
		}
		return x.Code
	}
	w.put(t, p)
	h := w.last()
	if w.f.Runs != run+1 || x.Run != run+1 || branch.Common(old, h) != r.Num-1 || signals(old) != signals(h) || !fold.Legal(w.f.Runs, h) {
		t.Fatalf("back to %d of\n%v:\n%v", r.Num, old, h)
	}
	if ran {
		old = append(old, terminated(max(w.now, old[len(old)-1].Time)))
	}
	if !branch.Same(w.runs[run], old) {
		t.Fatalf("the old history has become\n%v", w.runs[run])
	}
	if p, y := Do(w.f, true, h, r, w.now+7); p.Changed || !reflect.DeepEqual(x, y) {
		t.Fatalf("asked again: %+v, not %+v", y, x)
	}
	r.Num++
	if p, y := Do(w.f, true, h, r, w.now); p.Changed || y.Code != api.ErrMismatch {
		t.Fatalf("another one of that name: %+v", y)
	}
	return api.OK
}

// TestWhateverIsSetBack: of workflows as they come, at any point.
func TestWhateverIsSetBack(t *testing.T) {
	r := rand.New(rand.NewSource(23))
	seen := map[api.Errno]int{}
	for range 600 {
		p, _ := client.Do(api.Flow{}, false, api.Request{Kind: api.OpStart, Flow: "f", Request: "s", Name: "t", Value: listOf("in")}, 0)
		w := &world{runs: map[int][]api.Event{}}
		w.put(t, p)
		w.f.Table = append(w.f.Table[:0:0], tableOf(r.Intn(30))...)
		for i := range 120 {
			if r.Intn(12) > 0 {
				w.live(t, r)
				continue
			}
			num := r.Intn(len(w.last()) + 2)
			if l := Points(w.last()); len(l) > 0 && r.Intn(4) > 0 {
				num = l[r.Intn(len(l))]
			}
			seen[w.reset(t, api.Request{Kind: api.OpReset, Flow: "f", Request: fmt.Sprint("x", i), Num: num})]++
		}
	}
	if seen[api.OK] < 500 || seen[api.ErrPoint] < 100 || seen[api.ErrFull] < 10 || len(seen) != 3 {
		t.Error("too little was seen:", seen)
	}
}
