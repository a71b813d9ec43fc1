package decide

import (
	"fmt"
	"math/rand"
	"reflect"
	"slices"
	"testing"

	"usher/api"
	"usher/branch"
	"usher/fold"
	"usher/rowcode"
	"usher/state"
	"usher/value"
)

func spoilValue(v api.Value) {
	l := v.List[:cap(v.List)]
	for i := range l {
		l[i].Text = "spoilt"
	}
}

func spoilEvents(l []api.Event) {
	for i := range l {
		spoilValue(l[i].Value)
	}
	clear(l[:cap(l)])
}

func spoilAsks(l []api.Ask) {
	for i := range l {
		spoilValue(l[i].Value)
	}
	clear(l[:cap(l)])
}

func spoilState(s api.State) {
	spoilValue(s.Input)
	spoilValue(s.Result)
	for i := range s.Updates {
		spoilValue(s.Updates[i].Value)
		spoilValue(s.Updates[i].Outcome)
	}
	clear(s.Updates[:cap(s.Updates)])
	clear(s.Timers[:cap(s.Timers)])
}

func spoilFlow(f api.Flow) {
	spoilState(f.State)
	for i := range f.Table {
		clear(f.Table[i].Key[:cap(f.Table[i].Key)])
	}
	clear(f.Table[:cap(f.Table)])
}

func spoilPlan(p api.Plan) {
	spoilFlow(p.Flow)
	for i := range p.Writes {
		spoilEvents(p.Writes[i].Events)
	}
	clear(p.Writes[:cap(p.Writes)])
}

func spoilReply(x api.Reply) {
	spoilValue(x.Value)
	spoilState(x.State)
	spoilEvents(x.Events)
	spoilAsks(x.Updates)
}

// given is all that a call is handed.
type given struct {
	f    api.Flow
	h    []api.Event
	r    api.Request
	asks []api.Ask
}

func (g given) do() (api.Plan, api.Reply) {
	return Do(g.f, true, g.h, g.r, 20, g.asks)
}

func (g given) spoil() {
	spoilFlow(g.f)
	spoilEvents(g.h)
	spoilValue(g.r.Value)
	for i := range g.r.Commands {
		spoilValue(g.r.Commands[i].Value)
	}
	clear(g.r.Commands[:cap(g.r.Commands)])
	spoilAsks(g.asks)
}

// TestNewMemory spoils what was handed in, and what was told, each in turn: the other one stays.
func TestNewMemory(t *testing.T) {
	for kind := range 15 {
		for _, h := range []func() []api.Event{func() []api.Event { return idle() }, queued, taken, over} {
			for i, r := range append(requests(kind), update("v", listOf("v"), 2), update("u", listOf("u"), 2)) {
				why := fmt.Sprint("kind ", kind, ", request ", i)
				made := func() given {
					r := r
					r.Kind = kind
					r.Value = value.Clone(r.Value)
					r.Commands = slices.Clone(r.Commands)
					for i := range r.Commands {
						r.Commands[i].Value = value.Clone(r.Commands[i].Value)
					}
					return given{flowOf(2, h()), h(), r, asksOf("x", "u", "y")}
				}
				checkMemory(t, why, made)
			}
		}
	}
}

func checkMemory(t *testing.T, why string, made func() given) {
	t.Helper()
	want, told := made().do()
	g := made()
	p, x := g.do()
	if !reflect.DeepEqual(g, made()) {
		t.Errorf("%s: what was handed in has changed", why)
	}
	spoilPlan(p)
	if !reflect.DeepEqual(x, told) {
		t.Errorf("%s: the reply changed with the plan", why)
	}
	spoilReply(x)
	if !reflect.DeepEqual(g, made()) {
		t.Errorf("%s: what was handed in changed with what was told", why)
	}
	p, x = g.do()
	spoilReply(x)
	if !reflect.DeepEqual(p, want) {
		t.Errorf("%s: the plan changed with the reply", why)
	}
	p, x = g.do()
	g.spoil()
	if !reflect.DeepEqual(p, want) || !reflect.DeepEqual(x, told) {
		t.Errorf("%s: what was told changed with what was handed in", why)
	}
}

// world is a workflow with the histories of its runs, as plans make them, and the updates that wait.
type world struct {
	f     api.Flow
	there bool
	runs  map[int][]api.Event
	now   int
	asks  []api.Ask
}

func (w *world) last() []api.Event {
	return w.runs[w.f.Runs]
}

// put does what a plan says, and complains unless what follows (P26.3) is so.
func (w *world) put(t *testing.T, p api.Plan) {
	t.Helper()
	for _, h := range p.Writes {
		if h.At != len(w.runs[h.Run]) || len(h.Events) == 0 || h.From != 0 && (len(w.runs[h.Run]) > 0 || h.Keep > len(w.runs[h.From])) {
			t.Fatalf("%+v behind %d events", h, len(w.runs[h.Run]))
		}
		w.runs[h.Run] = slices.Concat(w.runs[h.From][:h.Keep], w.runs[h.Run], h.Events)
		if !fold.Legal(h.Run, w.runs[h.Run]) || branch.Check(w.runs[h.Run]) != api.OK {
			t.Fatalf("the history of %d may not be: %v", h.Run, w.runs[h.Run])
		}
	}
	w.f, w.there = p.Flow, true
	s, _, e := fold.Build(w.f.Runs, w.last())
	if e != api.OK || !state.Same(s, w.f.State) {
		t.Fatalf("the state is not that of its history: %d", e)
	}
	if w.f.Name != "f" || !rowcode.Can(w.f) || len(w.runs) != w.f.Runs || len(p.Writes) == 0 {
		t.Fatalf("may not be: %+v", w.f)
	}
}

// waiter gives what a query, or an update, is to be told, as the histories say it.
func (w *world) waiter(r api.Request) api.Reply {
	if !w.there {
		return api.Reply{Code: api.ErrNone}
	}
	x := api.Reply{Code: api.ErrWaits, Run: w.f.Runs, Num: len(w.last())}
	if r.Kind == api.OpUpdate {
		x.Num = 0
		var asked, outcome api.Value
		stage := 0
		for _, e := range w.last() {
			switch {
			case e.Kind == api.EvAccepted && e.Name == r.Request:
				stage, asked = 1, e.Value
			case e.Kind == api.EvOutcome && e.Name == r.Request:
				stage, outcome = 2, e.Value
			}
		}
		if stage > 0 && !value.Same(asked, r.Value) {
			return api.Reply{Code: api.ErrMismatch}
		}
		if stage > 0 && stage >= r.Num {
			return api.Reply{Run: w.f.Runs, Num: stage, Value: outcome}
		}
	}
	for _, e := range w.last() {
		if e.Kind >= api.EvCompleted {
			return api.Reply{Code: api.ErrClosed}
		}
	}
	return x
}

// do does a request, and complains of what may not come of it.
func (w *world) do(t *testing.T, r api.Request) api.Reply {
	t.Helper()
	was, h := w.f, branch.Fork(w.last(), api.MaxEvents)
	p, x := Do(w.f, w.there, w.last(), r, w.now, w.asks)
	if Waits(r.Kind) && !reflect.DeepEqual(x, w.waiter(r)) {
		t.Fatalf("%+v: told %+v, not %+v", r, x, w.waiter(r))
	}
	if x.Code == api.ErrWaits && !Waits(r.Kind) || (x.Code == api.ErrArg) != (r.Kind > api.OpFire) || p.Changed && (Reads(r.Kind) || x.Code != api.OK) {
		t.Fatalf("%+v: told %+v, with %+v", r, x, p)
	}
	if x.Code != api.OK && x.Code != api.ErrWaits && !reflect.DeepEqual(x, api.Reply{Code: x.Code}) {
		t.Fatalf("%+v: beside an error: %+v", r, x)
	}
	if !p.Changed {
		if !reflect.DeepEqual(p, api.Plan{}) || !reflect.DeepEqual(w.f, was) || !branch.Same(h, w.last()) {
			t.Fatalf("%+v: something has changed without a plan", r)
		}
		return x
	}
	w.put(t, p)
	if x.Run != w.f.Runs {
		t.Fatalf("%+v: told %+v of the run %d", r, x, w.f.Runs)
	}
	w.again(t, r, x)
	return x
}

// again: a request that has a name, and had its effect, has it once.
func (w *world) again(t *testing.T, r api.Request, x api.Reply) {
	t.Helper()
	if r.Request == "" {
		return
	}
	if p, y := Do(w.f, true, w.last(), r, w.now+3, nil); p.Changed || !reflect.DeepEqual(x, y) {
		t.Fatalf("%+v again: told %+v, not %+v", r, y, x)
	}
	r.Name += "x"
	if p, y := Do(w.f, true, w.last(), r, w.now, nil); p.Changed || y.Code != api.ErrMismatch {
		t.Fatalf("another one of the name %s: told %+v", r.Request, y)
	}
}

// commands gives some, more often than not such as may be.
func commands(r *rand.Rand) []api.Command {
	var out []api.Command
	for range r.Intn(4) {
		c := api.Command{Kind: 1 + r.Intn(6), Name: string(rune('a' + r.Intn(4)))}
		switch c.Kind {
		case api.CmTimer:
			c.Delay = r.Intn(9)
		case api.CmMarker:
			c.Name = ""
		case api.CmOutcome, api.CmReject:
			c.Value = listOf("o")
		}
		out = append(out, c)
	}
	if r.Intn(20) == 0 {
		out = append(out, api.Command{Kind: api.CmComplete + r.Intn(3)})
	}
	return out
}

// request gives any request of that kind that a client, or a worker, may ask.
func (w *world) request(r *rand.Rand, kind, i int) api.Request {
	q := api.Request{Kind: kind, Flow: "f"}
	name := fmt.Sprint("r", i)
	if r.Intn(30) == 0 {
		name = fmt.Sprint("r", r.Intn(i+1))
	}
	switch kind {
	case api.OpStart, api.OpSignalStart:
		q.Request, q.Name, q.Value, q.Num = name, "t", listOf("in"), r.Intn(2)*(20+r.Intn(200))
		q.Policy = api.Policy{First: 2, Coef: 1 << 62, Most: 9}
	case api.OpSignal:
		q.Request, q.Name, q.Value = name, "s", listOf("s")
	case api.OpCancel, api.OpTerminate:
		q.Request = name
	case api.OpReset:
		q.Request, q.Num = name, 1+r.Intn(len(w.last())+1)
		if l := branch.Find(w.last(), api.EvDone); len(l) > 0 && r.Intn(4) > 0 {
			q.Num = l[r.Intn(len(l))]
		}
	case api.OpQuery:
		q.Name, q.Value, q.Wait = "q", listOf("q"), r.Intn(9)
	case api.OpUpdate:
		q.Request, q.Num, q.Wait = string(rune('a'+r.Intn(4))), 1+r.Intn(2), r.Intn(9)
		q.Value = api.Value{Kind: api.VInt, Int: r.Intn(5) / 4}
	case api.OpPoll:
		q.Num = 1 + r.Intn(12)
	case api.OpComplete, api.OpFail:
		q.Run, q.Num = max(w.f.Runs, 1), max(w.f.State.Task.Event, 1)
		if kind == api.OpComplete {
			q.Commands = commands(r)
		}
	}
	return q
}

// turn chooses a kind, those of workers and of time more often, so that histories grow long.
func turn(r *rand.Rand) int {
	often := []int{api.OpPoll, api.OpComplete, api.OpPoll, api.OpComplete, api.OpUpdate, api.OpFire, api.OpSignal, api.OpQuery}
	if r.Intn(5) > 0 {
		return often[r.Intn(len(often))]
	}
	kind := 1 + r.Intn(14) // the last one is none
	if (kind == api.OpTerminate || kind == api.OpReset) && r.Intn(4) > 0 {
		return api.OpDescribe
	}
	return kind
}

// TestWhateverIsAsked: of a workflow as it comes.
func TestWhateverIsAsked(t *testing.T) {
	r := rand.New(rand.NewSource(26))
	codes, kinds, stages := map[api.Errno]int{}, map[int]int{}, map[int]int{}
	for range 300 {
		w := &world{runs: map[int][]api.Event{}}
		trims := r.Intn(3) > 0
		for i := range 300 {
			q := w.request(r, turn(r), i)
			n := len(w.runs[w.f.Runs])
			x := w.do(t, q)
			codes[x.Code]++
			if len(w.last()) != n {
				kinds[q.Kind]++
			}
			switch {
			case q.Kind == api.OpUpdate && x.Code == api.ErrWaits:
				w.asks = append(w.asks, api.Ask{Op: i + 1, Name: q.Request, Value: q.Value})
			case q.Kind == api.OpUpdate && x.Code == api.OK:
				stages[x.Num]++
			}
			if len(w.asks) > 3 {
				w.asks = nil
			}
			w.now += r.Intn(2)
			if trims && len(w.f.Table) > 20 { // room for more
				w.f.Table = slices.Delete(w.f.Table, 0, 1)
			}
		}
	}
	for _, code := range []api.Errno{api.OK, api.ErrArg, api.ErrNone, api.ErrFull, api.ErrStarted, api.ErrClosed, api.ErrMismatch, api.ErrToken, api.ErrUnseen, api.ErrCommand, api.ErrPoint, api.ErrWaits} {
		if codes[code] < 20 {
			t.Error("too little was seen:", code, codes)
		}
	}
	for kind := api.OpStart; kind <= api.OpFire; kind++ {
		if kinds[kind] < 20 != Reads(kind) || Reads(kind) && kinds[kind] > 0 {
			t.Error("too little was changed, or too much:", kind, kinds)
		}
	}
	if stages[1] < 20 || stages[2] < 20 || len(stages) != 2 {
		t.Error("too little was told:", stages)
	}
}
