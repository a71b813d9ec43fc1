package worker

import (
	"fmt"
	"math/rand"
	"reflect"
	"slices"
	"testing"

	"usher/api"
	"usher/branch"
	"usher/client"
	"usher/due"
	"usher/fold"
	"usher/rowcode"
	"usher/state"
)

func spoilValue(v api.Value) {
	l := v.List[:cap(v.List)]
	for i := range l {
		l[i].Text = "spoilt"
	}
}

func spoilEvents(l []api.Event) {
	for i := range l {
		spoilValue(l[i].Value)
	}
	clear(l[:cap(l)])
}

func spoilAsks(l []api.Ask) {
	for i := range l {
		spoilValue(l[i].Value)
	}
	clear(l[:cap(l)])
}

func spoilCommands(l []api.Command) {
	for i := range l {
		spoilValue(l[i].Value)
	}
	clear(l[:cap(l)])
}

// spoil changes all that a workflow shares with others, if it does.
func spoil(f api.Flow) {
	spoilValue(f.State.Input)
	spoilValue(f.State.Result)
	for i := range f.State.Updates {
		spoilValue(f.State.Updates[i].Value)
		spoilValue(f.State.Updates[i].Outcome)
	}
	clear(f.State.Updates[:cap(f.State.Updates)])
	clear(f.State.Timers[:cap(f.State.Timers)])
	for i := range f.Table {
		clear(f.Table[i].Key[:cap(f.Table[i].Key)])
	}
	clear(f.Table[:cap(f.Table)])
}

func spoilPlan(p api.Plan) {
	spoil(p.Flow)
	for i := range p.Writes {
		spoilEvents(p.Writes[i].Events)
	}
	clear(p.Writes[:cap(p.Writes)])
}

func spoilReply(x api.Reply) {
	spoilEvents(x.Events)
	spoilAsks(x.Updates)
}

// given is all that a call is handed.
type given struct {
	f    api.Flow
	h    []api.Event
	r    api.Request
	asks []api.Ask
}

func (g given) spoil() {
	spoil(g.f)
	spoilEvents(g.h)
	spoilCommands(g.r.Commands)
	spoilAsks(g.asks)
}

// TestNewMemory spoils what was handed in, and what was told, each in turn: the other one stays.
func TestNewMemory(t *testing.T) {
	commands := func() []api.Command {
		return []api.Command{
			{Kind: api.CmMarker, Value: listOf("k")}, {Kind: api.CmAccept, Name: "x"}, {Kind: api.CmReject, Name: "y", Value: listOf("no")}, {Kind: api.CmOutcome, Name: "u", Value: listOf("o")},
		}
	}
	poll := func(g given) (api.Plan, api.Reply) { return Poll(g.f, true, g.h, g.r, 7, g.asks) }
	complete := func(g given) (api.Plan, api.Reply) { return Complete(g.f, true, g.r, 7, g.asks) }
	fail := func(g given) (api.Plan, api.Reply) { return Fail(g.f, true, g.r, 7) }
	of := func(h []api.Event, l ...api.Command) given {
		return given{flowOf(2, h), h, token(l...), asksOf("x", "u", "y")}
	}
	for why, c := range map[string]struct {
		do   func(given) (api.Plan, api.Reply)
		made func() given
	}{
		"a task":           {poll, func() given { return of(waiting(1, 5)) }},
		"a task for asks":  {poll, func() given { return of(idle()) }},
		"no task":          {poll, func() given { return of(taken(1)) }},
		"completed":        {complete, func() given { return of(taken(1), commands()...) }},
		"completed, Fresh": {complete, func() given { return of(taken(1, signaled(6)), commands()...) }},
		"completed, over": {complete, func() given {
			return of(taken(1), append(commands(), api.Command{Kind: api.CmComplete, Value: listOf("out")})...)
		}},
		"failed": {fail, func() given { return of(taken(1)) }},
	} {
		want, told := c.do(c.made())
		g := c.made()
		p, x := c.do(g)
		if !reflect.DeepEqual(g, c.made()) {
			t.Errorf("%s: what was handed in has changed", why)
		}
		spoilPlan(p)
		tells(t, why+", the plan spoilt", x, told)
		spoilReply(x)
		if !reflect.DeepEqual(g, c.made()) {
			t.Errorf("%s: what was handed in changed with what was told", why)
		}
		p, x = c.do(g)
		spoilReply(x)
		same(t, why+", the reply spoilt", p, want)
		p, x = c.do(g)
		g.spoil()
		same(t, why+", what was handed in spoilt", p, want)
		tells(t, why+", what was handed in spoilt", x, told)
		p, _ = c.do(c.made())
		spoil(p.Flow)
		for i, w := range p.Writes {
			if !branch.Same(w.Events, want.Writes[i].Events) {
				t.Errorf("%s: the history changed with the workflow", why)
			}
		}
	}
}

// TestRoomBehind: what is handed in may be the beginning of more, which stays as it is.
func TestRoomBehind(t *testing.T) {
	all, asks := filled(20, taken(1)), asksOf("x", "u", "y", "z")
	commands := []api.Command{{Kind: api.CmMarker}, {Kind: api.CmReject, Name: "x"}, {Kind: api.CmMarker, Value: listOf("k")}}
	Poll(flowOf(2, all[:8]), true, all[:8], poll(10), 7, asks[:2])
	Poll(flowOf(2, all[:7]), true, all[:7], poll(10), 7, asks[:1])
	Complete(flowOf(2, all[:9]), true, token(commands[:2]...), 7, asks[:2])
	if !reflect.DeepEqual(all, filled(20, taken(1))) || !reflect.DeepEqual(asks, asksOf("x", "u", "y", "z")) || !reflect.DeepEqual(commands[2].Value, listOf("k")) {
		t.Error("what stands behind has changed")
	}
}

// world is a workflow with its one run's history, as plans make it, and the tokens that were told.
type world struct {
	f      api.Flow
	h      []api.Event
	now    int
	tokens []int
	asks   []api.Ask
}

// put does what a plan says, and complains unless it goes with the history, and leaves all else as it was.
func (w *world) put(t *testing.T, p api.Plan) {
	t.Helper()
	h := p.Writes[0]
	if len(p.Writes) != 1 || h.Run != 1 || h.From != 0 || h.Keep != 0 || h.At != len(w.h) || len(h.Events) == 0 {
		t.Fatalf("%+v behind %d events", p.Writes, len(w.h))
	}
	w.h = slices.Concat(w.h, h.Events)
	if p.Flow.Name != "f" || p.Flow.Runs != 1 || !rowcode.Can(p.Flow) {
		t.Fatalf("may not be: %+v", p.Flow)
	}
	w.f = p.Flow
	s, _, e := fold.Build(1, w.h)
	if e != api.OK || !state.Same(s, w.f.State) {
		t.Fatalf("the state is not that of its history: %d", e)
	}
}

// wakes says whether a run in which something is Fresh has a task.
func wakes(s api.State) bool {
	return !state.Running(s) || !s.Fresh || s.Task.State != api.TaskNone
}

// told complains of a reply that has more than its error, and does what a plan of this layer says, if there is one: then P24.5 must hold.
func (w *world) told(t *testing.T, p api.Plan, x api.Reply) api.Errno {
	t.Helper()
	if x.Code != api.OK && !reflect.DeepEqual(x, api.Reply{Code: x.Code}) {
		t.Fatalf("beside an error: %+v", x)
	}
	if !p.Changed {
		nothing(t, "no change", p)
		return x.Code
	}
	before, table := w.f.State, w.f.Table
	w.put(t, p)
	if x.Code != api.OK || x.Run != 1 || !reflect.DeepEqual(table, w.f.Table) {
		t.Fatalf("a plan with %+v", x)
	}
	if wakes(before) && !wakes(w.f.State) {
		t.Fatalf("something is Fresh, and there is no task: %+v", w.f.State)
	}
	return x.Code
}

// poll takes a task, if there is one; it must be none that was taken, and another worker has none (P24.4).
func (w *world) poll(t *testing.T, num int) api.Errno {
	t.Helper()
	was := w.f.State
	p, x := Poll(w.f, true, w.h, poll(num), w.now, w.asks)
	code := w.told(t, p, x)
	if code != api.OK {
		return code
	}
	if !branch.Same(x.Events, w.h) || p.Changed != (x.Num != 0) {
		t.Fatalf("told %+v", x)
	}
	if x.Num == 0 {
		return api.OK
	}
	if was.Task.State == api.TaskTaken || x.Num != len(w.h) || w.f.State.Task.Event != x.Num || w.f.State.Fresh || slices.Contains(w.tokens, x.Num) {
		t.Fatalf("taken twice: %+v", x)
	}
	w.tokens = append(w.tokens, x.Num)
	if p, y := Poll(w.f, true, w.h, poll(num), w.now+9, asksOf("other")); p.Changed || y.Code != api.OK || y.Num != 0 || !branch.Same(y.Events, w.h) {
		t.Fatalf("another worker has %+v", y)
	}
	return api.OK
}

// spent complains unless a token is none any more.
func (w *world) spent(t *testing.T, r api.Request) {
	t.Helper()
	p, x := Complete(w.f, true, r, w.now, nil)
	wrong(t, "Complete again", p, x, api.ErrToken)
	p, x = Fail(w.f, true, r, w.now)
	wrong(t, "Fail again", p, x, api.ErrToken)
}

// anyCommands gives some commands, of few names, that more often than not may be.
func anyCommands(r *rand.Rand) []api.Command {
	var out []api.Command
	for range r.Intn(4) {
		c := api.Command{Kind: 1 + r.Intn(6), Name: string(rune('a' + r.Intn(4)))}
		switch c.Kind {
		case api.CmTimer:
			c.Delay = r.Intn(9)
		case api.CmMarker:
			c.Name = ""
		}
		out = append(out, c)
	}
	if r.Intn(20) == 0 {
		out = append(out, api.Command{Kind: api.CmComplete + r.Intn(3)})
	}
	if r.Intn(30) == 0 {
		out = append(out, slices.Repeat([]api.Command{{Kind: api.CmMarker}}, 12)...)
	}
	return out
}

// finish completes, or fails, a task by one of the tokens that were told; only the last one may be it.
func (w *world) finish(t *testing.T, r *rand.Rand) api.Errno {
	t.Helper()
	if len(w.tokens) == 0 {
		return api.OK
	}
	x := api.Request{Flow: "f", Run: 1, Num: w.tokens[len(w.tokens)-1]}
	if r.Intn(5) == 0 {
		x.Num = w.tokens[r.Intn(len(w.tokens))]
	}
	held := w.f.State.Task.State == api.TaskTaken && w.f.State.Task.Event == x.Num
	n := len(w.h)
	var code api.Errno
	if r.Intn(3) == 0 {
		p, y := Fail(w.f, true, x, w.now)
		code = w.told(t, p, y)
	} else {
		x.Commands = anyCommands(r)
		p, y := Complete(w.f, true, x, w.now, w.asks)
		code = w.told(t, p, y)
		if y.Num != len(w.h)-n {
			t.Fatalf("%d events, told %d", len(w.h)-n, y.Num)
		}
	}
	if held == (code == api.ErrToken) {
		t.Fatalf("the token %d: %d of %+v", x.Num, code, w.f.State.Task)
	}
	if code == api.OK {
		w.spent(t, x)
	}
	return code
}

// fire makes so what time brings, which ends the tasks that are late.
func (w *world) fire(t *testing.T) {
	t.Helper()
	if p, e := client.Grow(w.f, due.At(w.f.State, w.now)); e == api.OK && len(p.Writes[0].Events) > 0 {
		w.put(t, p)
	}
}

func (w *world) client(t *testing.T, r *rand.Rand, i int) {
	t.Helper()
	kind := api.OpSignal
	if r.Intn(8) == 0 {
		kind = api.OpCancel
	}
	if p, _ := client.Do(w.f, true, api.Request{Kind: kind, Flow: "f", Request: fmt.Sprint("r", i), Name: "s"}, w.now); p.Changed {
		w.put(t, p)
		w.f.Table = w.f.Table[:1:1] // room for more
	}
}

// TestWhateverWorkersDo: of workflows as they come.
func TestWhateverWorkersDo(t *testing.T) {
	r := rand.New(rand.NewSource(24))
	seen := map[api.Errno]int{}
	for range 300 {
		p, _ := client.Do(api.Flow{}, false, api.Request{Kind: api.OpStart, Flow: "f", Request: "s", Name: "t", Num: r.Intn(2) * 300, Policy: api.Policy{First: 2, Coef: 1 << 62, Most: 9}}, 0)
		w := &world{}
		w.put(t, p)
		for i := range 400 {
			switch r.Intn(8) {
			case 0, 1:
				num := r.Intn(12)
				if r.Intn(9) == 0 {
					num = -1 << 45
				}
				seen[w.poll(t, num)]++
			case 2, 3, 4:
				seen[w.finish(t, r)]++
			case 5:
				w.client(t, r, i)
			case 6:
				w.now += r.Intn(7)
				if r.Intn(2) == 0 {
					w.fire(t)
				}
			case 7:
				w.asks = nil
				for range r.Intn(3) {
					w.asks = append(w.asks, api.Ask{Op: i, Name: string(rune('a' + r.Intn(5)))})
				}
			}
		}
	}
	for _, code := range []api.Errno{api.OK, api.ErrArg, api.ErrClosed, api.ErrToken, api.ErrFull, api.ErrUnseen, api.ErrCommand, api.ErrLong} {
		if seen[code] < 20 {
			t.Error("too little was seen:", code, seen[code])
		}
	}
	if len(seen) != 8 {
		t.Error("what is not told:", seen)
	}
}
