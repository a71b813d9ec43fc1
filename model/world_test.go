package model

import (
	"fmt"
	"math/rand"
	"reflect"
	"slices"
	"testing"

	"usher/api"
	"usher/branch"
	"usher/decide"
	"usher/fold"
	"usher/value"
)

func spoilValue(v api.Value) {
	l := v.List[:cap(v.List)]
	for i := range l {
		l[i].Text = "spoilt"
	}
}

func spoilEvents(l []api.Event) {
	for i := range l {
		spoilValue(l[i].Value)
	}
	clear(l[:cap(l)])
}

func spoilAsks(l []api.Ask) {
	for i := range l {
		spoilValue(l[i].Value)
	}
	clear(l[:cap(l)])
}

func spoilState(s api.State) {
	spoilValue(s.Input)
	spoilValue(s.Result)
	for i := range s.Updates {
		spoilValue(s.Updates[i].Value)
		spoilValue(s.Updates[i].Outcome)
	}
	clear(s.Updates[:cap(s.Updates)])
	clear(s.Timers[:cap(s.Timers)])
}

func spoilFlow(f api.Flow) {
	spoilState(f.State)
	for i := range f.Table {
		clear(f.Table[i].Key[:cap(f.Table[i].Key)])
	}
	clear(f.Table[:cap(f.Table)])
}

func spoilReply(x api.Reply) {
	spoilValue(x.Value)
	spoilState(x.State)
	spoilEvents(x.Events)
	spoilAsks(x.Updates)
	spoilAsks(x.Queries)
}

func spoilRequest(r api.Request) {
	spoilValue(r.Value)
	for i := range r.Commands {
		spoilValue(r.Commands[i].Value)
	}
	clear(r.Commands[:cap(r.Commands)])
}

// cloneRequest gives the same request in memory of its own.
func cloneRequest(r api.Request) api.Request {
	r.Value = value.Clone(r.Value)
	r.Commands = slices.Clone(r.Commands)
	for i := range r.Commands {
		r.Commands[i].Value = value.Clone(r.Commands[i].Value)
	}
	return r
}

func asksOf() []api.Ask {
	return []api.Ask{{Op: 40, Name: "y", Value: listOf("y")}, {Op: 41, Name: "u", Value: listOf("u")}}
}

// TestNewMemory spoils what was handed in, and what was told, each in turn: the model stays as it is.
func TestNewMemory(t *testing.T) {
	for kind := range 15 {
		for _, flow := range []string{"a", "b", "c", "d"} {
			for i, r := range append(requests(kind, flow), start(flow, "new"), signal(flow, "new"), complete(flow, 1, 3, marker("x"), api.Command{Kind: api.CmAccept, Name: "y"})) {
				r.Kind = kind
				checkMemory(t, fmt.Sprint("kind ", kind, " of ", flow, ", request ", i), r)
			}
		}
	}
	m, want := busy(t), busy(t)
	for _, name := range m.Names() {
		f, _ := m.Flow(name)
		spoilFlow(f)
		spoilEvents(m.History(name, 1))
	}
	same(t, "what was told was spoilt", m, want, true)
}

func checkMemory(t *testing.T, why string, r api.Request) {
	t.Helper()
	want := busy(t)
	told := want.Do(cloneRequest(r), 20, asksOf())
	m := busy(t)
	q, asks := cloneRequest(r), asksOf()
	x := m.Do(q, 20, asks)
	if !reflect.DeepEqual(q, cloneRequest(r)) || !reflect.DeepEqual(asks, asksOf()) {
		t.Errorf("%s: what was handed in has changed", why)
	}
	spoilRequest(q)
	spoilAsks(asks)
	if !reflect.DeepEqual(x, told) {
		t.Errorf("%s: the reply changed with what was handed in", why)
	}
	same(t, why+": what was handed in was spoilt", m, want, true)
	spoilReply(x)
	same(t, why+": the reply was spoilt", m, want, true)
}

// play is a model, and each history as it was last seen.
type play struct {
	*rand.Rand
	m      *Model
	now    int
	chatty bool // there are signals, until there is no room
	asks   map[string][]api.Ask
	seen   map[string][][]api.Event // by workflows, by runs
	codes  map[api.Errno]int
	kinds  map[int]int
}

var flows = []string{"b", "a.a", "a"}

func (p *play) commands() []api.Command {
	var out []api.Command
	for range p.Intn(4) {
		c := api.Command{Kind: 1 + p.Intn(6), Name: string(rune('a' + p.Intn(4)))}
		switch c.Kind {
		case api.CmTimer:
			c.Delay = p.Intn(9)
		case api.CmMarker:
			c.Name = ""
		case api.CmOutcome, api.CmReject:
			c.Value = listOf("o")
		}
		out = append(out, c)
	}
	if p.Intn(12) == 0 {
		out = append(out, api.Command{Kind: api.CmComplete + p.Intn(3)})
	}
	return out
}

// request gives any request of that kind.
func (p *play) request(kind, i int) api.Request {
	flow := flows[p.Intn(len(flows))]
	f, _ := p.m.Flow(flow)
	q := api.Request{Kind: kind, Flow: flow}
	name := fmt.Sprint("r", i)
	if p.Intn(20) == 0 && len(f.Table) > 0 {
		name = f.Table[p.Intn(len(f.Table))].Request
	}
	switch kind {
	case api.OpStart, api.OpSignalStart:
		q = start(flow, name)
		q.Kind, q.Num = kind, p.Intn(2)*(20+p.Intn(200))
	case api.OpSignal:
		q = signal(flow, name)
	case api.OpCancel, api.OpTerminate:
		q.Request = name
	case api.OpReset:
		q.Request, q.Num = name, 1+p.Intn(9)
		if l := branch.Find(p.m.History(flow, f.Runs), api.EvDone); len(l) > 0 && p.Intn(4) > 0 {
			q.Num = l[p.Intn(len(l))]
		}
	case api.OpQuery:
		q.Name, q.Value, q.Wait = "q", listOf("q"), p.Intn(9)
	case api.OpUpdate:
		q.Request, q.Num = string(rune('a'+p.Intn(4))), 1+p.Intn(2)
		q.Value = api.Value{Kind: api.VInt, Int: p.Intn(5) / 4}
	case api.OpPoll:
		q.Num = 1 + p.Intn(12)
	case api.OpComplete, api.OpFail:
		q.Run, q.Num = max(f.Runs, 1), max(f.State.Task.Event, 1)
		if kind == api.OpComplete {
			q.Commands = p.commands()
		}
	}
	return q
}

// turn chooses a kind, those of workers more often, so that histories grow long.
func (p *play) turn() int {
	often := []int{api.OpPoll, api.OpComplete, api.OpPoll, api.OpComplete, api.OpUpdate, api.OpFire}
	if p.chatty && p.Intn(6) == 0 {
		return api.OpSignal + p.Intn(2)
	}
	if p.Intn(5) > 0 {
		return often[p.Intn(len(often))]
	}
	kind := p.Intn(15) // the first one, and the last one, are none
	if kind == api.OpTerminate && p.Intn(2) > 0 {
		return api.OpDescribe
	}
	return kind
}

// do does a request, and complains of what may not come of it (P27.3 to P27.5).
func (p *play) do(t *testing.T, q api.Request, i int) {
	t.Helper()
	was := p.m.Copy()
	x := p.m.Do(q, p.now, p.asks[q.Flow])
	p.codes[x.Code]++
	changed := !p.m.Same(was)
	if changed && (x.Code != api.OK || decide.Reads(q.Kind)) {
		t.Fatalf("%+v: told %+v, and changed", q, x)
	}
	if changed {
		p.kinds[q.Kind]++
		p.grown(t, was, q)
	}
	if y := was.Do(q, p.now, p.asks[q.Flow]); !reflect.DeepEqual(x, y) || !was.Same(p.m) {
		t.Fatalf("%+v: told %+v, its copy %+v", q, x, y)
	}
	if q.Kind == api.OpUpdate && x.Code == api.ErrWaits {
		p.asks[q.Flow] = append(p.asks[q.Flow], api.Ask{Op: i + 1, Name: q.Request, Value: q.Value})
	}
	if changed && q.Request != "" {
		if y := was.Do(q, p.now+5, nil); !reflect.DeepEqual(x, y) || !was.Same(p.m) {
			t.Fatalf("%+v again: told %+v, not %+v", q, y, x)
		}
		q.Name += "x"
		if y := was.Do(q, p.now, nil); y.Code != api.ErrMismatch || !was.Same(p.m) {
			t.Fatalf("another one of the name %s: told %+v", q.Request, y)
		}
	}
}

// grown complains unless the workflow's histories went on from what they were, and all others stay.
func (p *play) grown(t *testing.T, was *Model, q api.Request) {
	t.Helper()
	f, _ := p.m.Flow(q.Flow)
	l := p.seen[q.Flow]
	for i, old := range l {
		h := p.m.History(q.Flow, i+1)
		if branch.Common(h, old) != len(old) || i+1 < len(l) && len(h) != len(old) {
			t.Fatalf("%+v: the run %d's history is another one: %v, %v", q, i+1, old, h)
		}
		l[i] = h
	}
	if f.Runs > len(l) {
		l = append(l, p.m.History(q.Flow, f.Runs))
	}
	if len(l) != f.Runs || p.m.History(q.Flow, f.Runs+1) != nil {
		t.Fatalf("%+v: %d runs, with %d histories", q, f.Runs, len(l))
	}
	for i, h := range l {
		if !fold.Legal(i+1, h) {
			t.Fatalf("%+v: the run %d's history may not be: %v", q, i+1, h)
		}
	}
	p.seen[q.Flow] = l
	others(t, fmt.Sprint(q), p.m, was, q.Flow)
}

// TestWhateverIsDone: of several workflows, one operation behind the other.
func TestWhateverIsDone(t *testing.T) {
	codes, kinds := map[api.Errno]int{}, map[int]int{}
	longest, runs := 0, 0
	for seed := range 30 {
		p := &play{Rand: rand.New(rand.NewSource(int64(27 + seed))), m: New(), chatty: seed%3 == 0, asks: map[string][]api.Ask{}, seen: map[string][][]api.Event{}, codes: codes, kinds: kinds}
		for i := range 800 {
			kind := p.turn()
			if i > 10 && i < 20 {
				kind = api.OpStart
			}
			q := p.request(kind, i)
			p.do(t, q, i)
			if len(p.asks[q.Flow]) > 3 {
				delete(p.asks, q.Flow)
			}
			if p.Intn(8) == 0 {
				p.now++
			}
			if i%25 == 0 {
				stands(t, fmt.Sprint("behind ", i), p.m)
			}
		}
		stands(t, "at the end", p.m)
		for _, name := range p.m.Names() {
			f, _ := p.m.Flow(name)
			longest, runs = max(longest, f.State.Count), max(runs, f.Runs)
		}
	}
	for _, code := range []api.Errno{api.OK, api.ErrArg, api.ErrNone, api.ErrFull, api.ErrStarted, api.ErrClosed, api.ErrMismatch, api.ErrToken, api.ErrUnseen, api.ErrCommand, api.ErrPoint, api.ErrWaits} {
		if codes[code] < 20 {
			t.Error("too little was seen:", code, codes)
		}
	}
	for kind := api.OpStart; kind <= api.OpFire; kind++ {
		if !decide.Reads(kind) && kinds[kind] < 20 {
			t.Error("too little was changed:", kind, kinds)
		}
	}
	if longest < 80 || runs < 6 {
		t.Error("too short:", longest, runs)
	}
}
