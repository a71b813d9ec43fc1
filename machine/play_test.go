package machine

import (
	"fmt"
	"math/rand"
	"reflect"
	"testing"
	"testing/quick"

	"usher/api"
	"usher/branch"
	"usher/limits"
	"usher/model"
	"usher/names"
	"usher/reqcode"
	"usher/rowcode"
	"usher/rows"
)

// session is an operation under way, and what it went through.
type session struct {
	m          api.Machine
	steps, met int
	sure       bool // it was in PhSync, so that its reply stays
	reply      api.Reply
	waited     bool
}

// play is a server without a disk, which steps operations in any order, and a model that does each one at once, as it has its effect.
type play struct {
	*rand.Rand
	rows         api.Rows
	lsn, durable int
	now, op      int
	sessions     map[int]*session
	m            *model.Model
	codes        map[api.Errno]int
	most         int
}

func (p *play) find(t *testing.T, flow string) (w found, version int) {
	t.Helper()
	row, there := rows.Get(p.rows, names.Row(flow))
	if !there {
		return found{}, 0
	}
	f, e := rowcode.Decode(row.Bytes)
	l, ok := rows.Events(p.rows, names.Branch(flow, f.Runs))
	h, code := branch.Read(l)
	if e != api.OK || !ok || code != api.OK {
		t.Fatal(e, ok, code)
	}
	return found{f, true, h}, row.Version
}

// request gives any request of few workflows, so that operations get in each other's way.
func (p *play) request(t *testing.T) api.Request {
	t.Helper()
	kinds := []int{api.OpPoll, api.OpComplete, api.OpSignal, api.OpSignalStart, api.OpUpdate, api.OpFire, 1 + p.Intn(14)}
	kind := kinds[p.Intn(len(kinds))]
	if kind == api.OpTerminate && p.Intn(4) > 0 {
		kind = api.OpDescribe
	}
	r := api.Request{Kind: kind, Flow: string(rune('a' + p.Intn(2)))}
	w, _ := p.find(t, r.Flow)
	name := fmt.Sprint("r", p.Intn(60))
	switch kind {
	case api.OpStart, api.OpSignalStart:
		r = start(name)
		r.Kind = kind
	case api.OpSignal:
		r = signal(name)
	case api.OpQuery:
		r = query(p.Intn(9))
	case api.OpUpdate:
		r = update("u"+name, 1+p.Intn(2), p.Intn(9))
	case api.OpCancel, api.OpTerminate:
		r.Request = name
	case api.OpReset:
		r.Request, r.Num = name, 1+p.Intn(9)
		if l := branch.Find(w.h, api.EvDone); len(l) > 0 {
			r.Num = l[p.Intn(len(l))]
		}
	case api.OpPoll:
		r.Num = 1 + p.Intn(9)
	case api.OpComplete, api.OpFail:
		r.Run, r.Num = max(1, w.f.Runs), max(1, w.f.State.Task.Event)
		if kind == api.OpComplete && p.Intn(2) == 0 {
			r.Commands = []api.Command{{Kind: api.CmTimer, Name: name, Delay: p.Intn(5)}}
		}
	}
	return r
}

// step steps a session as layer 33 does.
func (p *play) step(t *testing.T, s *session) {
	t.Helper()
	was := s.m
	s.steps++
	w, version := p.find(t, s.m.Request.Flow)
	switch s.m.Phase {
	case api.PhLoad:
		s.m = Look(s.m, w.f, w.there, version, w.h, p.now, p.lsn, nil)
		s.waited = s.waited || s.m.Phase == api.PhWait
		if s.m.Phase == api.PhSync { // it had its effect, or none, here
			p.effect(t, s, false)
		}
	case api.PhCommit:
		b, e := Batch(s.m)
		if e != api.OK {
			t.Fatalf("%+v has no batch: %d", s.m, e)
		}
		next, e := rows.Apply(p.rows, b)
		if e == api.OK {
			p.rows, p.lsn = next, p.lsn+1
		}
		s.m = Committed(s.m, p.lsn, e)
		switch {
		case e == api.OK:
			p.effect(t, s, true)
		case e != api.ErrVersion:
			t.Fatalf("%+v: %d", was, e)
		default:
			s.met++
		}
	case api.PhWait:
		s.m = Wake(s.m, Waiting(s.m), w.f, w.there, p.now, p.lsn)
	case api.PhSync:
		if p.durable < s.m.LSN {
			p.durable = p.lsn
		}
		s.m = Synced(s.m, p.durable)
		if s.m.Phase != api.PhReply {
			t.Fatalf("not sure: %+v", s.m)
		}
	}
	p.check(t, s, was)
}

// check complains of what may not become of an operation (P31.8).
func (p *play) check(t *testing.T, s *session, was api.Machine) {
	t.Helper()
	if s.met > api.Retries+1 || s.m.Tries != s.met || !s.waited && s.steps >= Most() && s.m.Phase != api.PhReply {
		t.Fatalf("%d conflicts, %d steps: %+v", s.met, s.steps, s.m)
	}
	if s.sure && !reflect.DeepEqual(s.reply, s.m.Reply) {
		t.Fatalf("the reply has changed: %+v", s.m)
	}
	if s.m.Phase == api.PhSync {
		s.sure, s.reply = true, s.m.Reply
	}
	if !reflect.DeepEqual(s.m.Request, was.Request) || s.m.Op != was.Op {
		t.Fatalf("another operation: %+v, %+v", s.m, was)
	}
}

// effect does an operation with the model, too, and complains if that tells another thing.
func (p *play) effect(t *testing.T, s *session, commits bool) {
	t.Helper()
	if s.m.Reply.Code == api.ErrBusy || limits.Check(s.m.Request) != api.OK { // no model tells that
		return
	}
	m := p.m
	if !commits {
		m = p.m.Copy()
	}
	x := m.Do(s.m.Request, s.m.Now, s.m.Asks)
	if !reqcode.SameReply(x, s.m.Reply) || commits && x.Code != api.OK || !m.Same(p.m) {
		t.Fatalf("%+v: told %+v, the model %+v", s.m.Request, s.m.Reply, x)
	}
}

// stands complains unless the rows have what the model has.
func (p *play) stands(t *testing.T) {
	t.Helper()
	for _, name := range p.m.Names() {
		f, _ := p.m.Flow(name)
		w, _ := p.find(t, name)
		if !w.there || !rowcode.Same(f, w.f) {
			t.Fatalf("%s is %+v, the model's %+v", name, w.f, f)
		}
		for run := 1; run <= f.Runs; run++ {
			l, _ := rows.Events(p.rows, names.Branch(name, run))
			if h, e := branch.Read(l); e != api.OK || !branch.Same(h, p.m.History(name, run)) {
				t.Fatalf("%s: the run %d's history is %+v", name, run, h)
			}
		}
	}
	if len(p.rows.Rows) != len(p.m.Names()) {
		t.Fatalf("%d rows", len(p.rows.Rows))
	}
}

// turn steps any session, or gives it an operation; one that is stepped often gets in the others' way.
func (p *play) turn(t *testing.T) {
	t.Helper()
	i := p.Intn(6)
	if p.Intn(2) == 0 {
		i = 0
	}
	s := p.sessions[i]
	if s == nil {
		p.op++
		p.sessions[i] = &session{m: New(p.op, p.request(t))}
		return
	}
	if s.m.Phase == api.PhReply {
		p.codes[s.m.Reply.Code]++
		if !s.waited {
			p.most = max(p.most, s.steps+1)
		}
		delete(p.sessions, i)
		return
	}
	p.step(t, s)
	p.now += p.Intn(2)
}

// TestPlays: many sessions' operations, in any order of their steps.
func TestPlays(t *testing.T) {
	r := rand.New(rand.NewSource(31))
	codes, most := map[api.Errno]int{}, 0
	for range 120 {
		p := &play{Rand: r, sessions: map[int]*session{}, m: model.New(), codes: codes, most: most}
		for range 800 {
			p.turn(t)
		}
		p.stands(t)
		most = p.most
	}
	for _, code := range []api.Errno{api.OK, api.ErrArg, api.ErrNone, api.ErrBusy, api.ErrStarted, api.ErrClosed, api.ErrMismatch, api.ErrToken, api.ErrLate, api.ErrPoint} {
		if codes[code] < 5 {
			t.Error("too little was seen:", code, codes)
		}
	}
	if most != Most() {
		t.Error("the most steps were", most)
	}
}

// anything gives a T of any fields.
func anything[T any](r *rand.Rand) T {
	var x T
	v, _ := quick.Value(reflect.TypeOf(x), r)
	return v.Interface().(T)
}

// TestAnythingAtAll: whatever is handed in, each call ends, and answers the same again.
func TestAnythingAtAll(t *testing.T) {
	r := rand.New(rand.NewSource(311))
	for range 3000 {
		g := given{anything[api.Machine](r), found{f: anything[api.Flow](r), there: r.Intn(2) == 0, h: anything[[]api.Event](r)}, anything[api.Wait](r), r.Int(), anything[[]api.Ask](r)}
		if r.Intn(2) == 0 {
			l := requests(1 + r.Intn(13))
			g.m.Request = l[r.Intn(len(l))]
		}
		if r.Intn(2) == 0 {
			g.f = over(t)
		}
		g.m.Phase = phases[r.Intn(len(phases))]
		for name, call := range calls {
			if a, b := call(&g), call(&g); !reflect.DeepEqual(a, b) {
				t.Fatalf("%s of %+v: %+v, then %+v", name, g, a, b)
			}
		}
	}
}
