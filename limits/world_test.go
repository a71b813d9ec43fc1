package limits

import (
	"fmt"
	"math"
	"math/rand"
	"strings"
	"testing"

	"usher/api"
	"usher/branch"
	"usher/decide"
	"usher/fold"
	"usher/model"
	"usher/rowcode"
	"usher/state"
)

// play is a model, with the updates that wait.
type play struct {
	*rand.Rand
	m    *model.Model
	now  int
	asks []api.Ask
}

// one gives one of these.
func one[T any](r *rand.Rand, l ...T) T {
	return l[r.Intn(len(l))]
}

func (p *play) name(i int) string {
	if p.Intn(15) == 0 {
		return one(p.Rand, fmt.Sprint("r", p.Intn(i+1)), strings.Repeat("r", 24))
	}
	return fmt.Sprint("r", i)
}

func (p *play) value() api.Value {
	return one(p.Rand, goodValues()...)
}

func (p *play) policy() api.Policy {
	coef := one(p.Rand, 0, 1<<62, 1<<63, math.Float64bits(math.Inf(1)), math.Float64bits(-3))
	return api.Policy{First: one(p.Rand, 0, 1, delay), Coef: coef, Most: one(p.Rand, 0, 7, delay)}
}

func (p *play) commands() []api.Command {
	var out []api.Command
	for range p.Intn(4) {
		name := string(rune('a' + p.Intn(6)))
		out = append(out, one(p.Rand,
			api.Command{Kind: api.CmTimer, Name: name, Delay: one(p.Rand, 0, 1, 5, delay)},
			api.Command{Kind: api.CmTimerOff, Name: name},
			api.Command{Kind: api.CmMarker, Value: p.value()},
			api.Command{Kind: api.CmAccept, Name: name},
			api.Command{Kind: api.CmReject, Name: name, Value: p.value()},
			api.Command{Kind: api.CmOutcome, Name: name, Value: p.value()}))
	}
	if p.Intn(12) == 0 {
		out = append(out, one(p.Rand, api.Command{Kind: api.CmComplete, Value: p.value()}, api.Command{Kind: api.CmFail, Name: strings.Repeat("y", 200)}, api.Command{Kind: api.CmCancel}))
	}
	return out
}

// request gives one of that kind, at the edges of what may be asked, and now and then beyond.
func (p *play) request(kind, i int) api.Request {
	r := good(max(1, min(kind, api.OpFire)))
	r.Kind = kind
	f, _ := p.m.Flow("f")
	has := Fields(kind)
	if has&2 != 0 {
		r.Request = p.name(i)
	}
	if has&8 != 0 {
		r.Value = p.value()
	}
	if has&16 != 0 {
		r.Run = max(1, f.Runs)
	}
	if has&128 != 0 {
		r.Policy = p.policy()
	}
	switch kind {
	case api.OpStart, api.OpSignalStart:
		r.Num = one(p.Rand, 0, 0, 1, 50, delay)
	case api.OpUpdate:
		r.Request, r.Value, r.Num = string(rune('a'+p.Intn(6))), api.Value{Kind: api.VInt, Int: p.Intn(2)}, 1+p.Intn(2)
	case api.OpReset:
		r.Num = one(p.Rand, append(branch.Find(p.m.History("f", f.Runs), api.EvDone), 1, 120)...)
	case api.OpPoll:
		r.Num = one(p.Rand, 1, 9, delay)
	case api.OpComplete, api.OpFail:
		r.Num = max(1, f.State.Task.Event)
		if kind == api.OpComplete {
			r.Commands = p.commands()
		} else {
			r.Name = strings.Repeat("y", 200)
		}
	}
	if p.Intn(12) == 0 {
		p.bend(&r)
	}
	return r
}

// bend makes of a request one that may not be asked, more often than not.
func (p *play) bend(r *api.Request) {
	one(p.Rand,
		func() { r.Kind = p.Intn(20) - 3 },
		func() { r.Num = one(p.Rand, -1, 0, 121, delay+1, math.MaxInt, math.MinInt) },
		func() { r.Run = one(p.Rand, -1, 0, 1, 11) },
		func() { r.Name = one(p.Rand, "", ".", "n") },
		func() { r.Value = one(p.Rand, badValues()...) },
		func() { r.Policy.Most = one(p.Rand, -1, 1, delay+1) },
		func() { r.Commands = append(r.Commands, api.Command{Kind: p.Intn(12)}) },
	)()
}

// TestWhateverIsTaken (P28.3): what Check takes is not answered ErrArg, of a workflow that may be, with its history.
func TestWhateverIsTaken(t *testing.T) {
	r := rand.New(rand.NewSource(28))
	codes, refused := map[api.Errno]int{}, 0
	grown := map[int]int{}
	for range 150 {
		p := &play{Rand: r, m: model.New(), now: one(r, 0, -5, 1<<40-200, 1<<40)}
		for i := range 250 {
			kind := one(r, 1+r.Intn(13), 1+r.Intn(13), api.OpPoll, api.OpComplete, api.OpComplete, api.OpUpdate, api.OpPoll, api.OpSignal, api.OpFail)
			if kind == api.OpTerminate && r.Intn(4) > 0 {
				kind = api.OpFire
			}
			if i == 3 {
				kind = api.OpStart
			}
			q := p.request(kind, i)
			if Check(q) != api.OK {
				refused++
				continue
			}
			x := p.do(t, q)
			codes[x.Code]++
			if x.Code == api.OK {
				grown[q.Kind]++
			}
			p.now += r.Intn(2)
			if r.Intn(40) == 0 {
				p.now += one(r, 30, delay)
			}
		}
	}
	for _, code := range []api.Errno{api.OK, api.ErrNone, api.ErrFull, api.ErrStarted, api.ErrClosed, api.ErrMismatch, api.ErrToken, api.ErrUnseen, api.ErrCommand, api.ErrPoint, api.ErrWaits} {
		if codes[code] < 20 {
			t.Error("too little was seen:", code, codes)
		}
	}
	for _, kind := range kinds() {
		if kind != api.OpQuery && grown[kind] < 20 {
			t.Error("too little was done:", kind, grown)
		}
	}
	if refused < 100 {
		t.Error("too little was refused:", refused)
	}
}

// do does a request that Check takes, of a workflow that may be.
func (p *play) do(t *testing.T, q api.Request) api.Reply {
	t.Helper()
	f, there := p.m.Flow("f")
	h := p.m.History("f", f.Runs)
	s, _, e := fold.Build(f.Runs, h)
	if there && (!rowcode.Can(f) || e != api.OK || !state.Same(s, f.State)) {
		t.Fatalf("no such workflow may be: %+v", f)
	}
	_, told := decide.Do(f, there, h, q, p.now, p.asks)
	if told.Code == api.ErrArg {
		t.Fatalf("%+v at %d, of %+v: ErrArg", q, p.now, f)
	}
	x := p.m.Do(q, p.now, p.asks)
	if q.Kind == api.OpUpdate && x.Code == api.ErrWaits {
		p.asks = append(p.asks, api.Ask{Op: 1, Name: q.Request, Value: q.Value})
	}
	if len(p.asks) > 5 {
		p.asks = p.asks[1:]
	}
	return x
}
