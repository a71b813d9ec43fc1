package world

import (
	"fmt"
	"math"
	"math/rand"
	"slices"

	"usher/api"
	"usher/branch"
	"usher/names"
	"usher/reqcode"
	"usher/rowcode"
	"usher/waits"
)

// handed is how a worker was told of a query: in which session, and how many events it had seen then.
type handed struct {
	session, events int
}

// people are clients and workers. What a worker answers to a query is how many events it had seen.
type people struct {
	*rand.Rand
	sessions int
	queries  map[int]handed // by operations
	calm     bool           // nothing happens to the disk
	pushes   bool           // session 0 gets in the others' way
	ops      int            // so many of session 0
}

func newPeople(r *rand.Rand, sessions int) *people {
	return &people{Rand: r, sessions: sessions, queries: map[int]handed{}, pushes: r.Intn(3) == 0}
}

// hear lets a worker know what it was told.
func (p *people) hear(session int, told api.Told) {
	if !told.Done {
		return
	}
	for _, q := range told.Reply.Queries {
		p.queries[q.Op] = handed{session, len(told.Reply.Events)}
	}
}

// step gives the next step of a script.
func (p *people) step(w *World) api.Step {
	n := p.Intn(400)
	switch {
	case n < 40:
		return api.Step{Kind: api.StepTick, N: p.Intn(3) - p.Intn(100)/99}
	case n < 43:
		return api.Step{Kind: api.StepCheckpoint}
	case p.calm:
		return p.session(w)
	case n < 45:
		return api.Step{Kind: api.StepRoom, N: w.disk.Used() + p.Intn(3000)}
	case n < 49:
		return api.Step{Kind: api.StepRoom, N: 1 << 20}
	case n < 55:
		return p.odd()
	case n < 240 && !w.Up():
		return api.Step{Kind: api.StepOpen}
	case n < 58 || n < 150 && w.Up() && w.Door().Stopped():
		return api.Step{Kind: api.StepCrash, Keeps: p.keeps()}
	case n < 60 || n < 260 && !w.Up():
		return api.Step{Kind: api.StepFuse, N: p.Intn(9)}
	}
	return p.session(w)
}

// keeps gives any number of any numbers.
func (p *people) keeps() []int {
	var out []int
	for range p.Intn(4) {
		out = append(out, []int{0, p.Intn(50), p.Intn(3000), math.MaxInt, -1}[p.Intn(5)])
	}
	return out
}

// odd gives a step that comes to little.
func (p *people) odd() api.Step {
	s := api.Step{Kind: p.Intn(11) - 1, Session: p.Intn(12) - 2, N: p.Intn(5) - 1, Bytes: make([]byte, p.Intn(50))}
	if p.Read(s.Bytes); p.Intn(2) == 0 {
		s.Bytes, _ = reqcode.Request(describe("a"))
	}
	if s.Kind == api.StepFuse || s.Kind == api.StepRoom {
		s.N = []int{-1, 1 << 20}[p.Intn(2)]
	}
	return s
}

// session steps some session, or gives it the next operation.
func (p *people) session(w *World) api.Step {
	session := p.Intn(p.sessions)
	if p.Intn(2) == 0 {
		session = 0
	}
	if _, busy := w.Door().Machine(session); busy || !w.Up() && p.Intn(2) == 0 {
		return api.Step{Kind: api.StepStep, Session: session}
	}
	b, _ := reqcode.Request(p.request(w, session))
	return api.Step{Kind: api.StepInvoke, Session: session, Bytes: b}
}

// flow gives a workflow as it stands, and its last run's history.
func flow(w *World, name string) (api.Flow, []api.Event) {
	row, _ := w.Door().Store().Get(names.Row(name))
	f, _ := rowcode.Decode(row)
	h, _ := branch.Read(w.Door().Store().Events(names.Branch(name, f.Runs)))
	return f, h
}

// request gives any request of few workflows, so that operations get in each other's way.
func (p *people) request(w *World, session int) api.Request {
	kinds := []int{api.OpPoll, api.OpComplete, api.OpPoll, api.OpComplete, api.OpQuery, api.OpUpdate, api.OpSignalStart, api.OpFire, 1 + p.Intn(14)}
	kind := kinds[p.Intn(len(kinds))]
	if kind == api.OpTerminate && p.Intn(3) > 0 {
		kind = api.OpDescribe
	}
	r := api.Request{Kind: kind, Flow: string(rune('a' + p.Intn(5)/4))}
	if session == 0 {
		p.ops++
	}
	if session == 0 && p.pushes && p.ops > 5 { // these always commit, if there is room
		r = api.Request{Kind: []int{api.OpPoll, api.OpFail}[p.ops%2], Flow: "a"}
	}
	f, h := flow(w, r.Flow)
	if f.Runs == 0 && p.Intn(4) > 0 {
		r.Kind = api.OpStart
	}
	if answers := p.answers(w, session); len(answers) > 0 && p.Intn(2) == 0 {
		return api.Request{Kind: api.OpComplete, Flow: r.Flow, Run: max(1, f.Runs), Answers: answers}
	}
	name := fmt.Sprint("r", p.Intn(60))
	switch r.Kind {
	case api.OpStart, api.OpSignalStart:
		r.Request, r.Name, r.Value, r.Num = name, "n", listOf("v"), p.Intn(2)*p.Intn(200)
	case api.OpSignal:
		r.Request, r.Name, r.Value = name, "n", listOf("v")
	case api.OpQuery:
		r = query(r.Flow, p.Intn(30))
	case api.OpUpdate:
		r = update(r.Flow, string(rune('u'+p.Intn(4))), 1+p.Intn(2), p.Intn(30))
		if p.Intn(5) == 0 {
			r.Value = listOf("another")
		}
	case api.OpCancel, api.OpTerminate:
		r.Request = name
	case api.OpReset:
		r.Request, r.Num = name, 1+p.Intn(9)
		if l := branch.Find(h, api.EvDone); len(l) > 0 {
			r.Num = l[p.Intn(len(l))]
		}
	case api.OpPoll:
		r.Num = 1 + p.Intn(20)
	case api.OpComplete, api.OpFail:
		r.Run, r.Num = max(1, f.Runs), f.State.Task.Event
		if r.Kind == api.OpComplete {
			r.Answers = p.answers(w, session)
			if r.Num > 0 {
				r.Commands = p.commands(w, f)
			}
		}
	}
	if p.Intn(60) == 0 {
		r.Num = 121
	}
	return r
}

// answers gives those to queries that the session was told of.
func (p *people) answers(w *World, session int) []api.Answer {
	var out []api.Answer
	for _, wait := range w.Door().Waits() {
		x, told := p.queries[wait.Op]
		if told && x.session == session && len(out) < api.MaxAnswers && p.Intn(3) > 0 {
			out = append(out, api.Answer{Op: wait.Op, Value: api.Value{Kind: api.VInt, Int: x.events}})
		}
	}
	return out
}

// commands gives some that take up the updates that there are, more often than not.
func (p *people) commands(w *World, f api.Flow) []api.Command {
	var out []api.Command
	for _, a := range waits.Updates(w.Door().Waits(), f.Name, f.Runs) {
		switch p.Intn(5) {
		case 0, 1:
			out = append(out, api.Command{Kind: api.CmAccept, Name: a.Name})
		case 2:
			out = append(out, api.Command{Kind: api.CmReject, Name: a.Name, Value: listOf("no")})
		}
	}
	for _, u := range f.State.Updates {
		if u.Stage == 1 && p.Intn(2) == 0 {
			out = append(out, api.Command{Kind: api.CmOutcome, Name: u.Name, Value: listOf(fmt.Sprint("out", p.Intn(9)))})
		}
	}
	if p.Intn(3) == 0 {
		out = append(out, api.Command{Kind: api.CmTimer, Name: string(rune('u' + p.Intn(9))), Delay: p.Intn(5)})
	}
	if p.Intn(15) == 0 {
		out = append(out, api.Command{Kind: api.CmComplete})
	}
	if p.Intn(60) == 0 {
		out = slices.Insert(out, 0, api.Command{Kind: api.CmFail, Name: "not the last one"})
	}
	return out
}
