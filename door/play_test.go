package door

import (
	"bytes"
	"fmt"
	"math"
	"math/rand"
	"reflect"
	"testing"
	"testing/quick"

	"usher/api"
	"usher/branch"
	"usher/disk"
	"usher/machine"
	"usher/names"
	"usher/rowcode"
	"usher/store"
	"usher/waits"
)

// plain does what the document says of a door, word by word, over a store of its own.
type plain struct {
	s        *store.Store
	machines [api.MaxSessions]api.Machine
	waits    []api.Wait
}

func (p *plain) invoke(session, op int, r api.Request) api.Errno {
	if session < 0 || session > api.MaxSessions-1 {
		return api.ErrSession
	}
	if p.machines[session].Phase != api.PhNone {
		return api.ErrSession
	}
	if p.s.Stopped() {
		return api.ErrDead
	}
	p.machines[session] = machine.New(op, r)
	return api.OK
}

func (p *plain) step(session, now int) (told api.Told) {
	if session < 0 || session > api.MaxSessions-1 || p.machines[session].Phase == api.PhNone {
		return api.Told{Code: api.ErrSession}
	}
	if p.s.Stopped() {
		return api.Told{Code: api.ErrDead}
	}
	m := p.machines[session]
	r := m.Request
	told.Op = m.Op
	var f api.Flow
	var h []api.Event
	row, version := p.s.Get(names.Row(r.Flow))
	if version != 0 {
		f, _ = rowcode.Decode(row)
		h, _ = branch.Read(p.s.Events(names.Branch(r.Flow, f.Runs)))
	}
	was, commit := m.Phase, false
	switch m.Phase {
	case api.PhLoad:
		m = machine.Look(m, f, version != 0, version, h, now, p.s.LSN(), waits.Updates(p.waits, r.Flow, f.Runs))
		if m.Phase == api.PhWait {
			p.waits = waits.Add(p.waits, machine.Waiting(m))
		}
	case api.PhCommit:
		b, e := machine.Batch(m)
		lsn := 0
		if e == api.OK {
			lsn, e = p.s.Commit(b)
		}
		if e == api.ErrDead {
			told.Code = e
			return told
		}
		if e != api.OK {
			lsn = p.s.LSN()
		}
		m, commit = machine.Committed(m, lsn, e), e == api.OK
	case api.PhWait:
		w, _ := waits.Find(p.waits, m.Op)
		m = machine.Wake(m, w, f, version != 0, now, p.s.LSN())
	case api.PhSync:
		if p.s.Durable() < m.LSN && p.s.Sync() == api.ErrDead {
			told.Code = api.ErrDead
			return told
		}
		m = machine.Synced(m, p.s.Durable())
	case api.PhReply:
		told.Done, told.Reply = true, m.Reply
		m = api.Machine{}
	}
	if was != api.PhSync && m.Phase == api.PhSync {
		told.In = true
		told.Entry = api.Entry{Op: m.Op, Now: m.Now, LSN: m.LSN, Asks: m.Asks, Commit: commit}
		run := m.Reply.Run
		if r.Kind == api.OpPoll && m.Reply.Code == api.OK {
			p.waits = waits.Hand(p.waits, r.Flow, run, session, len(m.Reply.Events))
			m.Reply.Queries = waits.Queries(p.waits, r.Flow, run)
		}
		if r.Kind == api.OpComplete && m.Reply.Code == api.OK {
			p.waits = waits.Answer(p.waits, session, r.Answers)
			p.waits = waits.Refuse(p.waits, r.Flow, run, m.Reply.Updates)
		}
		if was == api.PhWait {
			p.waits = waits.Drop(p.waits, m.Op)
		}
	}
	p.machines[session] = m
	return told
}

// play has a door and a plain one, each over a disk of its own, to which the same is done.
type play struct {
	*testing.T
	*rand.Rand
	disks   [2]*disk.Disk
	x       *Door
	plain   plain
	now, op int
	pushes  bool
	steps   map[int]int       // of the operations that are under way, if nothing has stopped since
	sure    int               // the LSN that was told
	codes   map[api.Errno]int // of replies
	seen    map[string]int
}

func newPlay(t *testing.T, r *rand.Rand, codes map[api.Errno]int, seen map[string]int) *play {
	t.Helper()
	p := &play{T: t, Rand: r, codes: codes, seen: seen, pushes: r.Intn(3) == 0}
	for i := range p.disks {
		p.disks[i], _ = disk.New(1 << 20)
	}
	p.open()
	return p
}

// open gives both a new door over what their disks have.
func (p *play) open() {
	p.Helper()
	a, e := store.Open(p.disks[0], 3000)
	b, code := store.Open(p.disks[1], 3000)
	if e != api.OK || code != api.OK || a.LSN() < p.sure {
		p.Fatal("Open:", e, code, p.sure)
	}
	p.x, p.plain, p.steps = New(a), plain{s: b}, map[int]int{}
}

func (p *play) crash() {
	p.Helper()
	keeps := []int{p.Intn(300), p.Intn(300)}
	for _, d := range p.disks {
		d.Crash(keeps)
	}
	p.open()
}

// agree complains unless both have the same, of the sessions that are told.
func (p *play) agree(sessions ...int) {
	p.Helper()
	for _, session := range sessions {
		m, has := p.x.Machine(session)
		var want api.Machine
		if session >= 0 && session < api.MaxSessions {
			want = p.plain.machines[session]
		}
		if has != (want.Phase != api.PhNone) || !reflect.DeepEqual(m, want) {
			p.Fatalf("session %d:\n%+v, not\n%+v", session, m, want)
		}
	}
	if l := p.x.Waits(); len(l) != len(p.plain.waits) || len(l) > 0 && !reflect.DeepEqual(l, p.plain.waits) {
		p.Fatalf("waits:\n%+v, not\n%+v", l, p.plain.waits)
	}
	a, b := p.x.Store(), p.plain.s
	if a.LSN() != b.LSN() || a.Durable() != b.Durable() || p.x.Stopped() != b.Stopped() || p.disks[0].Used() != p.disks[1].Used() {
		p.Fatal("the stores part:", a.LSN(), b.LSN(), a.Durable(), b.Durable(), p.x.Stopped(), b.Stopped())
	}
}

// step steps a session of both.
func (p *play) step(session int) {
	p.Helper()
	was, _ := p.x.Machine(session)
	got, want := p.x.Step(session, p.now), p.plain.step(session, p.now)
	if !reflect.DeepEqual(got, want) {
		p.Fatalf("told of session %d:\n%+v, not\n%+v", session, got, want)
	}
	if got.Code != api.OK {
		p.seen[fmt.Sprint("error ", got.Code, " in ", was.Phase)]++
		return
	}
	if m, _ := p.x.Machine(session); m.Phase == api.PhWait {
		p.steps[session] = math.MinInt
	}
	p.steps[session]++
	if got.In {
		p.seen[fmt.Sprint("in from ", was.Phase)]++
	}
	if !got.Done {
		if p.steps[session] >= machine.Most() {
			p.Fatalf("%d steps, and no reply: %+v", p.steps[session], was)
		}
		return
	}
	p.codes[got.Reply.Code]++
	if len(got.Reply.Queries) > 0 {
		p.seen["queries handed out"]++
	}
	if p.steps[session] == machine.Most() {
		p.seen["most steps"]++
	}
	if p.x.Store().Durable() < was.LSN {
		p.Fatalf("told what is not sure: %+v", was)
	}
	p.sure = max(p.sure, was.LSN)
}

// turns does so many things to both.
func (p *play) turns(n, sessions int) {
	p.Helper()
	for i := range n {
		p.agree(p.turn(sessions))
		if i%20 == 0 {
			p.agree(-1, 0, 1, 2, 3, 4, 5, 6, 7, 8)
		}
	}
	if !bytes.Equal(p.x.Store().Image(), p.plain.s.Image()) {
		p.Fatal("the stores part")
	}
}

// turn does any one thing to both, more often than not to the session that it tells.
func (p *play) turn(sessions int) int {
	p.Helper()
	session := p.Intn(sessions)
	if p.Intn(2) == 0 {
		session = 0 // it gets in the others' way
	}
	_, busy := p.x.Machine(session)
	switch n := p.Intn(400); {
	case n < 40:
		p.now += p.Intn(3)
	case n == 40:
		p.seen[fmt.Sprint("checkpoint ", p.x.Checkpoint())]++
		p.plain.s.Checkpoint()
	case n == 41 || p.x.Stopped() && n < 100:
		p.crash()
	case n == 42 && p.Intn(4) == 0:
		fuse := p.Intn(9)
		for _, d := range p.disks {
			d.Fuse(fuse)
		}
	case n == 43:
		room := p.disks[0].Used() + p.Intn(2000)
		for _, d := range p.disks {
			d.Room(room)
		}
	case n < 46:
		for _, d := range p.disks {
			d.Room(1 << 20)
		}
	case n == 46:
		p.step(p.Intn(12) - 2)
	case busy:
		p.step(session)
	default:
		p.invoke(session)
	}
	return session
}

// invoke gives a session of both the next operation, sometimes one that has a number already.
func (p *play) invoke(session int) {
	p.Helper()
	p.op++
	if p.Intn(50) == 0 {
		p.op -= min(p.op, 3)
	}
	r := p.request(session)
	got, want := p.x.Invoke(session, p.op, r), p.plain.invoke(session, p.op, r)
	if got != want {
		p.Fatalf("Invoke(%d): %d, not %d", session, got, want)
	}
	p.steps[session] = 0
}

// request gives any request of few workflows, so that operations get in each other's way.
func (p *play) request(session int) api.Request {
	kinds := []int{api.OpPoll, api.OpComplete, api.OpPoll, api.OpComplete, api.OpQuery, api.OpUpdate, api.OpSignalStart, api.OpFire, p.Intn(15)}
	kind := kinds[p.Intn(len(kinds))]
	if kind == api.OpTerminate && p.Intn(3) > 0 {
		kind = api.OpDescribe
	}
	if session == 0 && p.pushes && p.op > 1 { // these always commit, if there is room
		kind = []int{api.OpPoll, api.OpFail}[p.op%2]
	}
	if p.op == 1 {
		kind = api.OpStart
	}
	flow := string(rune('a' + p.Intn(5)/4))
	row, _ := p.x.Store().Get(names.Row(flow))
	f, _ := rowcode.Decode(row)
	r := api.Request{Kind: kind, Flow: flow, Request: fmt.Sprint("r", p.Intn(80))}
	switch kind {
	case api.OpStart, api.OpSignalStart, api.OpSignal:
		r.Name, r.Value = "n", listOf("v")
	case api.OpQuery:
		r = query(flow, p.Intn(30))
	case api.OpUpdate:
		r = update(flow, string(rune('u'+p.Intn(4))), 1+p.Intn(2), p.Intn(30))
	case api.OpReset:
		r.Num = 1 + p.Intn(9)
	case api.OpPoll:
		r.Request, r.Num = "", 1+p.Intn(20)
	case api.OpComplete, api.OpFail:
		r.Request, r.Run, r.Num = "", max(1, f.Runs), f.State.Task.Event
		if kind == api.OpComplete {
			r.Answers = p.answers(session)
			if r.Num > 0 {
				r.Commands = p.commands(f)
			}
		}
	case api.OpDescribe, api.OpFire:
		r.Request = ""
	}
	return r
}

func (p *play) answers(session int) []api.Answer {
	var out []api.Answer
	for _, w := range p.plain.waits {
		if w.Query && (w.Handed == session+1 || p.Intn(9) == 0) && len(out) < api.MaxAnswers && p.Intn(3) > 0 {
			out = append(out, api.Answer{Op: w.Op, Value: listOf(fmt.Sprint(p.Intn(9)))})
		}
	}
	return out
}

// commands gives some that take up the updates that there are, more often than not.
func (p *play) commands(f api.Flow) []api.Command {
	var out []api.Command
	for _, a := range waits.Updates(p.plain.waits, f.Name, f.Runs) {
		switch p.Intn(5) {
		case 0, 1:
			out = append(out, api.Command{Kind: api.CmAccept, Name: a.Name})
		case 2:
			out = append(out, api.Command{Kind: api.CmReject, Name: a.Name, Value: listOf("no")})
		}
	}
	for _, u := range f.State.Updates {
		if u.Stage == 1 && p.Intn(2) == 0 {
			out = append(out, api.Command{Kind: api.CmOutcome, Name: u.Name, Value: listOf("out")})
		}
	}
	if p.Intn(15) == 0 {
		out = append(out, api.Command{Kind: api.CmComplete})
	}
	return out
}

// TestPlays: many sessions' operations in any order of their steps, with crashes, fuses and rooms, held against the document word by word.
func TestPlays(t *testing.T) {
	r := rand.New(rand.NewSource(33))
	codes, seen := map[api.Errno]int{}, map[string]int{}
	for range 150 {
		newPlay(t, r, codes, seen).turns(400, 5)
	}
	for _, code := range []api.Errno{api.OK, api.ErrArg, api.ErrNone, api.ErrFull, api.ErrBusy, api.ErrStarted, api.ErrClosed, api.ErrMismatch, api.ErrToken, api.ErrCommand, api.ErrLate, api.ErrReject} {
		if codes[code] < 3 {
			t.Error("too little was seen:", code, codes)
		}
	}
	for _, what := range []string{"error 8 in 1", "error 8 in 2", "error 8 in 3", "error 8 in 4", "error 8 in 5", "error 23 in 0", "in from 1", "in from 2", "in from 3", "queries handed out", "most steps", "checkpoint 0"} {
		if seen[what] < 3 {
			t.Error("too little was seen:", what, seen)
		}
	}
}

// TestAlone: with one session alone nobody is busy, and each step goes on.
func TestAlone(t *testing.T) {
	r := rand.New(rand.NewSource(331))
	codes, seen := map[api.Errno]int{}, map[string]int{}
	for range 60 {
		newPlay(t, r, codes, seen).turns(300, 1)
	}
	if codes[api.ErrBusy] != 0 || codes[api.OK] < 400 || seen["in from 2"] < 200 {
		t.Error("too little was seen:", codes, seen)
	}
}

// script is what TestWhatIsToldStandsFast does: steps of three sessions, one behind the other.
func (v *server) script(told func(m api.Machine)) {
	ops := [][]api.Request{
		{start("a", "x"), signal("a", "s1"), describe("a"), signal("a", "s4")},
		{signal("a", "s2"), poll("a"), {Kind: api.OpFail, Flow: "a", Run: 1, Num: 3, Name: "why"}},
		{start("b", "x"), signal("a", "s3"), terminate("b", "end"), describe("b")},
	}
	for range 100 {
		for session := range ops {
			m, busy := v.Machine(session)
			if !busy && len(ops[session]) > 0 {
				v.op++
				v.Invoke(session, v.op, ops[session][0])
				ops[session] = ops[session][1:]
			}
			if v.Step(session, 0).Done {
				told(m)
			}
		}
	}
}

// TestWhatIsToldStandsFast: wherever the disk stops, and whatever is left of it.
func TestWhatIsToldStandsFast(t *testing.T) {
	dead, ends := 0, false
	for fuse := 0; !ends; fuse++ {
		for _, keep := range []int{0, 1, 100, 1000, math.MaxInt} {
			v := up(t)
			images := [][]byte{v.Store().Image()}
			v.disk.Fuse(fuse)
			sure, count := 0, 0
			v.script(func(m api.Machine) {
				count++
				sure = max(sure, m.LSN)
				if v.Store().Durable() < m.LSN {
					t.Fatalf("told what is not sure: %+v", m)
				}
			})
			for range v.Store().LSN() {
				images = append(images, nil)
			}
			images[v.Store().LSN()] = v.Store().Image()
			if ends = !v.Stopped(); !ends {
				dead++
			} else if count != 11 {
				t.Fatal("so many were told:", count)
			}
			v.disk.Crash([]int{keep})
			v.open()
			if lsn := v.Store().LSN(); lsn < sure || lsn >= len(images) || images[lsn] != nil && !bytes.Equal(v.Store().Image(), images[lsn]) {
				t.Fatalf("fuse %d, keep %d: %d records, %d were told", fuse, keep, lsn, sure)
			}
		}
	}
	if dead < 50 {
		t.Error("so often the disk stopped:", dead)
	}
}

// anything gives a T of any fields.
func anything[T any](r *rand.Rand) T {
	var x T
	v, _ := quick.Value(reflect.TypeOf(x), r)
	return v.Interface().(T)
}

// TestAnythingAtAll: whatever is handed in, each call ends, and the same calls tell the same.
func TestAnythingAtAll(t *testing.T) {
	r := rand.New(rand.NewSource(332))
	for range 300 {
		a, b := up(t), up(t)
		for range 20 {
			q, session, op, now := anything[api.Request](r), r.Intn(12)-2, r.Int()-r.Int(), r.Int()-r.Int()
			if r.Intn(2) == 0 {
				q.Kind, q.Flow = r.Intn(15), "a"
			}
			if r.Intn(3) == 0 {
				q = start("a", fmt.Sprint("r", op))
			}
			if a.Invoke(session, op, q) != b.Invoke(session, op, q) {
				t.Fatal("Invoke")
			}
			for range 3 {
				same(t, "Step", a.Step(session, now), b.Step(session, now))
			}
		}
		same(t, "what they hold", a.held(), b.held())
	}
}
