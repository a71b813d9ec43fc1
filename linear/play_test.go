package linear

import (
	"fmt"
	"math/rand"
	"reflect"
	"slices"
	"testing"
	"testing/quick"

	"usher/api"
	"usher/branch"
	"usher/limits"
	"usher/machine"
	"usher/model"
	"usher/names"
	"usher/reqcode"
	"usher/rowcode"
	"usher/rows"
	"usher/waits"
)

// plainReal says of each record and each entry what the document says of it.
func plainReal(l []api.Record, order []api.Entry) bool {
	record := func(op int) (out api.Record, count int) {
		for _, r := range l {
			if r.Op == op {
				out, count = r, count+1
			}
		}
		return out, count
	}
	for i, e := range order {
		r, count := record(e.Op)
		if count != 1 || e.Now < r.From || r.Replied > 0 && e.Now > r.To {
			return false
		}
		for _, other := range order[:i] {
			ahead, _ := record(other.Op)
			if other.Op == e.Op || r.Replied > 0 && r.Replied < ahead.Invoked {
				return false
			}
		}
	}
	for _, r := range l {
		if r.Replied > 0 && !slices.ContainsFunc(order, func(e api.Entry) bool { return e.Op == r.Op }) {
			return false
		}
	}
	return true
}

// plainCheck asks of each entry alone, in the model behind those ahead of it.
func plainCheck(l []api.Record, order []api.Entry) api.Errno {
	if !plainReal(l, order) {
		return api.ErrOrder
	}
	for i, e := range order {
		at := slices.IndexFunc(l, func(r api.Record) bool { return r.Op == e.Op })
		r, m := l[at], plainReplay(l, order[:i])
		x := m.Do(r.Request, e.Now, e.Asks)
		x.Queries = nil
		y := r.Reply
		y.Queries = nil
		refused := limits.Check(r.Request)
		outer := r.Replied > 0 && Outer(r.Request.Kind, r.Reply.Code)
		switch {
		case refused != api.OK && r.Replied > 0 && r.Reply.Code != refused:
			return api.ErrOrder
		case refused == api.OK && r.Replied > 0 && !outer && !reqcode.SameReply(x, y):
			return api.ErrOrder
		case refused == api.OK && e.Commit && !outer && x.Code != api.OK:
			return api.ErrOrder
		}
	}
	return api.OK
}

func plainReplay(l []api.Record, order []api.Entry) *model.Model {
	m := model.New()
	for _, e := range order {
		for _, r := range l {
			outer := r.Replied > 0 && Outer(r.Request.Kind, r.Reply.Code)
			if r.Op == e.Op && e.Commit && !outer && limits.Check(r.Request) == api.OK {
				m.Do(r.Request, e.Now, e.Asks)
			}
		}
	}
	return m
}

// server steps operations in any order, and notes what layer 35 will: records, and the order in which they had their effect.
type server struct {
	*rand.Rand
	rows      api.Rows
	lsn       int
	now, step int
	machines  map[int]api.Machine
	waits     []api.Wait
	records   []api.Record
	order     []api.Entry
}

func (s *server) find(t *testing.T, flow string) (f api.Flow, there bool, version int, h []api.Event) {
	t.Helper()
	row, there := rows.Get(s.rows, names.Row(flow))
	if !there {
		return api.Flow{}, false, 0, nil
	}
	f, e := rowcode.Decode(row.Bytes)
	l, ok := rows.Events(s.rows, names.Branch(flow, f.Runs))
	h, code := branch.Read(l)
	if e != api.OK || !ok || code != api.OK {
		t.Fatal(e, ok, code)
	}
	return f, true, row.Version, h
}

// commands gives some that take up the updates that there are, more often than not.
func (s *server) commands(f api.Flow) []api.Command {
	var out []api.Command
	for _, a := range waits.Updates(s.waits, f.Name, f.Runs) {
		switch s.Intn(5) {
		case 0, 1:
			out = append(out, api.Command{Kind: api.CmAccept, Name: a.Name})
		case 2:
			out = append(out, api.Command{Kind: api.CmReject, Name: a.Name, Value: listOf("no")})
		}
	}
	for _, u := range f.State.Updates {
		if u.Stage == 1 && s.Intn(2) == 0 {
			out = append(out, api.Command{Kind: api.CmOutcome, Name: u.Name, Value: listOf("out")})
		}
	}
	if s.Intn(3) == 0 {
		out = append(out, api.Command{Kind: api.CmTimer, Name: string(rune('u' + s.Intn(9))), Delay: s.Intn(5)})
	}
	if s.Intn(15) == 0 {
		out = append(out, api.Command{Kind: api.CmComplete})
	}
	return out
}

// request gives any request of few workflows.
func (s *server) request(t *testing.T, session int) api.Request {
	t.Helper()
	kinds := []int{api.OpPoll, api.OpComplete, api.OpPoll, api.OpComplete, api.OpQuery, api.OpUpdate, api.OpSignalStart, api.OpFire, 1 + s.Intn(14)}
	kind := kinds[s.Intn(len(kinds))]
	if kind == api.OpTerminate && s.Intn(3) > 0 {
		kind = api.OpDescribe
	}
	r := api.Request{Kind: kind, Flow: string(rune('a' + s.Intn(5)/4))}
	f, _, _, h := s.find(t, r.Flow)
	name := fmt.Sprint("r", s.Intn(80))
	switch kind {
	case api.OpStart, api.OpSignalStart:
		r = start(r.Flow, name)
		r.Kind = kind
	case api.OpSignal:
		r = signal(r.Flow, name)
	case api.OpQuery:
		r = query(r.Flow)
		r.Wait = s.Intn(30)
	case api.OpUpdate:
		r = update(r.Flow, string(rune('u'+s.Intn(4))), 1+s.Intn(2))
		r.Wait = s.Intn(30)
		if s.Intn(3) == 0 {
			r.Value = listOf("another")
		}
	case api.OpCancel, api.OpTerminate:
		r.Request = name
	case api.OpReset:
		r.Request, r.Num = name, 1+s.Intn(9)
		if l := branch.Find(h, api.EvDone); len(l) > 0 {
			r.Num = l[s.Intn(len(l))]
		}
	case api.OpPoll:
		r.Num = 1 + s.Intn(20)
	case api.OpComplete, api.OpFail:
		r.Run, r.Num = max(1, f.Runs), f.State.Task.Event
		if kind == api.OpComplete {
			r.Answers = s.answers(session)
			if r.Num > 0 {
				r.Commands = s.commands(f)
			}
		}
	}
	if s.Intn(40) == 0 {
		r.Num = -1
	}
	return r
}

func (s *server) answers(session int) []api.Answer {
	var out []api.Answer
	for _, w := range s.waits {
		if w.Query && w.Handed == session+1 && len(out) < api.MaxAnswers && s.Intn(3) > 0 {
			out = append(out, api.Answer{Op: w.Op, Value: listOf("answer")})
		}
	}
	return out
}

// invoke gives a session an operation.
func (s *server) invoke(t *testing.T, session int) {
	t.Helper()
	r := s.request(t, session)
	op := len(s.records) + 1
	s.machines[session] = machine.New(op, r)
	s.records = append(s.records, api.Record{Op: op, Session: session, Invoked: s.step, From: s.now, Request: r})
}

// steps steps a session's operation.
func (s *server) steps(t *testing.T, session int) {
	t.Helper()
	m := s.machines[session]
	f, there, version, h := s.find(t, m.Request.Flow)
	was, committed := m.Phase, false
	switch m.Phase {
	case api.PhLoad:
		m = machine.Look(m, f, there, version, h, s.now, s.lsn, waits.Updates(s.waits, m.Request.Flow, f.Runs))
		if m.Phase == api.PhWait {
			s.waits = waits.Add(s.waits, machine.Waiting(m))
		}
	case api.PhCommit:
		b, e := machine.Batch(m)
		if e == api.OK {
			var next api.Rows
			if next, e = rows.Apply(s.rows, b); e == api.OK {
				s.rows, s.lsn, committed = next, s.lsn+1, true
			}
		}
		m = machine.Committed(m, s.lsn, e)
	case api.PhWait:
		w, _ := waits.Find(s.waits, m.Op)
		if m = machine.Wake(m, w, f, there, s.now, s.lsn); m.Phase == api.PhSync {
			s.waits = waits.Drop(s.waits, m.Op)
		}
	case api.PhSync:
		m = machine.Synced(m, s.lsn)
	case api.PhReply:
		r := &s.records[m.Op-1]
		r.Replied, r.To, r.Reply = s.step, s.now, m.Reply
		delete(s.machines, session)
		return
	}
	if m.Phase == api.PhSync && was != api.PhSync {
		m = s.in(m, session, committed)
	}
	s.machines[session] = m
}

// in notes that an operation had its effect, and does what hangs on it.
func (s *server) in(m api.Machine, session int, committed bool) api.Machine {
	s.order = append(s.order, api.Entry{Op: m.Op, Now: m.Now, LSN: m.LSN, Commit: committed, Asks: m.Asks})
	flow, run := m.Request.Flow, m.Reply.Run
	switch {
	case m.Reply.Code != api.OK:
	case m.Request.Kind == api.OpPoll:
		s.waits = waits.Hand(s.waits, flow, run, session, len(m.Reply.Events))
		m.Reply.Queries = waits.Queries(s.waits, flow, run)
	case m.Request.Kind == api.OpComplete:
		s.waits = waits.Answer(s.waits, session, m.Request.Answers)
		s.waits = waits.Refuse(s.waits, flow, run, m.Reply.Updates)
	}
	return m
}

// played gives a server behind so many steps.
func played(t *testing.T, r *rand.Rand, steps int) *server {
	t.Helper()
	s := &server{Rand: r, machines: map[int]api.Machine{}}
	for range steps {
		s.step++
		session := s.Intn(6)
		if s.Intn(2) == 0 {
			session = 0 // it gets in the others' way
		}
		switch _, busy := s.machines[session]; {
		case s.Intn(8) == 0:
			s.now += s.Intn(3)
		case busy:
			s.steps(t, session)
		default:
			s.invoke(t, session)
		}
	}
	return s
}

// stands complains unless the rows have what the model has.
func (s *server) stands(t *testing.T, m *model.Model) {
	t.Helper()
	if len(m.Names()) != len(s.rows.Rows) {
		t.Fatalf("%d workflows of %d", len(m.Names()), len(s.rows.Rows))
	}
	for _, name := range m.Names() {
		f, there, _, h := s.find(t, name)
		g, _ := m.Flow(name)
		if !there || !rowcode.Same(f, g) || !branch.Same(h, m.History(name, g.Runs)) {
			t.Fatalf("%s is %+v, the model's %+v", name, f, g)
		}
	}
}

// TestWhateverIsPlayed: the order in which operations had their effect explains what was told, and is what the rows come to (P1, as far as there is no crash).
func TestWhateverIsPlayed(t *testing.T) {
	r := rand.New(rand.NewSource(32))
	codes, outer, commits := map[int]map[api.Errno]int{}, 0, 0
	for range 60 {
		s := played(t, r, 1000)
		if !Real(s.records, s.order) {
			t.Fatal("not real")
		}
		if e := Check(s.records, s.order); e != api.OK {
			t.Fatal("not explained:", e)
		}
		s.stands(t, Replay(s.records, s.order))
		for _, x := range s.records {
			if x.Replied > 0 {
				if codes[x.Request.Kind] == nil {
					codes[x.Request.Kind] = map[api.Errno]int{}
				}
				codes[x.Request.Kind][x.Reply.Code]++
				if Outer(x.Request.Kind, x.Reply.Code) {
					outer++
				}
			}
		}
		for _, e := range s.order {
			if e.Commit {
				commits++
			}
		}
	}
	for kind, l := range map[int][]api.Errno{
		api.OpQuery:    {api.OK, api.ErrNone, api.ErrClosed, api.ErrLate, api.ErrArg},
		api.OpUpdate:   {api.OK, api.ErrNone, api.ErrClosed, api.ErrLate, api.ErrArg, api.ErrReject, api.ErrMismatch},
		api.OpPoll:     {api.OK, api.ErrArg},
		api.OpComplete: {api.OK, api.ErrToken, api.ErrCommand},
		api.OpDescribe: {api.OK},
		api.OpReset:    {api.OK},
	} {
		for _, code := range l {
			if codes[kind][code] < 3 {
				t.Error("too little was seen:", kind, code, codes)
			}
		}
	}
	if outer < 100 || commits < 500 {
		t.Error("too little was seen:", outer, commits)
	}
}

// bent gives the records and the order, changed in one place or two.
func bent(r *rand.Rand, l []api.Record, order []api.Entry) ([]api.Record, []api.Entry) {
	l, order = slices.Clone(l), slices.Clone(order)
	for range 1 + r.Intn(2) {
		i, j := r.Intn(len(order)), r.Intn(len(order))
		x := &l[r.Intn(len(l))]
		switch r.Intn(14) {
		case 0:
			j = min(i+1, len(order)-1)
			order[i], order[j] = order[j], order[i]
		case 1:
			order[i], order[j] = order[j], order[i]
		case 2:
			order = slices.Delete(order, i, i+1)
		case 3:
			order[i].Commit = !order[i].Commit
		case 4:
			order[i].Now += r.Intn(3) - 1
		case 5:
			order[i].Op = order[j].Op
		case 6:
			x.Reply.Code = api.Errno(r.Intn(28))
		case 7:
			x.Reply.Num++
		case 8:
			x.Reply.Queries = append(slices.Clone(x.Reply.Queries), api.Ask{})
		case 9:
			x.Replied = r.Intn(2) * (x.Invoked + r.Intn(9))
		case 10:
			x.Request.Num = r.Intn(5) - 1
		case 11:
			l = append(l, *x)
		case 12:
			order[i].Asks = nil
		case 13:
			x.From++
		}
		if len(order) == 0 {
			return l, order
		}
	}
	return l, order
}

// TestWhateverIsBent: what an order that explains all is bent to, held against what the document says.
func TestWhateverIsBent(t *testing.T) {
	r := rand.New(rand.NewSource(321))
	seen := map[string]int{}
	for range 150 {
		s := played(t, r, 60+r.Intn(200))
		if len(s.order) == 0 {
			continue
		}
		for range 20 {
			l, order := bent(r, s.records, s.order)
			isReal, e := Real(l, order), Check(l, order)
			seen[fmt.Sprint(isReal, e)]++
			if isReal != plainReal(l, order) {
				t.Fatalf("Real says %v of\n%+v\n%+v", isReal, l, order)
			}
			if e != plainCheck(l, order) {
				t.Fatalf("Check says %d of\n%+v\n%+v", e, l, order)
			}
			if isReal && !Replay(l, order).Same(plainReplay(l, order)) {
				t.Fatalf("Replay of\n%+v\n%+v", l, order)
			}
		}
	}
	if len(seen) != 3 || seen["true 0"] < 300 || seen["true 26"] < 300 || seen["false 26"] < 300 {
		t.Error("too little was seen:", seen)
	}
}

// TestRealOfAnything: few records and entries of few numbers.
func TestRealOfAnything(t *testing.T) {
	r := rand.New(rand.NewSource(322))
	yes := 0
	for range 100000 {
		var l []api.Record
		var order []api.Entry
		for i := range r.Intn(4) {
			op := i
			if r.Intn(8) == 0 {
				op = r.Intn(4)
			}
			l = append(l, api.Record{Op: op, Invoked: r.Intn(5), Replied: r.Intn(7) - 1, From: r.Intn(3), To: 2 + r.Intn(3)})
			if r.Intn(4) > 0 {
				order = append(order, api.Entry{Op: op, Now: 1 + r.Intn(3)})
			}
		}
		if r.Intn(8) == 0 {
			order = append(order, api.Entry{Op: r.Intn(4), Now: 2})
		}
		r.Shuffle(len(order), func(i, j int) { order[i], order[j] = order[j], order[i] })
		got := Real(l, order)
		if got != plainReal(l, order) {
			t.Fatalf("%v of %+v\n%+v", got, l, order)
		}
		if got {
			yes++
		}
	}
	if yes < 10000 || yes > 90000 {
		t.Error("so many were real:", yes)
	}
}

// TestLastEntriesTakenAway (P32.5): of orders that were played, whose last operations were not told.
func TestLastEntriesTakenAway(t *testing.T) {
	r := rand.New(rand.NewSource(323))
	away := 0
	for range 60 {
		s := played(t, r, 100+r.Intn(200))
		end := len(s.order) - min(r.Intn(12), len(s.order))
		for _, e := range s.order[end:] {
			s.records[e.Op-1].Replied = 0
		}
		for n := len(s.order); n >= end; n-- {
			if e := Check(s.records, s.order[:n]); e != api.OK {
				t.Fatalf("%d entries of %d: %d", n, len(s.order), e)
			}
			away++
		}
		if end > 0 && s.records[s.order[end-1].Op-1].Replied > 0 && Check(s.records, s.order[:end-1]) != api.ErrOrder {
			t.Fatal("one that was told was taken away")
		}
	}
	if away < 200 {
		t.Error("too little was seen:", away)
	}
}

// anything gives a T of any fields.
func anything[T any](r *rand.Rand) T {
	var x T
	v, _ := quick.Value(reflect.TypeOf(x), r)
	return v.Interface().(T)
}

// TestAnythingAtAll: whatever is handed in, each call ends, and tells what the document says.
func TestAnythingAtAll(t *testing.T) {
	r := rand.New(rand.NewSource(324))
	isReal := 0
	for range 2000 {
		var l []api.Record
		var order []api.Entry
		for range r.Intn(4) {
			x, e := anything[api.Record](r), anything[api.Entry](r)
			if r.Intn(2) == 0 {
				x.Request = []api.Request{start("a", "x"), poll("a"), describe("b"), complete("a", 3)}[r.Intn(4)]
			}
			if r.Intn(4) > 0 {
				x.Op = e.Op
			}
			x.From = min(x.From, e.Now)
			l, order = append(l, x), append(order, e)
		}
		if got := Real(l, order); got != plainReal(l, order) || Check(l, order) != plainCheck(l, order) {
			t.Fatalf("%v, %d of %+v\n%+v", got, Check(l, order), l, order)
		} else if got {
			isReal++
		}
		if !Replay(l, order).Same(plainReplay(l, order)) {
			t.Fatalf("Replay of %+v\n%+v", l, order)
		}
	}
	if isReal < 500 || isReal > 1900 {
		t.Error("so many were real:", isReal)
	}
}
