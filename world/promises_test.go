package world

import (
	"bytes"
	"fmt"
	"math/rand"
	"reflect"
	"slices"
	"testing"

	"usher/api"
	"usher/audit"
	"usher/branch"
	"usher/limits"
	"usher/linear"
	"usher/machine"
	"usher/model"
	"usher/names"
	"usher/reqcode"
	"usher/rowcode"
	"usher/rows"
)

// keeps complains unless the world keeps what is promised of it as it stands.
func (w *stage) keeps() {
	w.Helper()
	w.oneBehindTheOther()
	w.stands()
}

// oneBehindTheOther (P1): the order explains what was told, as chapter 32 has it, and as the promise says it.
func (w *stage) oneBehindTheOther() {
	w.Helper()
	l, order := w.Records(), w.Order()
	if e := linear.Check(l, order); e != api.OK {
		w.Fatalf("the order explains nothing: %d\n%+v\n%+v", e, l, order)
	}
	count, m, latest := map[int]int{}, model.New(), 0
	for _, e := range order {
		r := l[e.Op-1]
		if count[e.Op]++; count[e.Op] > 1 || r.Replied > 0 && r.Replied < latest {
			w.Fatalf("%d stands in the order so: %+v", e.Op, order)
		}
		latest = max(latest, r.Invoked)
		w.atomic(m, r, e)
	}
	for i, r := range l {
		if r.Op != i+1 || r.Replied > 0 && count[r.Op] != 1 {
			w.Fatalf("%d was told, and does not stand in the order", r.Op)
		}
	}
}

// atomic complains unless one atomic thing tells an operation its reply.
func (w *stage) atomic(m *model.Model, r api.Record, e api.Entry) {
	w.Helper()
	refused := limits.Check(r.Request)
	if refused != api.OK && (e.Commit || r.Replied > 0 && r.Reply.Code != refused) {
		w.Fatalf("%+v may not be asked, and was: %+v", r, e)
	}
	if refused != api.OK {
		return
	}
	if !e.Commit {
		m = m.Copy()
	}
	x := m.Do(r.Request, e.Now, e.Asks)
	if e.Commit && x.Code != api.OK {
		w.Fatalf("%+v: a commit, though the model tells %d", r, x.Code)
	}
	y := r.Reply
	y.Queries = nil
	if r.Replied > 0 && !linear.Outer(r.Request.Kind, y.Code) && !reqcode.SameReply(x, y) {
		w.Fatalf("%+v: the model tells %+v", r, x)
	}
}

// stands (P2): what is there is what the order's operations make, and no other; rows and histories go together.
func (w *stage) stands() {
	w.Helper()
	if !w.Up() {
		return
	}
	m := linear.Replay(w.Records(), w.Order())
	r, e := rows.Decode(w.Image())
	if key, code := audit.All(r); e != api.OK || code != api.OK {
		w.Fatalf("the image: %d; %s: %d", e, key, code)
	}
	if len(r.Rows) != len(m.Names()) {
		w.Fatalf("%d workflows, not %d", len(r.Rows), len(m.Names()))
	}
	branches := 0
	for _, name := range m.Names() {
		want, _ := m.Flow(name)
		row, _ := rows.Get(r, names.Row(name))
		f, _ := rowcode.Decode(row.Bytes)
		if !rowcode.Same(f, want) {
			w.Fatalf("%s is\n%+v, not\n%+v", name, f, want)
		}
		for run := 1; run <= f.Runs; run++ {
			l, _ := rows.Events(r, names.Branch(name, run))
			if h, _ := branch.Read(l); !branch.Same(h, m.History(name, run)) {
				w.Fatalf("run %d of %s has %+v", run, name, h)
			}
			branches++
		}
	}
	if branches != len(r.Branches) {
		w.Fatalf("%d branches, not %d", len(r.Branches), branches)
	}
}

// reopens (P2): opened again, it is the same, whatever is kept of what was not sure: nothing is unsure.
func (w *stage) reopens(keeps []int) {
	w.Helper()
	image, order, lsn := w.Image(), w.Order(), w.Door().Store().LSN()
	w.crashes(keeps...)
	w.opens()
	if !bytes.Equal(w.Image(), image) || !alike(w.Order(), order) || w.Door().Store().LSN() != lsn {
		w.Fatal("opened again, it is another one")
	}
}

// progress is how far an update has come.
type progress struct {
	stage   int
	outcome api.Value
}

// forward (P4) notes how far updates have come by what stands fast, and complains of one that has fallen back.
type forward map[string]progress

func (p forward) note(t *testing.T, flow string, s api.State) {
	t.Helper()
	for _, u := range s.Updates {
		key := fmt.Sprint(flow, " ", s.Run, " ", u.Name)
		was := p[key]
		if u.Stage < was.stage || was.stage == 2 && !reflect.DeepEqual(u.Outcome, was.outcome) {
			t.Fatalf("the update %s of %s was %+v, is %+v", u.Name, flow, was, u)
		}
		p[key] = progress{u.Stage, u.Outcome}
	}
	for key := range p {
		var name, update string
		var run int
		fmt.Sscan(key, &name, &run, &update)
		if name == flow && run == s.Run && !slices.ContainsFunc(s.Updates, func(u api.Update) bool { return u.Name == update }) {
			t.Fatalf("the update %s of %s is gone", update, flow)
		}
	}
}

// noteAll notes all workflows, if all that is there is sure.
func (p forward) noteAll(w *stage) {
	w.Helper()
	if !w.Up() || w.Door().Store().Durable() != w.Door().Store().LSN() {
		return
	}
	for _, key := range w.Door().Store().Keys() {
		name, _ := names.ParseRow(key)
		f, _ := flow(w.World, name)
		p.note(w.T, name, f.State)
	}
}

// forwardToClients (P4): the same of what clients were told, one behind the other.
func (w *stage) forwardToClients() {
	w.Helper()
	l, stages := w.Records(), map[string]progress{}
	for _, e := range w.Order() {
		r := l[e.Op-1]
		if r.Request.Kind != api.OpUpdate || r.Replied == 0 || r.Reply.Code != api.OK {
			continue
		}
		key := fmt.Sprint(r.Request.Flow, " ", r.Reply.Run, " ", r.Request.Request)
		was, is := stages[key], progress{r.Reply.Num, r.Reply.Value}
		if is.stage < r.Request.Num || is.stage < was.stage || was.stage == 2 && !reflect.DeepEqual(is, was) {
			w.Fatalf("%s was told as %+v, then as %+v", key, was, is)
		}
		stages[key] = is
	}
}

// querySees (P5): what a worker answered was reckoned of all events of operations that were told ahead of the query.
func (w *stage) querySees(seen map[string]int) {
	w.Helper()
	l, order := w.Records(), w.Order()
	for _, q := range l {
		if q.Request.Kind != api.OpQuery || q.Replied == 0 || q.Reply.Code != api.OK {
			continue
		}
		m := model.New()
		end := 0
		for i, e := range order {
			if r := l[e.Op-1]; r.Replied > 0 && r.Replied < q.Invoked {
				end = i + 1
			}
		}
		for _, e := range order[:end] {
			if e.Commit {
				m.Do(l[e.Op-1].Request, e.Now, e.Asks)
			}
		}
		if n := len(m.History(q.Request.Flow, q.Reply.Run)); q.Reply.Num < n || q.Reply.Value.Int != q.Reply.Num {
			w.Fatalf("a query is told %+v, though %d events were told ahead of it", q.Reply, n)
		} else if n > 0 {
			seen["query answered"]++
		}
	}
}

// again (P3) asks what had its effect once more, and another thing by the same name: neither changes anything.
func (w *stage) again(p *people, seen map[string]int) {
	w.Helper()
	session := slices.IndexFunc([]int{0, 1, 2, 3, 4, 5, 6, 7}, func(s int) bool { return w.phase(s) == api.PhNone })
	l, order := w.Records(), w.Order()
	if session < 0 || len(order) == 0 {
		return
	}
	e := order[p.Intn(len(order))]
	r := l[e.Op-1]
	if !e.Commit || r.Request.Request == "" {
		return
	}
	image := w.Image()
	first := w.does(session, r.Request)
	if first.Code != api.OK || r.Replied > 0 && !reqcode.SameReply(first, r.Reply) {
		w.Fatalf("%+v, asked again, is told %+v", r, first)
	}
	if second := w.does(session, r.Request); !reqcode.SameReply(first, second) {
		w.Fatalf("%+v, asked again, is told %+v and %+v", r, first, second)
	}
	other := r.Request
	switch p.Intn(3) {
	case 0:
		other = signal(other.Flow, other.Request)
		other.Name = "other"
	case 1:
		other = api.Request{Kind: api.OpTerminate, Flow: other.Flow, Request: other.Request, Name: "why not"}
	case 2:
		other = start(other.Flow, other.Request)
		other.Num = 7777
	}
	if x := w.does(session, other); x.Code != api.ErrMismatch {
		w.Fatalf("%+v of the name of %+v is told %+v", other, r, x)
	}
	if !bytes.Equal(w.Image(), image) {
		w.Fatalf("%+v had its effect twice", r)
	}
	seen["again"]++
	if r.Replied == 0 {
		seen["again, not told"]++
	}
}

// TestPromises (P1 to P5): scripts of many moves, crashes, fuses, rooms and ticks.
func TestPromises(t *testing.T) {
	r := rand.New(rand.NewSource(353))
	seen := map[string]int{}
	for range 100 {
		w := newStage(t, 1<<20, []int{1, 500, 5000}[r.Intn(3)])
		p, f := newPeople(r, 1+r.Intn(8)), forward{}
		for i := range 600 {
			s := p.step(w.World)
			told := w.Do(s)
			p.hear(s.Session, told)
			if told.Done {
				seen[fmt.Sprint("code ", told.Reply.Code)]++
			}
			f.noteAll(w)
			if s.Kind == api.StepOpen && told.Code == api.OK {
				seen["opened"]++
				w.keeps()
				if p.Intn(2) == 0 {
					w.reopens(p.keeps())
				}
			}
			if i%50 == 0 {
				w.keeps()
			}
			if p.Intn(12) == 0 && w.Up() && !w.Door().Stopped() {
				w.tells(api.OK, api.Step{Kind: api.StepFuse, N: 1 << 30})
				w.again(p, seen)
			}
		}
		w.keeps()
		w.forwardToClients()
		w.querySees(seen)
	}
	for _, what := range []string{"opened", "again", "again, not told", "query answered", "code 0", "code 1", "code 6", "code 7", "code 12", "code 13", "code 14", "code 15", "code 16", "code 18", "code 21", "code 22"} {
		if seen[what] < 3 {
			t.Error("too little was seen:", what, seen)
		}
	}
}

// goesOn (P6) counts the steps of each operation, and complains of one that needs too many.
type goesOn struct {
	steps map[int]int // by sessions, of the operations that are under way
}

func (g *goesOn) note(w *stage, s api.Step, told api.Told, was api.Machine) {
	w.Helper()
	if s.Kind == api.StepInvoke && told.Code == api.OK {
		g.steps[s.Session] = 0
	}
	if s.Kind != api.StepStep || told.Code != api.OK {
		return
	}
	g.steps[s.Session]++
	if was.Phase == api.PhWait {
		g.steps[s.Session] = 0 // it waited: its deadline counts
		if w.Now() >= was.Until && !told.In {
			w.Fatalf("%+v waits on at %d", was, w.Now())
		}
	}
	if n := g.steps[s.Session]; n > machine.Most() || n == machine.Most() && !told.Done && w.phase(s.Session) != api.PhWait {
		w.Fatalf("%+v is not told within %d steps", was, n)
	}
}

// TestGoesOn (P6): without crashes, and room enough.
func TestGoesOn(t *testing.T) {
	r := rand.New(rand.NewSource(354))
	seen := map[api.Errno]int{}
	most := 0
	for i := range 120 {
		w, alone := newStage(t, api.MaxRoom, 20000), i%3 == 0
		p := newPeople(r, 6)
		if alone {
			p.sessions = 1
		}
		p.calm = true
		g := goesOn{map[int]int{}}
		for range 500 {
			s := p.step(w.World)
			was, _ := w.Door().Machine(s.Session)
			told := w.Do(s)
			p.hear(s.Session, told)
			g.note(w, s, told, was)
			if told.Done {
				seen[told.Reply.Code]++
				if alone && told.Reply.Code == api.ErrBusy {
					t.Fatal("busy with oneself")
				}
				most = max(most, g.steps[s.Session])
			}
		}
		for session := range api.MaxSessions { // behind all deadlines each operation comes to its end
			for w.phase(session) != api.PhNone && w.Now() < 1<<20 {
				s := api.Step{Kind: api.StepStep, Session: session}
				was, _ := w.Door().Machine(session)
				g.note(w, s, w.Do(s), was)
				w.tick(50)
			}
		}
		w.keeps()
		for _, x := range w.Records() {
			if x.Replied == 0 {
				t.Fatalf("%+v was never told", x)
			}
		}
	}
	if most != machine.Most() || seen[api.ErrBusy] < 3 || seen[api.ErrLate] < 3 || seen[api.OK] < 1000 {
		t.Error("too little was seen:", most, seen)
	}
}

// moves are those of a script in which everything happens that changes a workflow; session by session they are mixed.
func moves(w *stage) []api.Step {
	w.Helper()
	ops := [][]api.Request{
		{start("a", "x"), update("a", "u", 2, 3), describe("a"), signal("b", "s5"), describe("b")},
		{signal("a", "s1"), poll("a"), complete("a", 1, 4, api.Command{Kind: api.CmTimer, Name: "c", Delay: 1}, api.Command{Kind: api.CmAccept, Name: "u"}, api.Command{Kind: api.CmOutcome, Name: "u", Value: listOf("done")}), query("a", 2), {Kind: api.OpReset, Flow: "a", Request: "back", Num: 5}},
		{start("b", "x"), signal("a", "s3"), {Kind: api.OpFire, Flow: "a"}, {Kind: api.OpTerminate, Flow: "b", Request: "end"}, {Kind: api.OpSignalStart, Flow: "b", Request: "on", Name: "n"}},
	}
	var out []api.Step
	for i := range 5 {
		for session, l := range ops {
			out = append(out, api.Step{Kind: api.StepInvoke, Session: session, Bytes: w.bytesOf(l[i])})
		}
		for n := range 12 {
			if n == 5 && i != 1 || n == 9 {
				out = append(out, api.Step{Kind: api.StepTick, N: 1})
			}
			if n == 7 && i%2 == 1 {
				out = append(out, api.Step{Kind: api.StepCheckpoint})
			}
			for session := range ops {
				out = append(out, api.Step{Kind: api.StepStep, Session: session})
			}
		}
	}
	return out
}

// TestCutOffAnywhere (P2): wherever the disk stops, or the server crashes, whatever is left of it, and wherever the opening behind that is cut off.
func TestCutOffAnywhere(t *testing.T) {
	l := moves(up(t))
	dead, kept, ends := 0, map[string]int{}, false
	for fuse := 0; !ends; fuse++ {
		for _, keeps := range [][]int{nil, {1 << 20}, {1 << 20, 0}, {0, 1 << 20}, {40}, {9, 150}} {
			w := newStage(t, 1<<20, 700)
			w.tells(api.OK, api.Step{Kind: api.StepFuse, N: fuse})
			for _, s := range l {
				w.Do(s)
			}
			if ends = !w.Door().Stopped(); !ends {
				dead++
			}
			w.cutOff(keeps, fuse)
			kept[fmt.Sprint(len(w.Order()))]++
			if x := w.does(0, start("a", "x")); x.Code != api.OK || x.Run != 1 {
				t.Fatalf("asked again: %+v", x)
			}
			w.keeps()
		}
	}
	for at := range l { // and crashes of a disk that goes on
		w := newStage(t, 1<<20, 700)
		for _, s := range l[:at] {
			w.Do(s)
		}
		w.cutOff([]int{at * 7 % 200, at * 31 % 300}, at)
		for _, s := range l[at:] {
			w.Do(s)
		}
		w.keeps()
		w.reopens(nil)
	}
	if dead < 100 || len(kept) < 12 {
		t.Error("too little was seen:", dead, kept)
	}
}

// cutOff crashes the server, cuts off its opening some times, and opens it: what was told stands fast.
func (w *stage) cutOff(keeps []int, n int) {
	w.Helper()
	told := 0
	for _, e := range w.Order() {
		if w.Records()[e.Op-1].Replied > 0 {
			told++
		}
	}
	w.keeps()
	w.crashes(keeps...)
	for i := range n % 3 {
		w.tells(api.OK, api.Step{Kind: api.StepFuse, N: i})
		if w.Do(api.Step{Kind: api.StepOpen}); !w.Up() {
			w.keeps()
		}
		w.crashes(keeps...)
	}
	w.opens()
	w.keeps()
	for _, e := range w.Order() {
		if w.Records()[e.Op-1].Replied > 0 {
			told--
		}
	}
	if told != 0 {
		w.Fatalf("%d that were told are lost", told)
	}
	w.reopens(keeps)
}

// TestTooManyForACheckpoint (P2): a store of more rows than may be opens, too: its log was not forgotten.
func TestTooManyForACheckpoint(t *testing.T) {
	w := newStage(t, api.MaxRoom, 1<<20)
	s := w.Door().Store()
	for n := range 10001 {
		if n == 10000 {
			w.tells(api.OK, api.Step{Kind: api.StepCheckpoint})
		}
		if _, e := s.Commit(api.Batch{Key: fmt.Sprintf("x/%05d", n)}); e != api.OK {
			t.Fatal(e)
		}
	}
	w.tells(api.ErrArg, api.Step{Kind: api.StepCheckpoint})
	w.did(0, start("a", "x"))
	image := w.Image()
	w.crashes()
	w.opens()
	if !bytes.Equal(w.Image(), image) || len(w.Order()) != 1 {
		t.Error("opened, it is another one")
	}
}
