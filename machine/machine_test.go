package machine

import (
	"fmt"
	"math"
	"reflect"
	"testing"

	"usher/api"
	"usher/batch"
	"usher/branch"
	"usher/decide"
	"usher/limits"
	"usher/model"
	"usher/rowcode"
)

// phases are all, and numbers that are none.
var phases = []int{math.MinInt, -1, api.PhNone, api.PhLoad, api.PhCommit, api.PhWait, api.PhSync, api.PhReply, 6, 1<<32 + api.PhLoad, math.MaxInt}

var numbers = []int{math.MinInt, math.MinInt + 1, -1, 0, 1, 2, 3, 4, 5, 1 << 40, math.MaxInt - 1, math.MaxInt}

// listOf gives a value that has memory of its own.
func listOf(s string) api.Value {
	return api.Value{Kind: api.VList, List: []api.Value{{Kind: api.VText, Text: s}, {Kind: api.VList, List: []api.Value{{Kind: api.VInt, Int: 3}}}}}
}

func start(request string) api.Request {
	return api.Request{Kind: api.OpStart, Flow: "a", Request: request, Name: "t", Value: listOf("in"), Num: 500, Policy: api.Policy{First: 10, Coef: 1 << 62, Most: 35}}
}

func signal(request string) api.Request {
	return api.Request{Kind: api.OpSignal, Flow: "a", Request: request, Name: "s", Value: listOf("s")}
}

func terminate(request string) api.Request {
	return api.Request{Kind: api.OpTerminate, Flow: "a", Request: request, Name: "why"}
}

func query(wait int) api.Request {
	return api.Request{Kind: api.OpQuery, Flow: "a", Name: "q", Value: listOf("asked"), Wait: wait}
}

func update(request string, stage, wait int) api.Request {
	return api.Request{Kind: api.OpUpdate, Flow: "a", Request: request, Value: listOf(request), Num: stage, Wait: wait}
}

func describe() api.Request {
	return api.Request{Kind: api.OpDescribe, Flow: "a"}
}

func poll() api.Request {
	return api.Request{Kind: api.OpPoll, Flow: "a", Num: 10}
}

func complete(num int, l ...api.Command) api.Request {
	return api.Request{Kind: api.OpComplete, Flow: "a", Run: 1, Num: num, Commands: l, Answers: []api.Answer{{Op: 3, Value: listOf("answer")}}}
}

// found is what an operation finds.
type found struct {
	f     api.Flow
	there bool
	h     []api.Event
}

// behind gives the workflow a as these requests make it, the first one at 1, each further one a tick later.
func behind(t *testing.T, l ...api.Request) found {
	t.Helper()
	m := model.New()
	for i, r := range l {
		if x := m.Do(r, i+1, asksOf("u", "v")); x.Code != api.OK {
			t.Fatalf("%+v: told %+v", r, x)
		}
	}
	f, there := m.Flow("a")
	return found{f, there, m.History("a", f.Runs)}
}

func asksOf(names ...string) []api.Ask {
	var out []api.Ask
	for i, name := range names {
		out = append(out, api.Ask{Op: 40 + i, Name: name, Value: listOf(name)})
	}
	return out
}

// busy is a run whose task was done (event 4), with a timer, an update that was accepted, one that has its outcome, and a signal behind.
func busy(t *testing.T) found {
	t.Helper()
	return behind(t, start("r1"), poll(), complete(3,
		api.Command{Kind: api.CmTimer, Name: "b", Delay: 50},
		api.Command{Kind: api.CmAccept, Name: "u"},
		api.Command{Kind: api.CmAccept, Name: "v"},
		api.Command{Kind: api.CmOutcome, Name: "v", Value: listOf("out")}), signal("r2"))
}

// over is a workflow that runs no more.
func over(t *testing.T) found {
	t.Helper()
	return behind(t, start("r1"), terminate("r2"))
}

func same(t *testing.T, why string, got, want any) {
	t.Helper()
	if !reflect.DeepEqual(got, want) {
		t.Errorf("%s:\n%+v, not\n%+v", why, got, want)
	}
}

// full gives a machine of that phase in which nothing is zero.
func full(t *testing.T, phase int) api.Machine {
	t.Helper()
	w := busy(t)
	p, _ := decide.Do(w.f, true, w.h, api.Request{Kind: api.OpReset, Flow: "a", Request: "back", Num: 4}, 9, nil)
	_, x := decide.Do(w.f, true, w.h, poll(), 9, asksOf("y"))
	_, described := decide.Do(w.f, true, w.h, describe(), 9, nil)
	x.Value, x.State, x.Queries = listOf("told"), described.State, asksOf("q")
	x.State.Result = listOf("result")
	if !p.Changed || len(p.Writes) != 2 || len(x.Events) == 0 || len(x.Updates) == 0 {
		t.Fatal("not full:", p, x)
	}
	r := complete(3, api.Command{Kind: api.CmMarker, Value: listOf("m")})
	r.Value = listOf("v")
	return api.Machine{Op: 7, Phase: phase, Tries: 2, Until: 30, Now: 9, Version: 5, LSN: 20, Request: r, Plan: p, Reply: x, Asks: asksOf("y")}
}

// TestOtherPhases: in a phase that is not its own each call leaves a machine as it is.
func TestOtherPhases(t *testing.T) {
	w := busy(t)
	for _, phase := range phases {
		m, want := full(t, phase), full(t, phase)
		if phase != api.PhLoad {
			same(t, fmt.Sprint("Look in ", phase), Look(m, w.f, true, 6, w.h, 50, 60, asksOf("z")), want)
		}
		if phase != api.PhCommit {
			for e := api.Errno(-1); e < 30; e++ {
				same(t, fmt.Sprint("Committed in ", phase), Committed(m, 60, e), want)
			}
		}
		if phase != api.PhWait {
			same(t, fmt.Sprint("Wake in ", phase), Wake(m, api.Wait{Op: 7, Over: true, Query: true}, w.f, true, 50, 60), want)
			same(t, fmt.Sprint("Waiting in ", phase), Waiting(m), api.Wait{})
		}
		if phase != api.PhSync {
			same(t, fmt.Sprint("Synced in ", phase), Synced(m, math.MaxInt), want)
		}
	}
}

// TestTheZeroMachine: one that no call made is in no phase.
func TestTheZeroMachine(t *testing.T) {
	var m api.Machine
	w := busy(t)
	same(t, "Look", Look(m, w.f, true, 6, w.h, 50, 60, asksOf("z")), m)
	same(t, "Committed", Committed(m, 60, api.OK), m)
	same(t, "Wake", Wake(m, api.Wait{Over: true}, w.f, true, 50, 60), m)
	same(t, "Waiting", Waiting(m), api.Wait{})
	same(t, "Synced", Synced(m, 60), m)
	if b, e := Batch(m); e != api.ErrArg || !reflect.DeepEqual(b, api.Batch{}) {
		t.Error("Batch:", b, e)
	}
}

func TestNew(t *testing.T) {
	for _, op := range numbers {
		for _, r := range []api.Request{{}, start("x"), query(-1), complete(3, api.Command{Kind: 77, Name: "\xff"})} {
			same(t, "New", New(op, r), api.Machine{Op: op, Phase: api.PhLoad, Request: r})
		}
	}
}

// requests are some of that kind: at their best, of names that were used, and such as may not be.
func requests(kind int) []api.Request {
	return []api.Request{
		{Kind: kind, Flow: "a", Request: "new", Name: "n", Value: listOf("v"), Num: 1},
		{Kind: kind, Flow: "a", Request: "new", Value: listOf("v"), Num: 2, Wait: 5},
		{Kind: kind, Flow: "a", Name: "n", Value: listOf("v"), Wait: 5},
		{Kind: kind, Flow: "a", Request: "u", Value: listOf("u"), Num: 1},
		{Kind: kind, Flow: "a", Request: "new", Num: 4},
		{Kind: kind, Flow: "a", Request: "new", Name: "n"},
		{Kind: kind, Flow: "a", Request: "r1", Name: "n"},
		{Kind: kind, Flow: "a", Request: "new"},
		{Kind: kind, Flow: "a", Run: 1, Num: 3, Name: "why"},
		{Kind: kind, Flow: "a", Run: 1, Num: 3, Commands: []api.Command{{Kind: api.CmMarker, Value: listOf("x")}}},
		{Kind: kind, Flow: "a", Num: 3},
		{Kind: kind, Flow: "a"},
		{Kind: kind, Flow: "no name!", Request: "\xff", Value: api.Value{Kind: 9}, Run: math.MinInt, Num: math.MinInt, Wait: math.MinInt},
	}
}

// TestLook: each kind of request of each workflow, held against limits and decide.
func TestLook(t *testing.T) {
	seen := map[int]int{}
	for _, w := range []found{{}, behind(t, start("r1")), behind(t, start("r1"), poll()), busy(t), over(t)} {
		for kind := -1; kind < 16; kind++ {
			for i, r := range requests(kind) {
				for _, now := range []int{math.MinInt, -1, 0, 30, math.MaxInt} {
					m := New(7, r)
					m.Tries = 2
					want := m
					want.Now, want.Version, want.LSN, want.Asks = now, 4, 9, asksOf("y")
					var changes bool
					if e := limits.Check(r); e != api.OK {
						want.Reply, want.Phase = api.Reply{Code: e}, api.PhSync
					} else {
						want.Plan, want.Reply = decide.Do(w.f, w.there, w.h, r, now, asksOf("y"))
						changes = want.Plan.Changed
						want.Phase = api.PhSync
					}
					if changes {
						want.Phase = api.PhCommit
					}
					if want.Reply.Code == api.ErrWaits {
						want.Phase, want.Until = api.PhWait, now+r.Wait
						if now == math.MaxInt {
							want.Until = now
						}
					}
					seen[want.Phase]++
					same(t, fmt.Sprint("kind ", kind, ", request ", i, " at ", now), Look(m, w.f, w.there, 4, w.h, now, 9, asksOf("y")), want)
				}
			}
		}
	}
	if len(seen) != 3 || seen[api.PhCommit] < 50 || seen[api.PhWait] < 20 || seen[api.PhSync] < 50 {
		t.Error("too little was seen:", seen)
	}
}

// TestWhatLookFinds: one of each sort, spelt out.
func TestWhatLookFinds(t *testing.T) {
	long := complete(3)
	for range api.MaxCommands + 1 {
		long.Commands = append(long.Commands, api.Command{Kind: api.CmMarker})
	}
	for _, c := range []struct {
		why   string
		r     api.Request
		w     found
		phase int
		code  api.Errno
	}{
		{"no request", api.Request{}, busy(t), api.PhSync, api.ErrArg},
		{"too many commands", long, busy(t), api.PhSync, api.ErrLong},
		{"a wait below 0", query(-1), busy(t), api.PhSync, api.ErrArg},
		{"a start", start("x"), found{}, api.PhCommit, api.OK},
		{"a start of one that runs", start("x"), busy(t), api.PhSync, api.ErrStarted},
		{"a start that had its effect", start("r1"), busy(t), api.PhSync, api.OK},
		{"a signal", signal("x"), busy(t), api.PhCommit, api.OK},
		{"a signal of none", signal("x"), found{}, api.PhSync, api.ErrNone},
		{"a poll of a task", poll(), busy(t), api.PhCommit, api.OK},
		{"a poll of none", poll(), behind(t, start("r1"), poll()), api.PhSync, api.OK},
		{"a describe", describe(), busy(t), api.PhSync, api.OK},
		{"a query", query(3), busy(t), api.PhWait, api.ErrWaits},
		{"a query of one that is over", query(3), over(t), api.PhSync, api.ErrClosed},
		{"an update", update("x", 1, 3), busy(t), api.PhWait, api.ErrWaits},
		{"an update that has its stage", update("u", 1, 3), busy(t), api.PhSync, api.OK},
		{"an update that has not", update("u", 2, 3), busy(t), api.PhWait, api.ErrWaits},
	} {
		m := Look(New(7, c.r), c.w.f, c.w.there, 4, c.w.h, 30, 9, nil)
		if m.Phase != c.phase || m.Reply.Code != c.code || m.Plan.Changed != (c.phase == api.PhCommit) || m.Now != 30 || m.Version != 4 || m.LSN != 9 || m.Op != 7 || m.Tries != 0 {
			t.Errorf("%s: %+v", c.why, m)
		}
		if c.phase == api.PhWait != (m.Until == 33) {
			t.Errorf("%s: until %d", c.why, m.Until)
		}
	}
}

func TestUntil(t *testing.T) {
	for _, c := range []struct{ now, wait, want int }{
		{5, 0, 5}, {5, 1, 6}, {5, -1, 5}, {5, math.MinInt, 5}, {0, 0, 0},
		{-5, 3, -2}, {-5, -3, -5}, {math.MinInt, 0, math.MinInt}, {math.MinInt, -1, math.MinInt}, {math.MinInt, math.MinInt, math.MinInt}, {math.MinInt, math.MaxInt, -1},
		{math.MaxInt, 0, math.MaxInt}, {math.MaxInt, -1, math.MaxInt}, {math.MaxInt, 1, math.MaxInt}, {math.MaxInt, math.MaxInt, math.MaxInt},
		{math.MaxInt - 3, 2, math.MaxInt - 1}, {math.MaxInt - 3, 3, math.MaxInt}, {math.MaxInt - 3, 4, math.MaxInt},
		{0, math.MaxInt, math.MaxInt}, {1, math.MaxInt, math.MaxInt},
	} {
		if got := until(c.now, c.wait); got != c.want {
			t.Errorf("%d and %d: %d, not %d", c.now, c.wait, got, c.want)
		}
	}
	w := busy(t)
	for _, c := range []struct{ now, wait, want int }{
		{30, 0, 30}, {30, api.MaxDelay, 30 + api.MaxDelay},
		{math.MaxInt, 0, math.MaxInt}, {math.MaxInt, api.MaxDelay, math.MaxInt}, {math.MaxInt - api.MaxDelay, api.MaxDelay, math.MaxInt}, {math.MaxInt - api.MaxDelay + 1, api.MaxDelay, math.MaxInt},
		{math.MinInt, api.MaxDelay, math.MinInt + api.MaxDelay},
	} {
		for _, r := range []api.Request{query(c.wait), update("x", 2, c.wait)} {
			if m := Look(New(7, r), w.f, true, 4, w.h, c.now, 9, nil); m.Phase != api.PhWait || m.Until != c.want {
				t.Errorf("kind %d, %d and %d: until %d, in %d", r.Kind, c.now, c.wait, m.Until, m.Phase)
			}
		}
	}
}

// TestBatch: what the plans of some operations come to.
func TestBatch(t *testing.T) {
	reset := api.Request{Kind: api.OpReset, Flow: "a", Request: "back", Num: 4}
	for _, c := range []struct {
		why     string
		r       api.Request
		w       found
		version int
		writes  []api.Write
	}{
		{"the first run", start("x"), found{}, 0, []api.Write{{Branch: "h/a/1"}}},
		{"a further run", start("x"), over(t), 2, []api.Write{{Branch: "h/a/2"}}},
		{"events behind those that are there", signal("x"), behind(t, start("r1")), 1, []api.Write{{Branch: "h/a/1", At: 2}}},
		{"a run that is set back", reset, busy(t), 9, []api.Write{{Branch: "h/a/1", At: len(busy(t).h)}, {Branch: "h/a/2", Fork: "h/a/1", Keep: 3}}},
	} {
		m := Look(New(7, c.r), c.w.f, c.w.there, c.version, c.w.h, 30, 9, nil)
		b, e := Batch(m)
		if e != api.OK || batch.Check(b) != api.OK || b.Key != "w/a" || b.Expect != c.version || len(b.Writes) != len(c.writes) {
			t.Fatalf("%s: %+v, %d", c.why, b, e)
		}
		if f, e := rowcode.Decode(b.Row); e != api.OK || !rowcode.Same(f, m.Plan.Flow) {
			t.Errorf("%s: the row is %+v (%d)", c.why, f, e)
		}
		for i, w := range b.Writes {
			h, e := branch.Read(w.Events)
			if e != api.OK || len(h) == 0 || !branch.Same(h, m.Plan.Writes[i].Events) {
				t.Errorf("%s: the events are %+v (%d)", c.why, h, e)
			}
			w.Events = nil
			same(t, c.why, w, c.writes[i])
		}
	}
}

// TestBatchOfAnyPlan: the fields are taken as they are, whatever the phase, and whatever other layers would say of it.
func TestBatchOfAnyPlan(t *testing.T) {
	f := over(t).f
	event := api.Event{Kind: api.EvMarker, Time: 3, Value: listOf("m")}
	events := []api.Event{event, {Kind: 99}, event}
	row, _ := rowcode.Encode(f)
	plan := api.Plan{Flow: f, Writes: []api.History{
		{Run: 3, From: 2, Keep: 8, At: 5, Events: events},
		{Run: 10, From: 0, Keep: -1, At: math.MinInt},
		{Run: 1, From: -1, Keep: math.MaxInt, At: math.MaxInt, Events: events[:1]},
		{Run: 2, From: math.MinInt, At: -1},
		{Run: 4, From: 1},
		{Run: 12, From: 11},
	}}
	want := []api.Write{
		{Branch: "h/b/3", Fork: "h/b/2", Keep: 8, At: 5, Events: branch.Bytes(events)},
		{Branch: "h/b/10", Keep: -1, At: math.MinInt},
		{Branch: "h/b/1", Keep: math.MaxInt, At: math.MaxInt, Events: branch.Bytes(events[:1])},
		{Branch: "h/b/2", At: -1},
		{Branch: "h/b/4", Fork: "h/b/1"},
		{Branch: "h/b/12", Fork: "h/b/11"},
	}
	if len(want[0].Events) != 3 || len(want[0].Events[0]) == 0 {
		t.Fatal(want)
	}
	for _, phase := range phases {
		for _, version := range numbers {
			b, e := Batch(api.Machine{Phase: phase, Version: version, Request: api.Request{Flow: "b"}, Plan: plan})
			if e != api.OK {
				t.Error(e)
			}
			same(t, "a batch", b, api.Batch{Key: "w/b", Expect: version, Row: row, Writes: want})
		}
	}
	b, e := Batch(api.Machine{Request: api.Request{Flow: "a"}, Plan: api.Plan{Flow: f}})
	if e != api.OK {
		t.Error(e)
	}
	same(t, "no history", b, api.Batch{Key: "w/a", Row: row})
}

// TestBatchOfNoBytes: of a workflow that may not be there are none.
func TestBatchOfNoBytes(t *testing.T) {
	for i, change := range []func(f *api.Flow){
		func(f *api.Flow) { *f = api.Flow{} },
		func(f *api.Flow) { f.Name = "" },
		func(f *api.Flow) { f.Name = "no name!" },
		func(f *api.Flow) { f.Runs = 0 },
		func(f *api.Flow) { f.Runs = 2 },
		func(f *api.Flow) { f.Runs, f.State.Run = 11, 11 },
		func(f *api.Flow) { f.State.Status = 9 },
		func(f *api.Flow) { f.Table[0].Run = 2 },
	} {
		m := Look(New(7, start("x")), api.Flow{}, false, 0, nil, 30, 9, nil)
		change(&m.Plan.Flow)
		b, e := Batch(m)
		if want := refusal(m.Plan.Flow); e != want || want == api.OK || !reflect.DeepEqual(b, api.Batch{}) {
			t.Errorf("change %d: %+v, %d", i, b, e)
		}
	}
}

func refusal(f api.Flow) api.Errno {
	_, e := rowcode.Encode(f)
	return e
}

// TestCommitted: each error, behind as many conflicts as there may be.
func TestCommitted(t *testing.T) {
	for _, tries := range numbers {
		m, want := full(t, api.PhCommit), full(t, api.PhSync)
		m.Tries, want.Tries, want.LSN = tries, tries, 60
		same(t, "OK", Committed(m, 60, api.OK), want)
		for _, e := range []api.Errno{math.MinInt, -1, api.ErrArg, api.ErrNil, api.ErrLong, api.ErrFull, api.ErrDead, api.ErrLog, api.ErrBusy, api.ErrWaits, api.ErrOrder, 99, math.MaxInt} {
			want.Reply, want.Plan = api.Reply{Code: e}, api.Plan{}
			same(t, fmt.Sprint("error ", e), Committed(m, 60, e), want)
		}
		got := Committed(m, 60, api.ErrVersion)
		want = full(t, api.PhLoad)
		want.Plan, want.Tries = api.Plan{}, tries+1
		if tries >= 3 {
			want.Phase, want.Reply = api.PhSync, api.Reply{Code: api.ErrBusy}
		}
		if tries == math.MaxInt {
			want.Tries = tries
		}
		same(t, fmt.Sprint("a conflict behind ", tries), got, want)
	}
	for _, lsn := range numbers {
		m := full(t, api.PhCommit)
		if a, b, c := Committed(m, lsn, api.OK), Committed(m, lsn, api.ErrFull), Committed(m, lsn, api.ErrVersion); a.LSN != lsn || b.LSN != lsn || c.LSN != m.LSN {
			t.Error(lsn, a.LSN, b.LSN, c.LSN)
		}
	}
}

func TestWaiting(t *testing.T) {
	w := busy(t)
	m := Look(New(7, query(3)), w.f, true, 4, w.h, 30, 9, nil)
	same(t, "a query", Waiting(m), api.Wait{Op: 7, Run: 1, Seen: len(w.h), Flow: "a", Name: "q", Asked: listOf("asked"), Query: true})
	m = Look(New(8, update("x", 2, 3)), w.f, true, 4, w.h, 30, 9, nil)
	same(t, "an update", Waiting(m), api.Wait{Op: 8, Run: 1, Flow: "a", Name: "x", Asked: listOf("x")})
	for _, n := range numbers {
		m.Op, m.Reply.Run, m.Reply.Num = n, n, n
		m.Request.Name = "not this one"
		same(t, "an update", Waiting(m), api.Wait{Op: n, Run: n, Seen: n, Flow: "a", Name: "x", Asked: listOf("x")})
	}
	for _, r := range []api.Request{start("x"), describe(), {}} {
		same(t, "one that does not wait", Waiting(New(7, r)), api.Wait{})
		same(t, "one that does not wait", Waiting(Look(New(7, r), w.f, true, 4, w.h, 30, 9, nil)), api.Wait{})
	}
}

// waiting gives an operation that waits until 33, and its wait.
func waiting(t *testing.T, r api.Request, w found) (api.Machine, api.Wait) {
	t.Helper()
	m := Look(New(7, r), w.f, w.there, 4, w.h, 30, 9, asksOf("y"))
	if m.Phase != api.PhWait || m.Until != 33 {
		t.Fatalf("does not wait: %+v", m)
	}
	return m, Waiting(m)
}

// wakes complains unless m is told x then, and nothing else is changed.
func wakes(t *testing.T, why string, m api.Machine, w api.Wait, f found, now int, x api.Reply) {
	t.Helper()
	want := m
	want.Now, want.LSN, want.Reply, want.Phase = now, 15, x, api.PhSync
	same(t, why, Wake(m, w, f.f, f.there, now, 15), want)
}

// TestWakeOfWhatIsOver: an answer comes ahead of all else.
func TestWakeOfWhatIsOver(t *testing.T) {
	w := busy(t)
	for _, now := range []int{math.MinInt, 0, 31, 33, 34, math.MaxInt} {
		for _, f := range []found{w, over(t), {}, behind(t, start("r1"), terminate("r2"), start("r3"))} {
			m, wait := waiting(t, query(3), w)
			wait.Over, wait.Value, wait.Upto, wait.Handed = true, listOf("answer"), 17, 3
			wakes(t, "a query", m, wait, f, now, api.Reply{Run: 1, Num: 17, Value: listOf("answer")})
			wait.Run = 4
			wakes(t, "a query of another run", m, wait, f, now, api.Reply{Run: 4, Num: 17, Value: listOf("answer")})

			m, wait = waiting(t, update("x", 1, 3), w)
			wait.Over, wait.Value, wait.Upto = true, listOf("no"), 17
			wakes(t, "an update", m, wait, f, now, api.Reply{Code: api.ErrReject, Run: 1, Value: listOf("no")})
			m, wait = waiting(t, update("u", 2, 3), w) // accepted, so that all else would be said of it
			wait.Over = true
			wakes(t, "an update that was refused with nothing", m, wait, f, now, api.Reply{Code: api.ErrReject, Run: 1})
		}
	}
}

// TestWakeOfWhatIsClosed: what runs no more, or is another run, brings no answer.
func TestWakeOfWhatIsClosed(t *testing.T) {
	w := busy(t)
	closed := api.Reply{Code: api.ErrClosed}
	for _, r := range []api.Request{query(3), update("x", 1, 3), update("u", 2, 3)} {
		for _, now := range []int{math.MinInt, 31, 33, math.MaxInt} {
			m, wait := waiting(t, r, w)
			why := fmt.Sprint("kind ", r.Kind, " at ", now)
			wakes(t, why+", not there", m, wait, found{}, now, closed)
			wakes(t, why+", not there, whatever is handed in", m, wait, found{w.f, false, w.h}, now, closed)
			wakes(t, why+", over", m, wait, over(t), now, closed)
			further := behind(t, start("r1"), terminate("r2"), start("r3"))
			wakes(t, why+", another run", m, wait, further, now, closed)
			for _, run := range []int{math.MinInt, -1, 0, 2, math.MaxInt} {
				wait.Run = run
				wakes(t, why+", a wait of another run", m, wait, w, now, closed)
			}
			wakes(t, why+", no wait", m, api.Wait{}, w, now, closed)
		}
	}
}

// TestWakeByTheState: what the run knows of an update by now is told, also behind its end, and behind the wait's.
func TestWakeByTheState(t *testing.T) {
	w := behind(t, start("r1"))
	brought := busy(t)
	ended := behind(t, start("r1"), poll(), complete(3,
		api.Command{Kind: api.CmAccept, Name: "v"},
		api.Command{Kind: api.CmOutcome, Name: "v", Value: listOf("out")},
		api.Command{Kind: api.CmComplete}))
	other := update("u", 1, 3)
	other.Value = listOf("other")
	for _, c := range []struct {
		why string
		r   api.Request
		f   found
		x   api.Reply
	}{
		{"accepted", update("u", 1, 3), brought, api.Reply{Run: 1, Num: 1}},
		{"has its outcome", update("v", 2, 3), brought, api.Reply{Run: 1, Num: 2, Value: listOf("out")}},
		{"more than was asked for", update("v", 1, 3), brought, api.Reply{Run: 1, Num: 2, Value: listOf("out")}},
		{"another one of that name", other, brought, api.Reply{Code: api.ErrMismatch}},
		{"over, with its outcome", update("v", 2, 3), ended, api.Reply{Run: 1, Num: 2, Value: listOf("out")}},
		{"over, without", update("u", 2, 3), ended, api.Reply{Code: api.ErrClosed}},
	} {
		for _, now := range []int{math.MinInt, 31, 33, 34, math.MaxInt} {
			m, wait := waiting(t, c.r, w)
			wakes(t, fmt.Sprint(c.why, " at ", now), m, wait, c.f, now, c.x)
		}
	}
}

// TestWakeInTime: what waits, waits on until its time is there.
func TestWakeInTime(t *testing.T) {
	w := busy(t)
	for _, r := range []api.Request{query(3), update("x", 1, 3), update("u", 2, 3)} {
		m, wait := waiting(t, r, w)
		for _, now := range []int{math.MinInt, -1, 0, 30, 31, 32} {
			want := m
			want.Now, want.LSN = now, 15
			got := Wake(m, wait, w.f, true, now, 15)
			same(t, fmt.Sprint("kind ", r.Kind, " at ", now), got, want)
			same(t, "its wait", Waiting(got), wait)
		}
		for _, now := range []int{33, 34, math.MaxInt} {
			wakes(t, fmt.Sprint("kind ", r.Kind, " at ", now), m, wait, w, now, api.Reply{Code: api.ErrLate})
		}
	}
	m := Look(New(7, query(0)), w.f, true, 4, w.h, 30, 9, nil)
	wakes(t, "no wait at all", m, Waiting(m), w, 30, api.Reply{Code: api.ErrLate})
	m = Look(New(7, query(5)), w.f, true, 4, w.h, math.MaxInt-1, 9, nil)
	if n := Wake(m, Waiting(m), w.f, true, math.MaxInt-1, 9); n.Phase != api.PhWait {
		t.Error("a wait to the end of int:", n)
	}
	wakes(t, "the end of int", m, Waiting(m), w, math.MaxInt, api.Reply{Code: api.ErrLate})
}

func TestSynced(t *testing.T) {
	for _, lsn := range numbers {
		for _, durable := range append([]int{lsn}, numbers...) {
			m, want := full(t, api.PhSync), full(t, api.PhSync)
			m.LSN, want.LSN = lsn, lsn
			if durable >= lsn {
				want.Phase = api.PhReply
			}
			same(t, fmt.Sprint(durable, " of ", lsn), Synced(m, durable), want)
		}
	}
	for durable, phase := range map[int]int{19: api.PhSync, 20: api.PhReply, 21: api.PhReply} {
		if m := Synced(full(t, api.PhSync), durable); m.Phase != phase {
			t.Error(durable, m.Phase)
		}
	}
}

// stepped steps an operation as layer 33 does, with so many conflicts ahead of a commit, and gives it, its steps, and its conflicts.
func stepped(t *testing.T, r api.Request, w found, conflicts int) (m api.Machine, steps, met int) {
	t.Helper()
	for m = New(7, r); steps < 50; steps++ {
		switch m.Phase {
		case api.PhLoad:
			m = Look(m, w.f, w.there, 4, w.h, 30, 9, nil)
		case api.PhCommit:
			e := api.OK
			if met < conflicts {
				e = api.ErrVersion
				met++
			}
			m = Committed(m, 10, e)
		case api.PhSync:
			m = Synced(m, m.LSN)
		case api.PhReply:
			return m, steps + 1, met
		default:
			t.Fatalf("in %d", m.Phase)
		}
	}
	t.Fatal("it never ends")
	return m, steps, met
}

// TestMost: so many steps are needed, and no more (P31.8).
func TestMost(t *testing.T) {
	if Most() != 10 || Most() != (api.Retries+1)*2+2 {
		t.Error(Most())
	}
	most := 0
	for conflicts := range 9 {
		for _, r := range []api.Request{start("x"), describe(), {}, signal("x")} {
			m, steps, met := stepped(t, r, found{}, conflicts)
			most = max(most, steps)
			if r.Kind != api.OpStart {
				if steps != 3 || met != 0 {
					t.Errorf("kind %d, behind %d conflicts: %d steps", r.Kind, conflicts, steps)
				}
				continue
			}
			want := api.Reply{Run: 1}
			if conflicts > api.Retries {
				want = api.Reply{Code: api.ErrBusy}
			}
			if same(t, fmt.Sprint(conflicts, " conflicts"), m.Reply, want); steps != 2*min(conflicts+1, 4)+2 || met != min(conflicts, 4) {
				t.Errorf("%d conflicts: %d steps, %d met", conflicts, steps, met)
			}
		}
	}
	if most != Most() {
		t.Errorf("%d steps were needed, %d are told", most, Most())
	}
}

// TestTheExample: a start that meets four conflicts in a row.
func TestTheExample(t *testing.T) {
	m := New(1, start("x"))
	for i := range 4 {
		if m.Phase != api.PhLoad || m.Tries != i {
			t.Fatalf("ahead of look %d: %+v", i, m)
		}
		m = Look(m, api.Flow{}, false, i, nil, 3+i, 7+i, nil)
		if m.Phase != api.PhCommit || m.Version != i || m.Now != 3+i || !m.Plan.Changed {
			t.Fatalf("look %d: %+v", i, m)
		}
		m = Committed(m, 50, api.ErrVersion)
	}
	want := api.Machine{Op: 1, Phase: api.PhSync, Tries: 4, Now: 6, Version: 3, LSN: 10, Request: start("x"), Reply: api.Reply{Code: api.ErrBusy}}
	same(t, "four conflicts", m, want)
}
