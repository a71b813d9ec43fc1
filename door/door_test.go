package door

import (
	"bytes"
	"fmt"
	"math"
	"reflect"
	"testing"

	"usher/api"
	"usher/branch"
	"usher/disk"
	"usher/machine"
	"usher/names"
	"usher/rowcode"
	"usher/store"
	"usher/waits"
)

var numbers = []int{math.MinInt, math.MinInt + 1, -1, 0, 1, 2, 7, 8, math.MaxInt - 1, math.MaxInt}

// listOf gives a value that has memory of its own.
func listOf(s string) api.Value {
	return api.Value{Kind: api.VList, List: []api.Value{{Kind: api.VText, Text: s}}}
}

func start(flow, request string) api.Request {
	return api.Request{Kind: api.OpStart, Flow: flow, Request: request, Name: "t", Value: listOf("in")}
}

func signal(flow, request string) api.Request {
	return api.Request{Kind: api.OpSignal, Flow: flow, Request: request, Name: "s", Value: listOf("s")}
}

func terminate(flow, request string) api.Request {
	return api.Request{Kind: api.OpTerminate, Flow: flow, Request: request}
}

func query(flow string, wait int) api.Request {
	return api.Request{Kind: api.OpQuery, Flow: flow, Name: "q", Value: listOf("asked"), Wait: wait}
}

func update(flow, request string, stage, wait int) api.Request {
	return api.Request{Kind: api.OpUpdate, Flow: flow, Request: request, Value: listOf(request), Num: stage, Wait: wait}
}

func describe(flow string) api.Request {
	return api.Request{Kind: api.OpDescribe, Flow: flow}
}

func poll(flow string) api.Request {
	return api.Request{Kind: api.OpPoll, Flow: flow, Num: 10}
}

func complete(flow string, run, num int, l ...api.Command) api.Request {
	return api.Request{Kind: api.OpComplete, Flow: flow, Run: run, Num: num, Commands: l}
}

// answers gives a completion of no task that answers these queries.
func answers(flow string, run int, ops ...int) api.Request {
	r := complete(flow, run, 0)
	for _, op := range ops {
		r.Answers = append(r.Answers, api.Answer{Op: op, Value: listOf(fmt.Sprint("answer to ", op))})
	}
	return r
}

func same(t *testing.T, why string, got, want any) {
	t.Helper()
	if !reflect.DeepEqual(got, want) {
		t.Errorf("%s:\n%+v, not\n%+v", why, got, want)
	}
}

// server is a door, the disk below it, and a clock.
type server struct {
	*testing.T
	*Door
	disk    *disk.Disk
	op, now int
}

func up(t *testing.T) *server {
	t.Helper()
	d, e := disk.New(1 << 20)
	if e != api.OK {
		t.Fatal(e)
	}
	v := &server{T: t, disk: d}
	v.open()
	return v
}

// open gives the server a new door over what its disk has.
func (v *server) open() {
	v.Helper()
	s, e := store.Open(v.disk, 4096)
	if e != api.OK {
		v.Fatal("Open:", e)
	}
	if v.Door = New(s); v.Door == nil {
		v.Fatal("no door")
	}
}

// invoke gives a session the next operation.
func (v *server) invoke(session int, r api.Request) int {
	v.Helper()
	v.op++
	if e := v.Invoke(session, v.op, r); e != api.OK {
		v.Fatalf("Invoke(%d, %+v): %d", session, r, e)
	}
	return v.op
}

// step does a session's next step, which must go on.
func (v *server) step(session int) api.Told {
	v.Helper()
	told := v.Step(session, v.now)
	if told.Code != api.OK {
		v.Fatalf("Step(%d): %+v", session, told)
	}
	return told
}

// phase gives where a session's operation is; PhNone, if it has none.
func (v *server) phase(session int) int {
	m, _ := v.Machine(session)
	return m.Phase
}

// invoked gives a session an operation, and steps it up to that phase.
func (v *server) invoked(session int, r api.Request, phase int) int {
	v.Helper()
	op := v.invoke(session, r)
	for v.phase(session) != phase {
		if v.step(session).Done {
			v.Fatalf("%+v has no phase %d", r, phase)
		}
	}
	return op
}

// reply steps a session's operation to its end.
func (v *server) reply(session int) api.Reply {
	v.Helper()
	for range machine.Most() {
		if told := v.step(session); told.Done {
			return told.Reply
		}
	}
	v.Fatalf("session %d is not told its reply", session)
	return api.Reply{}
}

// does gives a session an operation, and steps it to its end.
func (v *server) does(session int, r api.Request) api.Reply {
	v.Helper()
	v.invoke(session, r)
	return v.reply(session)
}

// did is as does, of an operation that is told OK.
func (v *server) did(session int, r api.Request) api.Reply {
	v.Helper()
	x := v.does(session, r)
	if x.Code != api.OK {
		v.Fatalf("%+v: told %+v", r, x)
	}
	return x
}

func (v *server) wait(op int) api.Wait {
	v.Helper()
	w, ok := waits.Find(v.Waits(), op)
	if !ok {
		v.Fatalf("%d does not wait", op)
	}
	return w
}

// stop lets the disk die of its next change, and the store see that.
func (v *server) stop() {
	v.Helper()
	if e := v.disk.Fuse(0); e != api.OK {
		v.Fatal(e)
	}
	if e := v.Store().Sync(); e != api.ErrDead || !v.Stopped() {
		v.Fatal("not stopped:", e)
	}
}

func TestNew(t *testing.T) {
	if New(nil) != nil || New(&store.Store{}) != nil {
		t.Error("a door over nothing")
	}
	v := up(t)
	if v.Stopped() || v.Store() == nil || len(v.Waits()) != 0 {
		t.Error("a new door is not empty")
	}
	for session := range api.MaxSessions {
		if m, has := v.Machine(session); has || !reflect.DeepEqual(m, api.Machine{}) {
			t.Error("a new door has a machine", m)
		}
	}
	v.stop()
	if d := New(v.Store()); d == nil || !d.Stopped() || d.Store() != v.Store() {
		t.Error("no door over a store that has stopped")
	}
	one, two := New(v.Store()), New(v.Store())
	if one == two || one == v.Door {
		t.Error("two doors are one")
	}
}

func TestNoDoor(t *testing.T) {
	for why, d := range map[string]*Door{"nil": nil, "the zero one": {}} {
		for _, session := range numbers {
			if e := d.Invoke(session, 1, start("a", "x")); e != api.ErrNil {
				t.Errorf("%s: Invoke(%d): %d", why, session, e)
			}
			same(t, why+": Step", d.Step(session, 0), api.Told{Code: api.ErrNil})
			m, has := d.Machine(session)
			same(t, why+": Machine", m, api.Machine{})
			if has {
				t.Error(why, "has a machine")
			}
		}
		if len(d.Waits()) != 0 || d.Checkpoint() != api.ErrNil || !d.Stopped() || d.Store() != nil {
			t.Error(why, d.Waits(), d.Checkpoint(), d.Stopped(), d.Store())
		}
	}
}

func TestInvoke(t *testing.T) {
	for _, r := range []api.Request{{}, start("a", "x"), query("", -1), complete("\xff", math.MinInt, math.MaxInt, api.Command{Kind: 99})} {
		v := up(t)
		for i, session := range []int{0, 1, api.MaxSessions - 1} {
			op := numbers[i]
			if e := v.Invoke(session, op, r); e != api.OK {
				t.Fatalf("Invoke(%d): %d", session, e)
			}
			m, has := v.Machine(session)
			same(t, "Machine", m, machine.New(op, r))
			if !has {
				t.Error("no machine in", session)
			}
			if e := v.Invoke(session, 9, start("b", "y")); e != api.ErrSession {
				t.Errorf("Invoke(%d) of one that has a machine: %d", session, e)
			}
			m, _ = v.Machine(session)
			same(t, "Machine behind a further one", m, machine.New(op, r))
		}
		for _, session := range []int{math.MinInt, -1, api.MaxSessions, 1 << 32, math.MaxInt} {
			if e := v.Invoke(session, 9, r); e != api.ErrSession {
				t.Errorf("Invoke(%d): %d", session, e)
			}
			if m, has := v.Machine(session); has || !reflect.DeepEqual(m, api.Machine{}) {
				t.Errorf("Machine(%d): %+v", session, m)
			}
		}
		if m, has := v.Machine(2); has {
			t.Error("a session that nobody asked for", m)
		}
	}
}

// TestErrorsInTheirOrder: of a store that has stopped a session is asked for first.
func TestErrorsInTheirOrder(t *testing.T) {
	v := up(t)
	v.invoked(1, start("a", "x"), api.PhCommit)
	before, _ := v.Machine(1)
	v.stop()
	for session, want := range map[int]api.Errno{0: api.ErrDead, api.MaxSessions - 1: api.ErrDead, 1: api.ErrSession, -1: api.ErrSession, api.MaxSessions: api.ErrSession} {
		if e := v.Invoke(session, 9, describe("a")); e != want {
			t.Errorf("Invoke(%d): %d, not %d", session, e, want)
		}
	}
	for session, want := range map[int]api.Errno{0: api.ErrSession, 1: api.ErrDead, -1: api.ErrSession, api.MaxSessions: api.ErrSession, math.MinInt: api.ErrSession, math.MaxInt: api.ErrSession} {
		same(t, fmt.Sprint("Step of ", session), v.Step(session, 5), api.Told{Code: want})
	}
	if _, has := v.Machine(0); has {
		t.Error("a machine that was refused")
	}
	m, _ := v.Machine(1)
	same(t, "a machine of a store that has stopped", m, before)
	if e := v.Checkpoint(); e != api.ErrDead {
		t.Error("Checkpoint:", e)
	}
}

func TestStepOfNoMachine(t *testing.T) {
	v := up(t)
	v.invoke(3, start("a", "x"))
	for _, session := range []int{math.MinInt, -1, 0, 2, 4, 7, 8, math.MaxInt} {
		same(t, fmt.Sprint("Step of ", session), v.Step(session, 0), api.Told{Code: api.ErrSession})
	}
}

// TestLookOfNone: of a workflow that is not there.
func TestLookOfNone(t *testing.T) {
	v := up(t)
	v.did(7, start("other", "x"))
	lsn := v.Store().LSN()
	for session, c := range []struct {
		r     api.Request
		phase int
		code  api.Errno
	}{
		{start("a", "x"), api.PhCommit, api.OK},
		{signal("a", "x"), api.PhSync, api.ErrNone},
		{describe("a"), api.PhSync, api.ErrNone},
		{query("a", 3), api.PhSync, api.ErrNone},
		{api.Request{}, api.PhSync, api.ErrArg},
		{api.Request{Kind: api.OpDescribe}, api.PhSync, api.ErrArg},
	} {
		op := v.invoke(session, c.r)
		told := v.Step(session, 5)
		want := api.Told{Op: op}
		if c.phase == api.PhSync {
			want.In, want.Entry = true, api.Entry{Op: op, Now: 5, LSN: lsn}
		}
		same(t, fmt.Sprint("Step of ", session), told, want)
		m, has := v.Machine(session)
		looked := machine.Look(machine.New(op, c.r), api.Flow{}, false, 0, nil, 5, lsn, nil)
		same(t, fmt.Sprint("Machine of ", session), m, looked)
		if !has || m.Phase != c.phase || m.Reply.Code != c.code {
			t.Errorf("%+v: %+v", c.r, m)
		}
	}
}

// TestLookOfOne: of a workflow that is there, with what waits for its last run.
func TestLookOfOne(t *testing.T) {
	v := up(t)
	v.did(0, start("a", "x"))
	v.did(0, terminate("a", "end"))
	v.did(0, start("a", "y"))
	v.did(0, signal("a", "z"))
	v.did(0, start("b", "x"))
	one := v.invoked(1, update("a", "u", 2, 100), api.PhWait)
	v.invoked(2, update("b", "other", 2, 100), api.PhWait)
	v.invoked(3, query("a", 100), api.PhWait)
	v.invoked(4, update("a", "u", 1, 100), api.PhWait)
	two := v.invoked(5, update("a", "w", 1, 100), api.PhWait)
	asks := []api.Ask{{Op: one, Name: "u", Value: listOf("u")}, {Op: two, Name: "w", Value: listOf("w")}}

	row, version := v.Store().Get("w/a")
	f, e := rowcode.Decode(row)
	h, code := branch.Read(v.Store().Events("h/a/2"))
	if e != api.OK || code != api.OK || version != 4 || f.Runs != 2 || len(h) != 3 {
		t.Fatal(e, code, version, f, h)
	}
	for _, r := range []api.Request{signal("a", "more"), signal("a", "z"), describe("a"), poll("a"), start("a", "x"), start("a", "new"), {Kind: api.OpFire, Flow: "a"}} {
		op := v.invoke(0, r)
		told := v.Step(0, 6)
		want := machine.Look(machine.New(op, r), f, true, version, h, 6, v.Store().LSN(), asks)
		m, _ := v.Machine(0)
		same(t, "Machine", m, want)
		if len(m.Asks) != 2 || m.Version != 4 || m.LSN != 5 {
			t.Errorf("%+v", m)
		}
		if told.In != (m.Phase == api.PhSync) || told.In && !reflect.DeepEqual(told.Entry, api.Entry{Op: op, Now: 6, LSN: 5, Asks: asks}) {
			t.Errorf("%+v: told %+v", r, told)
		}
		delete(v.machines, 0)
	}
}

// TestLookThatWaits: it stands among those that wait, and is not in.
func TestLookThatWaits(t *testing.T) {
	v := up(t)
	v.did(0, start("a", "x"))
	v.now = 3
	for session, c := range []struct {
		r    api.Request
		want api.Wait
	}{
		{query("a", 9), api.Wait{Run: 1, Seen: 2, Flow: "a", Name: "q", Asked: listOf("asked"), Query: true}},
		{update("a", "u", 2, 9), api.Wait{Run: 1, Flow: "a", Name: "u", Asked: listOf("u")}},
	} {
		op := v.invoke(session, c.r)
		same(t, "Step", v.step(session), api.Told{Op: op})
		m, _ := v.Machine(session)
		if m.Phase != api.PhWait || m.Until != 12 || m.Reply.Code != api.ErrWaits {
			t.Errorf("%+v", m)
		}
		c.want.Op = op
		same(t, "the wait", v.wait(op), c.want)
		for range 20 {
			same(t, "Step of one that waits", v.step(session), api.Told{Op: op})
			m, _ := v.Machine(session)
			if m.Phase != api.PhWait || m.Now != 3 {
				t.Errorf("%+v", m)
			}
		}
	}
	if l := v.Waits(); len(l) != 2 || !l[0].Query || l[1].Name != "u" {
		t.Error(l)
	}
}

func TestCommit(t *testing.T) {
	v := up(t)
	v.did(0, start("b", "x"))
	v.now = 4
	op := v.invoked(2, start("a", "x"), api.PhCommit)
	if _, version := v.Store().Get("w/a"); version != 0 {
		t.Error("it was committed by its look")
	}
	v.now = 9
	same(t, "Step", v.step(2), api.Told{Op: op, In: true, Entry: api.Entry{Op: op, Now: 4, LSN: 2, Commit: true}})
	m, _ := v.Machine(2)
	if m.Phase != api.PhSync || m.LSN != 2 || m.Now != 4 || m.Reply.Code != api.OK || m.Reply.Run != 1 {
		t.Errorf("%+v", m)
	}
	row, version := v.Store().Get("w/a")
	if f, e := rowcode.Decode(row); e != api.OK || version != 1 || f.Name != "a" || f.State.Time != 4 {
		t.Error(f, e, version)
	}
	if h, e := branch.Read(v.Store().Events("h/a/1")); e != api.OK || len(h) != 2 {
		t.Error(h, e)
	}
	if v.Store().Durable() != 1 {
		t.Error("it is sure already:", v.Store().Durable())
	}
}

// TestTheExample: two starts of one workflow.
func TestTheExample(t *testing.T) {
	v := up(t)
	one, two := v.invoked(0, start("a", "x"), api.PhCommit), v.invoked(1, start("a", "y"), api.PhCommit)
	same(t, "the first one commits", v.step(0), api.Told{Op: one, In: true, Entry: api.Entry{Op: one, LSN: 1, Commit: true}})
	same(t, "the second one meets a conflict", v.step(1), api.Told{Op: two})
	if m, _ := v.Machine(1); m.Phase != api.PhLoad || m.Tries != 1 || m.Plan.Changed {
		t.Errorf("%+v", m)
	}
	same(t, "it looks again", v.step(1), api.Told{Op: two, In: true, Entry: api.Entry{Op: two, LSN: 1}})
	if x, y := v.reply(1), v.reply(0); x.Code != api.ErrStarted || y.Code != api.OK || y.Run != 1 {
		t.Error(x, y)
	}
}

// TestConflicts: behind four of them nothing has changed.
func TestConflicts(t *testing.T) {
	v := up(t)
	v.did(0, start("a", "x"))
	op := v.invoke(1, signal("a", "late"))
	for i := range api.Retries + 1 {
		same(t, "a look", v.step(1), api.Told{Op: op})
		v.did(0, signal("a", fmt.Sprint("s", i)))
		told := v.step(1)
		want := api.Told{Op: op}
		if i == api.Retries {
			want.In, want.Entry = true, api.Entry{Op: op, LSN: 4}
		}
		same(t, fmt.Sprint("conflict ", i), told, want)
		if m, _ := v.Machine(1); m.Tries != i+1 || m.Plan.Changed {
			t.Errorf("%+v", m)
		}
	}
	if x := v.reply(1); !reflect.DeepEqual(x, api.Reply{Code: api.ErrBusy}) {
		t.Error(x)
	}
	if x := v.did(0, describe("a")); x.State.Signals != api.Retries+1 {
		t.Errorf("%+v", x)
	}
}

// TestCommitThatIsFull: the operation is told the error, with the store's LSN, and nothing has changed.
func TestCommitThatIsFull(t *testing.T) {
	v := up(t)
	v.did(0, start("a", "x"))
	v.did(0, start("b", "x"))
	op := v.invoked(0, signal("a", "s"), api.PhCommit)
	v.did(1, signal("b", "s"))
	before := v.Store().Image()
	if e := v.disk.Room(v.disk.Used()); e != api.OK {
		t.Fatal(e)
	}
	same(t, "Step", v.step(0), api.Told{Op: op, In: true, Entry: api.Entry{Op: op, LSN: 3}})
	m, _ := v.Machine(0)
	if m.Phase != api.PhSync || m.LSN != 3 || m.Plan.Changed {
		t.Errorf("%+v", m)
	}
	if x := v.reply(0); !reflect.DeepEqual(x, api.Reply{Code: api.ErrFull}) {
		t.Error(x)
	}
	if !bytes.Equal(v.Store().Image(), before) || v.Stopped() {
		t.Error("something has changed")
	}
	v.disk.Room(1 << 20)
	v.did(0, signal("a", "s"))
}

// TestCommitOfNoBatch: a row of which nobody can make a workflow that may be.
func TestCommitOfNoBatch(t *testing.T) {
	v := up(t)
	if _, e := v.Store().Commit(api.Batch{Key: names.Row("a"), Row: []byte("none")}); e != api.OK {
		t.Fatal(e)
	}
	op := v.invoke(0, start("a", "x"))
	v.step(0)
	m, _ := v.Machine(0)
	if _, e := machine.Batch(m); m.Phase != api.PhCommit || e != api.ErrArg || m.Version != 1 {
		t.Fatalf("%+v, %d", m, e)
	}
	same(t, "Step", v.step(0), api.Told{Op: op, In: true, Entry: api.Entry{Op: op, LSN: 1}})
	if x := v.reply(0); !reflect.DeepEqual(x, api.Reply{Code: api.ErrArg}) {
		t.Error(x)
	}
	if row, version := v.Store().Get("w/a"); string(row) != "none" || version != 1 {
		t.Error(row, version)
	}
}

// TestCommitWhereTheDiskStops: nothing is told of what may be there or not.
func TestCommitWhereTheDiskStops(t *testing.T) {
	v := up(t)
	v.did(0, start("a", "x"))
	op := v.invoked(0, signal("a", "s"), api.PhCommit)
	before, _ := v.Machine(0)
	v.disk.Fuse(0)
	if v.Stopped() {
		t.Error("it has stopped already")
	}
	same(t, "Step", v.Step(0, 9), api.Told{Code: api.ErrDead, Op: op})
	m, has := v.Machine(0)
	same(t, "the machine", m, before)
	if !has || !v.Stopped() || v.Store().LSN() != 1 {
		t.Error(has, v.Stopped(), v.Store().LSN())
	}
	same(t, "Step once more", v.Step(0, 9), api.Told{Code: api.ErrDead})
}

func TestSync(t *testing.T) {
	v := up(t)
	v.did(0, start("b", "x"))
	op := v.invoked(0, start("a", "x"), api.PhSync)
	if v.Store().Durable() != 1 || v.Store().LSN() != 2 {
		t.Fatal(v.Store().Durable(), v.Store().LSN())
	}
	before, _ := v.Machine(0)
	same(t, "Step", v.step(0), api.Told{Op: op})
	m, _ := v.Machine(0)
	if before.Phase = api.PhReply; v.Store().Durable() != 2 {
		t.Error("it is not sure")
	}
	same(t, "the machine", m, before)
}

// TestSyncOfWhatIsSure: where nothing is to be synced, nothing is.
func TestSyncOfWhatIsSure(t *testing.T) {
	v := up(t)
	v.did(0, start("a", "x"))
	v.invoked(0, describe("a"), api.PhSync)
	v.invoked(1, signal("a", "s"), api.PhSync) // not sure, but the other one looked ahead of it
	v.disk.Fuse(0)
	v.step(0)
	if v.phase(0) != api.PhReply || v.Stopped() || v.Store().Durable() != 1 {
		t.Error(v.phase(0), v.Stopped(), v.Store().Durable())
	}
	if x := v.step(0); !x.Done || x.Reply.State.Signals != 0 {
		t.Errorf("%+v", x)
	}
}

// TestWhatALookSaw: an operation that saw what is not sure yet syncs it ahead of telling.
func TestWhatALookSaw(t *testing.T) {
	v := up(t)
	v.did(0, start("a", "x"))
	v.invoked(1, signal("a", "s"), api.PhSync)
	v.invoked(0, describe("a"), api.PhSync)
	if x := v.reply(0); x.State.Signals != 1 || v.Store().Durable() != 2 {
		t.Errorf("%+v, %d", x, v.Store().Durable())
	}
}

func TestSyncWhereTheDiskStops(t *testing.T) {
	v := up(t)
	op := v.invoked(0, start("a", "x"), api.PhSync)
	before, _ := v.Machine(0)
	v.disk.Fuse(0)
	same(t, "Step", v.Step(0, 9), api.Told{Code: api.ErrDead, Op: op})
	m, has := v.Machine(0)
	same(t, "the machine", m, before)
	if !has || !v.Stopped() {
		t.Error(has, v.Stopped())
	}
	same(t, "Step once more", v.Step(0, 9), api.Told{Code: api.ErrDead})
}

func TestReply(t *testing.T) {
	v := up(t)
	op := v.invoked(7, start("a", "x"), api.PhReply)
	other := v.invoke(6, describe("a"))
	m, _ := v.Machine(7)
	told := v.step(7)
	same(t, "Step", told, api.Told{Op: op, Done: true, Reply: m.Reply})
	if told.Reply.Run != 1 {
		t.Error(told)
	}
	if m, has := v.Machine(7); has || !reflect.DeepEqual(m, api.Machine{}) {
		t.Errorf("%+v", m)
	}
	if m, has := v.Machine(6); !has || m.Op != other {
		t.Errorf("another session's: %+v", m)
	}
	same(t, "Step of one that is done", v.Step(7, 0), api.Told{Code: api.ErrSession})
	v.did(7, describe("a"))
}

// TestNow: the time is the step's in which it looked, whatever that is.
func TestNow(t *testing.T) {
	for _, now := range numbers {
		v := up(t)
		for session, r := range []api.Request{start("a", "x"), describe("a"), {}} {
			op := v.invoke(session, r)
			v.now = now
			told := v.step(session)
			if m, _ := v.Machine(session); m.Now != now || told.Op != op || told.In != (session > 0) || told.In && told.Entry.Now != now {
				t.Errorf("%+v, %+v", m, told)
			}
			v.now = 0
		}
		v.reply(0)
	}
}

func TestOthers(t *testing.T) {
	v := up(t)
	v.did(0, start("a", "x"))
	if v.Store() != v.Door.store || v.Stopped() {
		t.Error(v.Store(), v.Stopped())
	}
	v.did(0, signal("a", "s"))
	lsn, used := v.Store().LSN(), v.disk.Used()
	v.invoked(0, signal("a", "t"), api.PhCommit)
	if e := v.Checkpoint(); e != api.OK || v.Store().LSN() != lsn || v.disk.Used() == used || v.phase(0) != api.PhCommit {
		t.Error(e, v.Store().LSN(), v.phase(0))
	}
	v.reply(0)
	v.disk.Room(v.disk.Used())
	if e := v.Checkpoint(); e != api.ErrFull || v.Stopped() {
		t.Error(e)
	}
	v.disk.Fuse(0)
	v.disk.Room(1 << 20)
	if e := v.Checkpoint(); e != api.ErrDead || !v.Stopped() {
		t.Error(e)
	}
}

// TestTwoDoors: sessions are a door's own, the store is what both have.
func TestTwoDoors(t *testing.T) {
	v := up(t)
	other := New(v.Store())
	v.invoke(0, start("a", "x"))
	if _, has := other.Machine(0); has {
		t.Error("one door's machine is another one's")
	}
	v.reply(0)
	other.Invoke(0, 9, query("a", 5))
	other.Step(0, 0)
	if len(v.Waits()) != 0 || len(other.Waits()) != 1 {
		t.Error(v.Waits(), other.Waits())
	}
}
