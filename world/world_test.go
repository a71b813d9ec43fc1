package world

import (
	"bytes"
	"math"
	"reflect"
	"testing"

	"usher/api"
	"usher/disk"
	"usher/door"
	"usher/reqcode"
	"usher/rows"
	"usher/store"
)

// numbers are those at the ends of what an int may be, and small ones.
var numbers = []int{math.MinInt, math.MinInt + 1, -1, 0, 1, 7, 8, math.MaxInt - 1, math.MaxInt}

// kinds are those of all steps, and the last one of none.
var kinds = []int{api.StepInvoke, api.StepStep, api.StepTick, api.StepCrash, api.StepOpen, api.StepFuse, api.StepCheckpoint, api.StepRoom, 0}

// listOf gives a value that has memory of its own.
func listOf(s string) api.Value {
	return api.Value{Kind: api.VList, List: []api.Value{{Kind: api.VText, Text: s}}}
}

func start(flow, request string) api.Request {
	return api.Request{Kind: api.OpStart, Flow: flow, Request: request, Name: "t", Value: listOf("in")}
}

func signal(flow, request string) api.Request {
	return api.Request{Kind: api.OpSignal, Flow: flow, Request: request, Name: "s", Value: listOf("s")}
}

func query(flow string, wait int) api.Request {
	return api.Request{Kind: api.OpQuery, Flow: flow, Name: "q", Value: listOf("asked"), Wait: wait}
}

func update(flow, request string, stage, wait int) api.Request {
	return api.Request{Kind: api.OpUpdate, Flow: flow, Request: request, Value: listOf(request), Num: stage, Wait: wait}
}

func describe(flow string) api.Request {
	return api.Request{Kind: api.OpDescribe, Flow: flow}
}

func poll(flow string) api.Request {
	return api.Request{Kind: api.OpPoll, Flow: flow, Num: 10}
}

func complete(flow string, run, num int, l ...api.Command) api.Request {
	return api.Request{Kind: api.OpComplete, Flow: flow, Run: run, Num: num, Commands: l}
}

func same(t *testing.T, why string, got, want any) {
	t.Helper()
	if !reflect.DeepEqual(got, want) {
		t.Errorf("%s:\n%+v, not\n%+v", why, got, want)
	}
}

// stage is a world that is looked at.
type stage struct {
	*testing.T
	*World
}

func newStage(t *testing.T, room, size int) *stage {
	t.Helper()
	w, e := New(room, size)
	if e != api.OK || w == nil || !w.Up() {
		t.Fatalf("New(%d, %d): %d", room, size, e)
	}
	return &stage{t, w}
}

func up(t *testing.T) *stage {
	t.Helper()
	return newStage(t, 1<<20, 4096)
}

// bytesOf gives a request's bytes.
func (w *stage) bytesOf(r api.Request) []byte {
	w.Helper()
	b, e := reqcode.Request(r)
	if e != api.OK {
		w.Fatalf("%+v has no bytes: %d", r, e)
	}
	return b
}

// tells complains unless what a step tells is that code alone.
func (w *stage) tells(code api.Errno, s api.Step) {
	w.Helper()
	if got, want := w.Do(s), (api.Told{Code: code}); !reflect.DeepEqual(got, want) {
		w.Errorf("%+v tells %+v, not %d", s, got, code)
	}
}

func (w *stage) asked(session int, r api.Request) api.Told {
	w.Helper()
	return w.Do(api.Step{Kind: api.StepInvoke, Session: session, Bytes: w.bytesOf(r)})
}

// invoke gives a session an operation, and tells its number.
func (w *stage) invoke(session int, r api.Request) int {
	w.Helper()
	told := w.asked(session, r)
	if want := (api.Told{Op: len(w.Records())}); !reflect.DeepEqual(told, want) {
		w.Fatalf("%+v of session %d: %+v", r, session, told)
	}
	return told.Op
}

// step does a session's next step, which must go on.
func (w *stage) step(session int) api.Told {
	w.Helper()
	told := w.Do(api.Step{Kind: api.StepStep, Session: session})
	if told.Code != api.OK {
		w.Fatalf("session %d: %+v", session, told)
	}
	return told
}

func (w *stage) phase(session int) int {
	m, _ := w.Door().Machine(session)
	return m.Phase
}

// invoked gives a session an operation, and steps it up to that phase.
func (w *stage) invoked(session int, r api.Request, phase int) int {
	w.Helper()
	op := w.invoke(session, r)
	for w.phase(session) != phase {
		if w.step(session).Done {
			w.Fatalf("%+v has no phase %d", r, phase)
		}
	}
	return op
}

// reply steps a session's operation to its end.
func (w *stage) reply(session int) api.Reply {
	w.Helper()
	for range 20 {
		if told := w.step(session); told.Done {
			return told.Reply
		}
	}
	w.Fatalf("session %d is not told its reply", session)
	return api.Reply{}
}

// does gives a session an operation, and steps it to its end.
func (w *stage) does(session int, r api.Request) api.Reply {
	w.Helper()
	w.invoke(session, r)
	return w.reply(session)
}

// did is as does, of an operation that is told OK.
func (w *stage) did(session int, r api.Request) api.Reply {
	w.Helper()
	x := w.does(session, r)
	if x.Code != api.OK {
		w.Fatalf("%+v is told %+v", r, x)
	}
	return x
}

func (w *stage) tick(n int) {
	w.Helper()
	w.tells(api.OK, api.Step{Kind: api.StepTick, N: n})
}

func (w *stage) crashes(keeps ...int) {
	w.Helper()
	w.tells(api.OK, api.Step{Kind: api.StepCrash, Keeps: keeps})
	if w.Up() || w.Door() != nil || len(w.Image()) != 0 {
		w.Error("behind a crash a server is up")
	}
}

func (w *stage) opens() {
	w.Helper()
	w.tells(api.OK, api.Step{Kind: api.StepOpen})
	if !w.Up() || w.Door() == nil || len(w.Image()) == 0 {
		w.Error("no server is up")
	}
}

// stop lets the disk die of its next change, and the server see that.
func (w *stage) stop() {
	w.Helper()
	w.tells(api.OK, api.Step{Kind: api.StepFuse})
	w.tells(api.ErrDead, api.Step{Kind: api.StepCheckpoint})
}

// ops gives the operations of the order.
func (w *stage) ops() []int {
	var out []int
	for _, e := range w.Order() {
		out = append(out, e.Op)
	}
	return out
}

// TestNew (P35.1): the errors of disk.New, then those of store.Open.
func TestNew(t *testing.T) {
	for _, room := range append([]int{20, 21, 22, 23, 1000, 1 << 24, 1<<24 + 1}, numbers...) {
		for _, size := range numbers {
			d, want := disk.New(room)
			if want == api.OK {
				_, want = store.Open(d, size)
			}
			w, e := New(room, size)
			if e != want || (w == nil) != (e != api.OK) || w.Up() != (e == api.OK) {
				t.Errorf("New(%d, %d): %d, not %d", room, size, e, want)
			}
		}
	}
	for _, x := range []struct {
		room, size int
		want       api.Errno
	}{{-1, 1, api.ErrArg}, {1<<24 + 1, 1, api.ErrArg}, {1 << 24, 0, api.ErrArg}, {0, 1, api.ErrFull}, {21, 1, api.ErrFull}, {22, 1, api.OK}, {21, 0, api.ErrArg}} {
		if _, e := New(x.room, x.size); e != x.want {
			t.Errorf("New(%d, %d): %d, not %d", x.room, x.size, e, x.want)
		}
	}
	w := up(t)
	if w.Now() != 0 || len(w.Records()) != 0 || len(w.Order()) != 0 || w.Door().Store().LSN() != 0 || !bytes.Equal(w.Image(), rows.Encode(api.Rows{})) {
		t.Error("a new world has something")
	}
}

// TestUnmade: each call of a world that no call made.
func TestUnmade(t *testing.T) {
	for _, w := range []*World{nil, {}} {
		for _, kind := range append(kinds, numbers...) {
			for range 2 {
				told := w.Do(api.Step{Kind: kind, N: 1, Bytes: []byte{1}, Keeps: []int{1}})
				same(t, "Do", told, api.Told{Code: api.ErrNil})
			}
		}
		if w.Records() != nil || w.Order() != nil || w.Now() != 0 || w.Up() || w.Door() != nil || w.Image() != nil {
			t.Error("a world that no call made has something")
		}
	}
	w := &World{}
	w.Do(api.Step{Kind: api.StepTick, N: 1})
	same(t, "a world that no call made", *w, World{})
}

// TestExample: the chapter's example, and what is told until a server is up again.
func TestExample(t *testing.T) {
	w := up(t)
	w.invoke(0, start("a", "x"))
	w.crashes()
	for range 3 {
		w.tells(api.ErrDown, api.Step{Kind: api.StepStep})
		w.tells(api.ErrDown, api.Step{Kind: api.StepInvoke, Bytes: w.bytesOf(start("a", "x"))})
	}
	w.opens()
	for range 3 {
		w.tells(api.ErrSession, api.Step{Kind: api.StepStep})
	}
	same(t, "records", w.Records(), []api.Record{{Op: 1, Invoked: 1, Request: start("a", "x")}})
	if len(w.Order()) != 0 {
		t.Error(w.Order())
	}
}

// TestDown: what each kind of step tells with no server up.
func TestDown(t *testing.T) {
	w := up(t)
	w.did(0, start("a", "x"))
	w.crashes()
	for _, b := range [][]byte{nil, {1}, make([]byte, api.MaxStep+1), w.bytesOf(describe("a"))} {
		for _, session := range numbers {
			w.tells(api.ErrDown, api.Step{Kind: api.StepInvoke, Session: session, Bytes: b})
			w.tells(api.ErrDown, api.Step{Kind: api.StepStep, Session: session, Bytes: b})
		}
	}
	w.tells(api.ErrDown, api.Step{Kind: api.StepCheckpoint})
	w.tells(api.ErrArg, api.Step{Kind: api.StepTick, N: -1})
	w.tick(3)
	w.tells(api.ErrArg, api.Step{Kind: api.StepFuse, N: -1})
	w.tells(api.OK, api.Step{Kind: api.StepFuse, N: 5})
	w.tells(api.ErrArg, api.Step{Kind: api.StepRoom, N: -1})
	w.tells(api.OK, api.Step{Kind: api.StepRoom, N: 5})
	w.tells(api.ErrArg, api.Step{Kind: 9})
	w.crashes()
	if w.Now() != 3 || len(w.Records()) != 1 || len(w.Order()) != 1 {
		t.Error("something was done")
	}
	w.opens()
}

// TestInvokeRefused: a request that is none, then what door.Invoke refuses; none of these has a record, and the numbers go on.
func TestInvokeRefused(t *testing.T) {
	w := up(t)
	good := w.bytesOf(start("a", "x"))
	long := append(bytes.Clone(good), make([]byte, api.MaxStep)...)
	for _, session := range numbers {
		for _, x := range []struct {
			b    []byte
			code api.Errno
		}{{nil, api.ErrShort}, {[]byte{}, api.ErrShort}, {good[:len(good)-1], api.ErrShort}, {append(bytes.Clone(good), 0), api.ErrForm}, {[]byte{255}, api.ErrForm}, {long, api.ErrLong}} {
			w.tells(x.code, api.Step{Kind: api.StepInvoke, Session: session, Bytes: x.b})
		}
		if session < 0 || session > 7 {
			w.tells(api.ErrSession, api.Step{Kind: api.StepInvoke, Session: session, Bytes: good})
		}
	}
	if len(w.Records()) != 0 {
		t.Error("what was refused has a record")
	}
	w.tick(2)
	step := w.steps
	for session := range api.MaxSessions {
		r := describe("a")
		if session == 7 {
			r = api.Request{} // it may be written, if not asked
		}
		if op := w.invoke(session, r); op != session+1 {
			t.Errorf("the number %d of session %d", op, session)
		}
		want := api.Record{Op: session + 1, Session: session, Invoked: step + 3*session + 1, From: 2, Request: r}
		same(t, "a record", w.Records()[session], want)
		w.tells(api.ErrSession, api.Step{Kind: api.StepInvoke, Session: session, Bytes: good})
		w.tells(api.ErrShort, api.Step{Kind: api.StepInvoke, Session: session})
	}
	if x := w.reply(7); x.Code != api.ErrArg {
		t.Error(x)
	}
	w.stop()
	w.tells(api.ErrDead, api.Step{Kind: api.StepInvoke, Session: 7, Bytes: good})
	w.tells(api.ErrSession, api.Step{Kind: api.StepInvoke, Session: 6, Bytes: good})
	w.tells(api.ErrShort, api.Step{Kind: api.StepInvoke, Session: 7})
	if len(w.Records()) != 8 {
		t.Error("what was refused has a record")
	}
	w.crashes()
	w.opens()
	if op := w.invoke(7, start("a", "x")); op != 9 {
		t.Error("the numbers don't go on:", op)
	}
}

// TestStepAnswers: of a session that has nothing, of one that is in, of one that is done, of a disk that stops.
func TestStepAnswers(t *testing.T) {
	w := up(t)
	for _, session := range numbers {
		w.tells(api.ErrSession, api.Step{Kind: api.StepStep, Session: session})
	}
	w.tick(3)
	w.invoke(1, start("a", "x"))
	w.tick(2)
	same(t, "a look", w.step(1), api.Told{Op: 1})
	w.tick(2)
	entry := api.Entry{Op: 1, Now: 5, LSN: 1, Commit: true}
	if len(w.Order()) != 0 {
		t.Error("in ahead of its commit")
	}
	same(t, "a commit", w.step(1), api.Told{Op: 1, In: true, Entry: entry})
	same(t, "the order", w.Order(), []api.Entry{entry})
	same(t, "a sync", w.step(1), api.Told{Op: 1})
	if r := w.Records()[0]; r.Replied != 0 || r.To != 0 {
		t.Errorf("told ahead of its reply: %+v", r)
	}
	w.tick(2)
	same(t, "a reply", w.step(1), api.Told{Op: 1, Done: true, Reply: api.Reply{Run: 1}})
	first := api.Record{Op: 1, Session: 1, Invoked: len(numbers) + 2, Replied: w.steps, From: 3, To: 9, Request: start("a", "x"), Reply: api.Reply{Run: 1}}
	same(t, "the records", w.Records(), []api.Record{first})
	w.tells(api.ErrSession, api.Step{Kind: api.StepStep, Session: 1})

	w.invoke(2, describe("b"))
	entry = api.Entry{Op: 2, Now: 9, LSN: 1}
	same(t, "a look that is in", w.step(2), api.Told{Op: 2, In: true, Entry: entry})
	same(t, "the order's end", w.Order()[1], entry)
	w.invoke(3, signal("a", "s"))
	w.step(3)
	w.stop()
	image := w.Image()
	w.tells(api.ErrDead, api.Step{Kind: api.StepStep, Session: 2})
	w.tells(api.ErrDead, api.Step{Kind: api.StepStep, Session: 3})
	w.tells(api.ErrSession, api.Step{Kind: api.StepStep, Session: 4})
	if !w.Up() || !w.Door().Stopped() || !bytes.Equal(w.Image(), image) || len(w.Order()) != 2 || w.Records()[1].Replied != 0 {
		t.Error("something was done on a disk that had stopped")
	}
}

// TestDiskStopsInStep: the operation is told with the error, and is as it was.
func TestDiskStopsInStep(t *testing.T) {
	w := up(t)
	w.invoked(0, start("a", "x"), api.PhCommit)
	w.tells(api.OK, api.Step{Kind: api.StepFuse})
	same(t, "a commit", w.Do(api.Step{Kind: api.StepStep}), api.Told{Code: api.ErrDead, Op: 1})
	if len(w.Order()) != 0 {
		t.Error("what was not done is in the order")
	}
	w.crashes()
	w.opens()
	w.invoked(0, start("a", "x"), api.PhSync)
	w.tells(api.OK, api.Step{Kind: api.StepFuse})
	same(t, "a sync", w.Do(api.Step{Kind: api.StepStep}), api.Told{Code: api.ErrDead, Op: 2})
	same(t, "the order", w.ops(), []int{2})
	w.crashes()
	w.opens()
	if len(w.Order()) != 0 || len(w.Records()) != 2 || w.Records()[1].Replied != 0 {
		t.Error("what was lost is in the order")
	}
}

// TestTick: how far the clock may go at once, and at all.
func TestTick(t *testing.T) {
	w := up(t)
	for _, n := range []int{math.MinInt, -1, api.MaxDelay + 1, api.MaxTime, math.MaxInt} {
		w.tells(api.ErrArg, api.Step{Kind: api.StepTick, N: n})
	}
	if w.Now() != 0 {
		t.Error("a tick that may not be was done")
	}
	w.tick(0)
	for i := range api.MaxTime / api.MaxDelay {
		if w.Now() != i*api.MaxDelay {
			t.Fatal(w.Now())
		}
		if i == api.MaxTime/api.MaxDelay-1 {
			w.tick(1)
			w.tells(api.ErrArg, api.Step{Kind: api.StepTick, N: api.MaxDelay})
			w.tick(api.MaxDelay - 1)
			break
		}
		w.tick(api.MaxDelay)
	}
	for _, n := range []int{-1, 1, 2, api.MaxDelay, api.MaxDelay + 1, math.MaxInt} {
		w.tells(api.ErrArg, api.Step{Kind: api.StepTick, N: n})
	}
	w.tick(0)
	if w.Now() != api.MaxTime {
		t.Error(w.Now())
	}
	r := start("a", "x")
	r.Num = api.MaxDelay
	w.did(0, r)
	w.invoke(1, query("a", 5))
	w.step(1)
	w.step(1)
	if x := w.did(0, describe("a")); x.State.Deadline != api.MaxTime+api.MaxDelay || w.phase(1) != api.PhWait {
		t.Errorf("at the end of time: %+v", x)
	}
	w.crashes()
	w.tells(api.ErrArg, api.Step{Kind: api.StepTick, N: 1})
	w.opens()
	if l := w.Records(); l[0].From != api.MaxTime || l[0].To != api.MaxTime {
		t.Errorf("%+v", l[0])
	}
}

// lost gives a world with one start that was told, and a signal whose commit is not sure.
func lost(t *testing.T) *stage {
	t.Helper()
	w := up(t)
	w.did(0, start("a", "x"))
	w.invoked(0, signal("a", "s"), api.PhSync)
	return w
}

// TestCrashKeeps: how much of what is not sure is left, with Keeps of any kind.
func TestCrashKeeps(t *testing.T) {
	for _, x := range []struct {
		keeps []int
		stays bool
	}{{nil, false}, {[]int{}, false}, {[]int{0}, false}, {[]int{1}, false}, {[]int{math.MinInt}, false}, {[]int{-1, 1000}, false}, {[]int{math.MaxInt}, true}, {[]int{1000, 0}, true}} {
		w := lost(t)
		held := append([]int(nil), x.keeps...)
		w.crashes(x.keeps...)
		if len(w.Order()) != 2 {
			t.Error("what a crash took back is known ahead of opening")
		}
		w.opens()
		if f := w.did(0, describe("a")); (f.State.Signals == 1) != x.stays || (len(w.Order()) == 3) != x.stays {
			t.Errorf("Keeps %v: %+v", x.keeps, f.State)
		}
		same(t, "Keeps", append([]int(nil), x.keeps...), held)
	}
}

// TestCrashTwice: what is left by the first crash is sure, whatever the second one has.
func TestCrashTwice(t *testing.T) {
	w := lost(t)
	w.crashes(1000)
	w.crashes()
	w.opens()
	same(t, "the order", w.ops(), []int{1, 2})
	w = lost(t)
	w.crashes(5)
	w.crashes(1000)
	w.opens()
	same(t, "the order", w.ops(), []int{1})
	w.invoked(0, signal("a", "s"), api.PhSync)
	w.crashes()
	w.opens()
	w.crashes()
	w.crashes()
	w.opens()
	same(t, "the order", w.ops(), []int{1})
}

// TestCrashCutsOff: nothing is under way behind a crash, and whoever still holds the server changes nothing by it.
func TestCrashCutsOff(t *testing.T) {
	w := up(t)
	w.did(0, start("a", "x"))
	w.invoked(1, query("a", 100), api.PhWait)
	w.invoked(2, signal("a", "s"), api.PhCommit)
	old, image := w.Door(), w.Image()
	w.crashes()
	for range 9 {
		old.Step(2, 0)
	}
	old.Checkpoint()
	w.opens()
	if _, busy := w.Door().Machine(1); busy || len(w.Door().Waits()) != 0 || !bytes.Equal(w.Image(), image) {
		t.Error("something is under way behind a crash")
	}
	old.Invoke(0, 9, signal("a", "s"))
	for range 9 {
		old.Step(0, 0)
	}
	w.did(0, signal("a", "z"))
	w.crashes()
	w.opens()
	if x := w.did(0, describe("a")); x.State.Signals != 1 {
		t.Error("a server that was cut off changed something:", x.State)
	}
}

// TestOpenTakesBack: which entries are taken from the order.
func TestOpenTakesBack(t *testing.T) {
	for keep, want := range map[int][]int{0: {1, 2}, 100000: {1, 2, 3, 5}} {
		w := up(t)
		w.did(0, start("a", "x"))                     // 1: told
		w.does(0, describe("b"))                      // 2: no commit, but told
		w.invoked(0, signal("a", "s"), api.PhSync)    // 3: a commit that is not sure
		w.invoked(1, describe("a"), api.PhSync)       // 4: no commit, not told
		w.invoked(2, signal("a", "s2"), api.PhSync)   // 5: as 3
		w.invoked(3, describe("b"), api.PhSync)       // 6: as 4
		w.invoked(4, signal("a", "s3"), api.PhCommit) // 7: not in
		same(t, "the order", w.ops(), []int{1, 2, 3, 4, 5, 6})
		order, records := w.Order(), w.Records()
		w.crashes(keep)
		same(t, "the order of a server that is down", w.Order(), order)
		w.opens()
		same(t, "the order", w.ops(), want)
		for _, e := range w.Order() {
			same(t, "an entry", e, order[e.Op-1])
		}
		same(t, "the records", w.Records(), records)
		w.crashes()
		w.opens()
		same(t, "the order, opened again", w.ops(), want)
	}
}

// TestOpenAtLSN: a commit at the store's LSN stays, one above does not.
func TestOpenAtLSN(t *testing.T) {
	w := up(t)
	w.did(0, start("a", "x"))
	w.tells(api.OK, api.Step{Kind: api.StepCheckpoint})
	sure, first := w.disk.Used(), 0
	for i, name := range []string{"s1", "s2", "s3"} {
		w.invoked(i, signal("a", name), api.PhSync)
		if i == 0 {
			first = w.disk.Used() - sure
		}
	}
	w.crashes(first)
	w.opens()
	same(t, "LSN", w.Door().Store().LSN(), 2)
	same(t, "the order", w.ops(), []int{1, 2})
	w.did(0, signal("a", "s4"))
	last := w.Order()[2]
	if last.LSN != 3 || last.Op != 5 || !last.Commit {
		t.Errorf("%+v", last)
	}
}

// TestOpenRefused: with a server up, one whose disk has stopped too; and where the disk stops in opening.
func TestOpenRefused(t *testing.T) {
	w := lost(t)
	for range 2 {
		w.tells(api.ErrArg, api.Step{Kind: api.StepOpen})
	}
	same(t, "the order", w.ops(), []int{1, 2})
	w.stop()
	w.tells(api.ErrArg, api.Step{Kind: api.StepOpen})
	for keep, changes := range map[int]int{0: 1, 5: 2, 100000: 1} { // what is torn is cut ahead of the sync
		for n := range changes {
			w := lost(t)
			w.crashes(keep)
			w.tells(api.OK, api.Step{Kind: api.StepFuse, N: n})
			for range 2 {
				w.tells(api.ErrDead, api.Step{Kind: api.StepOpen})
				if w.Up() || len(w.Order()) != 2 || len(w.Image()) != 0 {
					t.Error("opened on a disk that had stopped")
				}
			}
			w.tells(api.ErrDown, api.Step{Kind: api.StepStep})
			w.crashes()
			w.opens()
			if keep < 1000 {
				same(t, "the order", w.ops(), []int{1})
			} else {
				same(t, "the order", w.ops(), []int{1, 2})
			}
		}
		w := lost(t)
		w.crashes(keep)
		w.tells(api.OK, api.Step{Kind: api.StepFuse, N: changes})
		w.opens()
		w.tells(api.ErrDead, api.Step{Kind: api.StepCheckpoint})
	}
}

// TestFuseAndRoom: the disk's answers, with a server up, with none, and of a disk that has stopped.
func TestFuseAndRoom(t *testing.T) {
	for _, down := range []bool{false, true} {
		w := up(t)
		if down {
			w.crashes()
		}
		for _, n := range []int{math.MinInt, -1} {
			w.tells(api.ErrArg, api.Step{Kind: api.StepFuse, N: n})
			w.tells(api.ErrArg, api.Step{Kind: api.StepRoom, N: n})
		}
		w.tells(api.ErrArg, api.Step{Kind: api.StepRoom, N: api.MaxRoom + 1})
		w.tells(api.OK, api.Step{Kind: api.StepRoom, N: api.MaxRoom})
		w.tells(api.OK, api.Step{Kind: api.StepFuse, N: math.MaxInt})
		w.tells(api.OK, api.Step{Kind: api.StepFuse, N: 0})
		if down {
			w.tells(api.ErrDead, api.Step{Kind: api.StepOpen})
		} else {
			w.tells(api.ErrDead, api.Step{Kind: api.StepCheckpoint})
		}
		for _, kind := range []int{api.StepFuse, api.StepRoom} {
			w.tells(api.ErrDead, api.Step{Kind: kind, N: 1})
			w.tells(api.ErrArg, api.Step{Kind: kind, N: -1})
		}
	}
	w := up(t)
	w.tells(api.OK, api.Step{Kind: api.StepRoom, N: w.disk.Used() + 10})
	if x := w.does(0, start("a", "x")); x.Code != api.ErrFull || len(w.Order()) != 1 || w.Order()[0].Commit {
		t.Errorf("without room: %+v", x)
	}
	w.tells(api.OK, api.Step{Kind: api.StepRoom, N: 10000})
	w.did(0, start("a", "x"))
	w.tells(api.OK, api.Step{Kind: api.StepFuse, N: 1})
	w.invoked(0, signal("a", "s"), api.PhSync)
	same(t, "the change behind the fuse", w.Do(api.Step{Kind: api.StepStep}), api.Told{Code: api.ErrDead, Op: 3})
}

// TestCheckpoint: its answers; it changes nothing that is asked.
func TestCheckpoint(t *testing.T) {
	w := lost(t)
	image, order := w.Image(), w.Order()
	w.tells(api.OK, api.Step{Kind: api.StepRoom, N: w.disk.Used() + 10})
	w.tells(api.ErrFull, api.Step{Kind: api.StepCheckpoint})
	w.tells(api.OK, api.Step{Kind: api.StepRoom, N: 100000})
	w.tells(api.OK, api.Step{Kind: api.StepCheckpoint})
	if !bytes.Equal(w.Image(), image) {
		t.Error("a checkpoint changed something")
	}
	w.crashes()
	w.tells(api.ErrDown, api.Step{Kind: api.StepCheckpoint})
	w.opens()
	same(t, "the order", w.Order(), order)
	if !bytes.Equal(w.Image(), image) {
		t.Error("a checkpoint lost something")
	}
	w.stop()
	w.tells(api.ErrDead, api.Step{Kind: api.StepCheckpoint})
}

// TestOtherKinds: no step is done of a kind that is none.
func TestOtherKinds(t *testing.T) {
	w := up(t)
	for _, kind := range []int{math.MinInt, -1, 0, 9, 10, 256 + api.StepTick, 1<<32 + api.StepTick, math.MaxInt} {
		w.tells(api.ErrArg, api.Step{Kind: kind, N: 3, Bytes: w.bytesOf(start("a", "x")), Keeps: []int{1}})
	}
	w.tells(api.ErrArg, api.Step{})
	if !w.Up() || w.Now() != 0 || len(w.Records()) != 0 {
		t.Error("something was done")
	}
}

// TestFieldsOfOtherKinds: a step is of its Kind, whatever else it has.
func TestFieldsOfOtherKinds(t *testing.T) {
	w := up(t)
	all := api.Step{Session: 3, N: 5, Bytes: w.bytesOf(start("a", "x")), Keeps: []int{7}}
	for _, x := range []struct {
		kind int
		code api.Errno
	}{{api.StepStep, api.ErrSession}, {api.StepTick, api.OK}, {api.StepFuse, api.OK}, {api.StepCheckpoint, api.OK}, {api.StepCrash, api.OK}, {api.StepRoom, api.OK}, {api.StepOpen, api.OK}} {
		s := all
		s.Kind = x.kind
		w.tells(x.code, s)
	}
	s := all
	s.Kind = api.StepInvoke
	if told := w.Do(s); told.Op != 1 || told.Code != api.OK || w.Now() != 5 || w.Records()[0].Session != 3 {
		t.Errorf("%+v", told)
	}
}

// TestEachCallIsAStep: whatever it tells; calls that only ask are none.
func TestEachCallIsAStep(t *testing.T) {
	for _, kind := range append(kinds, numbers...) {
		for _, down := range []bool{false, true} {
			w := up(t)
			n := 0
			if down {
				w.crashes()
				n++
			}
			for range 3 {
				w.Do(api.Step{Kind: kind, N: -1})
				n++
			}
			w.Do(api.Step{Kind: api.StepCrash})
			w.Do(api.Step{Kind: api.StepOpen})
			w.Records()
			w.Order()
			w.Now()
			w.Up()
			w.Door()
			w.Image()
			w.invoke(0, describe("a"))
			w.reply(0)
			l := w.Records()
			if r := l[len(l)-1]; r.Invoked != n+3 || r.Replied != n+6 {
				t.Errorf("%d of a step of kind %d, not %d", r.Invoked, kind, n+3)
			}
		}
	}
}

// TestDoor: the server, which goes with each crash.
func TestDoor(t *testing.T) {
	w := up(t)
	first := w.Door()
	if first == nil || first != w.Door() {
		t.Error("another server")
	}
	w.did(0, start("a", "x"))
	if !bytes.Equal(first.Store().Image(), w.Image()) {
		t.Error("another store")
	}
	w.crashes()
	w.opens()
	if w.Door() == first {
		t.Error("the server that was cut off is up")
	}
	var none *door.Door
	w.crashes()
	if w.Door() != none || w.Image() != nil {
		t.Error("a server, though none is up")
	}
}

// TestBesidesTheWorld: whoever steps the server itself has operations that no record tells of.
func TestBesidesTheWorld(t *testing.T) {
	for _, op := range numbers {
		w := up(t)
		w.did(0, start("a", "x"))
		if e := w.Door().Invoke(1, op, describe("a")); e != api.OK {
			t.Fatal(e)
		}
		if x := w.reply(1); x.Code != api.OK || len(w.Order()) != 2 || w.Order()[1].Op != op {
			t.Errorf("%+v", x)
		}
		if l := w.Records(); len(l) != 1 || (l[0].Reply.State.Run != 0) != (op == 1) {
			t.Errorf("%+v", l)
		}
		w.crashes()
		w.opens()
		if l := w.Order(); (len(l) == 2) != (op == 1) {
			t.Errorf("%+v", l)
		}
	}
}
