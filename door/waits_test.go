package door

import (
	"reflect"
	"testing"

	"usher/api"
)

// running is a server with the workflow a, its task taken by session 0: event 3.
func running(t *testing.T) *server {
	t.Helper()
	v := up(t)
	v.did(0, start("a", "x"))
	if x := v.did(0, poll("a")); x.Num != 3 || len(x.Events) != 3 {
		t.Fatalf("%+v", x)
	}
	return v
}

// in steps a session's operation once, and complains unless it is in by that.
func (v *server) in(session int) {
	v.Helper()
	if !v.step(session).In {
		m, _ := v.Machine(session)
		v.Fatalf("not in: %+v", m)
	}
}

// waitsOn complains unless a session's operation waits on behind a step.
func (v *server) waitsOn(session int) {
	v.Helper()
	if told := v.step(session); told.In || v.phase(session) != api.PhWait {
		v.Fatalf("it does not wait: %+v", told)
	}
}

// ends complains unless a session's operation that waits is in by a step, waits no more, and is told that.
func (v *server) ends(session, op int, want api.Reply) {
	v.Helper()
	lsn := v.Store().LSN()
	looked, _ := v.Machine(session)
	same(v.T, "Step", v.step(session), api.Told{Op: op, In: true, Entry: api.Entry{Op: op, Now: v.now, LSN: lsn, Asks: looked.Asks}})
	for _, w := range v.Waits() {
		if w.Op == op {
			v.Errorf("%d still waits", op)
		}
	}
	m, _ := v.Machine(session)
	if m.Phase != api.PhSync || m.Now != v.now || m.LSN != lsn {
		v.Errorf("%+v", m)
	}
	same(v.T, "the reply", v.reply(session), want)
}

// TestAQueryIsAnswered: by the session to which it was handed.
func TestAQueryIsAnswered(t *testing.T) {
	v := running(t)
	op := v.invoked(1, query("a", 100), api.PhWait)
	v.now = 5
	other := v.invoked(2, query("a", 100), api.PhWait)
	v.did(0, signal("a", "s"))
	asks := []api.Ask{{Op: op, Name: "q", Value: listOf("asked")}, {Op: other, Name: "q", Value: listOf("asked")}}
	if x := v.did(3, poll("a")); x.Num != 0 || len(x.Events) != 4 || !reflect.DeepEqual(x.Queries, asks) {
		t.Fatalf("%+v", x)
	}
	if w := v.wait(op); w.Handed != 4 || w.Upto != 4 || w.Over || w.Seen != 3 {
		t.Fatalf("%+v", w)
	}
	v.did(0, answers("a", 1, op, other))
	if w := v.wait(op); w.Over {
		t.Fatalf("session 0 has answered: %+v", w)
	}
	v.waitsOn(1)
	v.did(3, answers("a", 1, op))
	v.waitsOn(2)
	if w := v.wait(op); !w.Over || v.wait(other).Over {
		t.Fatal(v.Waits())
	}
	v.ends(1, op, api.Reply{Code: api.OK, Run: 1, Num: 4, Value: listOf("answer to 3")})
	v.did(3, answers("a", 1, op, other))
	v.ends(2, other, api.Reply{Code: api.OK, Run: 1, Num: 4, Value: listOf("answer to 4")})
}

// TestHandedAnew: the session to which a query was handed ahead of that has it no more.
func TestHandedAnew(t *testing.T) {
	v := running(t)
	op := v.invoked(1, query("a", 100), api.PhWait)
	v.did(7, poll("a"))
	v.did(6, poll("a"))
	if w := v.wait(op); w.Handed != 7 || w.Upto != 3 {
		t.Fatalf("%+v", w)
	}
	v.did(7, answers("a", 1, op))
	v.waitsOn(1)
	v.did(6, answers("a", 1, op))
	v.ends(1, op, api.Reply{Run: 1, Num: 3, Value: listOf("answer to 3")})
}

// TestHandedWithATask: what hangs on a poll comes with its commit, with what waits by then.
func TestHandedWithATask(t *testing.T) {
	v := up(t)
	v.did(0, start("a", "x"))
	one := v.invoked(1, query("a", 100), api.PhWait)
	v.invoked(0, poll("a"), api.PhCommit)
	if m, _ := v.Machine(0); v.wait(one).Handed != 0 || len(m.Reply.Queries) != 0 || len(m.Reply.Events) != 3 {
		t.Fatalf("handed by a look: %+v, %+v", v.Waits(), m)
	}
	two := v.invoked(2, query("a", 100), api.PhWait)
	v.in(0)
	for _, op := range []int{one, two} {
		if w := v.wait(op); w.Handed != 1 || w.Upto != 3 || w.Seen != 2 {
			t.Errorf("%+v", w)
		}
	}
	late := v.invoked(3, query("a", 100), api.PhWait)
	if x := v.reply(0); x.Num != 3 || len(x.Queries) != 2 || x.Queries[0].Op != one || x.Queries[1].Op != two {
		t.Errorf("%+v", x)
	}
	if v.wait(late).Handed != 0 {
		t.Error("handed without a poll")
	}
}

// TestAPollThatIsNotOK hands nothing out.
func TestAPollThatIsNotOK(t *testing.T) {
	for why, r := range map[string]api.Request{
		"of another workflow": {Kind: api.OpPoll, Flow: "b", Num: 10},
		"of one that is none": poll("c"),
		"that may not be":     {Kind: api.OpPoll, Flow: "a"},
		"no poll":             describe("a"),
	} {
		v := running(t)
		v.did(0, start("b", "x"))
		op := v.invoked(1, query("a", 100), api.PhWait)
		if x := v.does(2, r); len(x.Queries) != 0 {
			t.Error(why, x)
		}
		if w := v.wait(op); w.Handed != 0 || w.Upto != 0 {
			t.Error(why, w)
		}
	}
	v := running(t)
	op := v.invoked(1, query("a", 100), api.PhWait)
	v.did(0, terminate("a", "end"))
	if x := v.does(2, poll("a")); x.Code != api.ErrClosed || len(x.Queries) != 0 || v.wait(op).Handed != 0 {
		t.Error(x, v.Waits())
	}
}

// TestAPollThatMeetsAConflict hands out only what waits when it is in.
func TestAPollThatMeetsAConflict(t *testing.T) {
	v := up(t)
	v.did(0, start("a", "x"))
	op := v.invoked(1, query("a", 100), api.PhWait)
	v.invoked(2, poll("a"), api.PhCommit)
	v.did(3, poll("a"))
	if v.step(2).In || v.wait(op).Handed != 4 {
		t.Error("handed by a conflict", v.Waits())
	}
	v.in(2)
	if w := v.wait(op); w.Handed != 3 {
		t.Error(w)
	}
	if x := v.reply(2); x.Num != 0 || len(x.Queries) != 1 {
		t.Errorf("%+v", x)
	}
}

// TestACompletionThatIsNotOK neither answers nor refuses.
func TestACompletionThatIsNotOK(t *testing.T) {
	reject := api.Command{Kind: api.CmReject, Name: "u", Value: listOf("no")}
	for why, c := range map[string]struct {
		r    api.Request
		code api.Errno
	}{
		"another token":     {complete("a", 1, 2, reject), api.ErrToken},
		"another run":       {complete("a", 2, 3, reject), api.ErrToken},
		"a command that":    {complete("a", 1, 3, reject, api.Command{Kind: api.CmTimerOff, Name: "none"}), api.ErrCommand},
		"no such workflow":  {complete("b", 1, 3, reject), api.ErrNone},
		"that may not be":   {complete("a", 0, 3, reject), api.ErrArg},
		"commands, no task": {complete("a", 1, 0, reject), api.ErrArg},
	} {
		v := running(t)
		asked := v.invoked(1, query("a", 100), api.PhWait)
		updated := v.invoked(2, update("a", "u", 1, 100), api.PhWait)
		v.did(0, poll("a"))
		c.r.Answers = answers("a", 1, asked).Answers
		if x := v.does(0, c.r); x.Code != c.code {
			t.Errorf("%s: %+v", why, x)
		}
		if v.wait(asked).Over || v.wait(updated).Over {
			t.Error(why, v.Waits())
		}
		v.waitsOn(1)
		v.waitsOn(2)
	}
}

// TestAnUpdateIsRefused: all that wait by that name, of that run.
func TestAnUpdateIsRefused(t *testing.T) {
	v := running(t)
	v.did(0, start("b", "x"))
	one := v.invoked(1, update("a", "u", 1, 100), api.PhWait)
	two := v.invoked(2, update("a", "u", 2, 100), api.PhWait)
	v.invoked(3, update("a", "w", 1, 100), api.PhWait)
	v.invoked(4, update("b", "u", 1, 100), api.PhWait)
	v.invoked(0, complete("a", 1, 3, api.Command{Kind: api.CmReject, Name: "u", Value: listOf("no")}), api.PhCommit)
	if v.wait(one).Over {
		t.Error("refused by a look")
	}
	v.in(0)
	want := api.Reply{Code: api.ErrReject, Run: 1, Value: listOf("no")}
	v.ends(1, one, want)
	v.ends(2, two, want)
	v.waitsOn(3)
	v.waitsOn(4)
	if x := v.reply(0); x.Code != api.OK || len(x.Updates) != 1 || x.Updates[0].Name != "u" {
		t.Errorf("%+v", x)
	}
}

// TestAnUpdateIsThere: what ends its wait then is the workflow itself.
func TestAnUpdateIsThere(t *testing.T) {
	v := running(t)
	one := v.invoked(1, update("a", "u", 1, 100), api.PhWait)
	two := v.invoked(2, update("a", "u", 2, 100), api.PhWait)
	v.did(0, complete("a", 1, 3, api.Command{Kind: api.CmAccept, Name: "u"}))
	v.now = 7
	v.ends(1, one, api.Reply{Run: 1, Num: 1})
	v.waitsOn(2)
	v.did(0, signal("a", "s"))
	x := v.did(0, poll("a"))
	v.did(0, complete("a", 1, x.Num, api.Command{Kind: api.CmOutcome, Name: "u", Value: listOf("out")}))
	v.ends(2, two, api.Reply{Run: 1, Num: 2, Value: listOf("out")})
}

// TestATaskForUpdates: a poll is told those that wait, if there is a task for them.
func TestATaskForUpdates(t *testing.T) {
	v := running(t)
	v.did(0, complete("a", 1, 3))
	op := v.invoked(1, update("a", "u", 1, 100), api.PhWait)
	x := v.did(0, poll("a"))
	if x.Num != 6 || len(x.Updates) != 1 || x.Updates[0].Op != op {
		t.Errorf("%+v", x)
	}
}

// TestAWaitThatEndsByItsTime: at its end, and not ahead of it.
func TestAWaitThatEndsByItsTime(t *testing.T) {
	for _, r := range []api.Request{query("a", 9), update("a", "u", 1, 9)} {
		v := running(t)
		v.now = 4
		op := v.invoked(1, r, api.PhWait)
		v.now = 12
		v.waitsOn(1)
		v.now = 13
		v.ends(1, op, api.Reply{Code: api.ErrLate})
		r.Wait = 0
		op = v.invoked(1, r, api.PhWait)
		v.ends(1, op, api.Reply{Code: api.ErrLate})
	}
}

// TestAWaitOfAnotherRun: what runs now is not what it waited for.
func TestAWaitOfAnotherRun(t *testing.T) {
	for _, r := range []api.Request{query("a", 100), update("a", "u", 1, 100)} {
		for why, l := range map[string][]api.Request{
			"closed":             {terminate("a", "end")},
			"closed, a new run":  {terminate("a", "end"), start("a", "y")},
			"it is set back":     {complete("a", 1, 3), {Kind: api.OpReset, Flow: "a", Request: "back", Num: 4}},
			"a signal starts it": {terminate("a", "end"), {Kind: api.OpSignalStart, Flow: "a", Request: "z", Name: "s"}},
		} {
			v := running(t)
			op := v.invoked(1, r, api.PhWait)
			for _, other := range l {
				v.did(0, other)
			}
			if len(v.Waits()) != 1 {
				t.Error(why, v.Waits())
			}
			v.ends(1, op, api.Reply{Code: api.ErrClosed})
		}
	}
}

// TestAWaitThatIsOverEndsFirst: an answer that is there is told, whatever came behind it.
func TestAWaitThatIsOverEndsFirst(t *testing.T) {
	v := running(t)
	op := v.invoked(1, query("a", 5), api.PhWait)
	v.did(0, poll("a"))
	v.did(0, answers("a", 1, op))
	v.did(0, terminate("a", "end"))
	v.now = 100
	v.ends(1, op, api.Reply{Run: 1, Num: 3, Value: listOf("answer to 3")})
}

// TestOneNumberTwice: operations that wait are told apart by their numbers alone; one whose wait is gone is told so.
func TestOneNumberTwice(t *testing.T) {
	v := running(t)
	for _, session := range []int{1, 2} {
		if e := v.Invoke(session, 50, query("a", 100)); e != api.OK {
			t.Fatal(e)
		}
		v.step(session)
	}
	if l := v.Waits(); len(l) != 1 || l[0].Op != 50 {
		t.Fatal(l)
	}
	v.did(0, poll("a"))
	v.did(0, answers("a", 1, 50))
	v.ends(2, 50, api.Reply{Run: 1, Num: 3, Value: listOf("answer to 50")})
	v.invoked(3, query("a", 100), api.PhWait)
	v.ends(1, 50, api.Reply{Code: api.ErrClosed})
	v.waitsOn(3)
}

// TestAfterAWait: it is told within two steps of the one by which it is in.
func TestAfterAWait(t *testing.T) {
	v := running(t)
	op := v.invoked(1, query("a", 3), api.PhWait)
	v.now = 3
	v.in(1)
	same(t, "a sync", v.step(1), api.Told{Op: op})
	same(t, "the reply", v.step(1), api.Told{Op: op, Done: true, Reply: api.Reply{Code: api.ErrLate}})
}
