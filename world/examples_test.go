package world

import (
	"bytes"
	"fmt"
	"testing"

	"usher/api"
)

// kindsOf gives the kinds of events, one behind the other.
func kindsOf(l []api.Event) string {
	var out []int
	for _, e := range l {
		out = append(out, e.Kind)
	}
	return fmt.Sprint(out)
}

// The ten examples of the whole, as DOC.md has them.

func TestExample1(t *testing.T) {
	w := up(t)
	same(t, "start", w.does(0, start("a", "x")), api.Reply{Run: 1})
	same(t, "start of another name", w.does(0, start("a", "y")), api.Reply{Code: api.ErrStarted})
	w.keeps()
}

func TestExample2(t *testing.T) {
	w := up(t)
	w.invoked(0, start("a", "x"), api.PhCommit)
	w.invoked(1, start("a", "y"), api.PhCommit)
	if told := w.step(0); !told.In || !told.Entry.Commit {
		t.Errorf("%+v", told)
	}
	if told := w.step(1); told.In || w.phase(1) != api.PhLoad {
		t.Errorf("%+v", told)
	}
	same(t, "the second one", w.reply(1), api.Reply{Code: api.ErrStarted})
	same(t, "the first one", w.reply(0), api.Reply{Run: 1})
	w.keeps()
}

func TestExample3And4(t *testing.T) {
	w := up(t)
	w.did(0, start("a", "x"))
	image := w.Image()
	w.invoked(0, signal("a", "s"), api.PhSync)
	w.crashes()
	w.opens()
	if !bytes.Equal(w.Image(), image) || w.Records()[1].Replied != 0 || len(w.Order()) != 1 {
		t.Error("it is not as if it had not been")
	}
	w.keeps()
	same(t, "the same signal", w.does(1, signal("a", "s")), api.Reply{Run: 1})
	if x := w.did(0, describe("a")); x.State.Signals != 1 {
		t.Errorf("%+v", x)
	}
	w.keeps()
}

func TestExample5(t *testing.T) {
	w := up(t)
	w.did(0, start("a", "x"))
	w.did(0, signal("a", "s"))
	w.crashes()
	w.opens()
	if x := w.did(0, describe("a")); x.State.Signals != 1 {
		t.Errorf("%+v", x)
	}
	same(t, "the same signal", w.does(1, signal("a", "s")), api.Reply{Run: 1})
	if x := w.did(0, describe("a")); x.State.Signals != 1 {
		t.Errorf("%+v", x)
	}
	w.keeps()
}

func TestExample6(t *testing.T) {
	w := up(t)
	w.did(0, start("a", "x"))
	x := w.did(1, poll("a"))
	if x.Num != 3 || kindsOf(x.Events) != fmt.Sprint([]int{api.EvStarted, api.EvScheduled, api.EvTaken}) {
		t.Errorf("%+v", x)
	}
	w.did(1, complete("a", 1, 3, api.Command{Kind: api.CmTimer, Name: "c", Delay: 5}))
	w.tick(5)
	if x := w.did(2, api.Request{Kind: api.OpFire, Flow: "a"}); x.Num != 2 {
		t.Errorf("%+v", x)
	}
	x = w.did(1, poll("a"))
	if x.Num != 8 || kindsOf(x.Events[5:]) != fmt.Sprint([]int{api.EvFired, api.EvScheduled, api.EvTaken}) || x.Events[5].Time != 5 {
		t.Errorf("%+v", x)
	}
	w.keeps()
}

func TestExample7(t *testing.T) {
	w := up(t)
	w.did(0, start("a", "x"))
	w.did(1, complete("a", 1, w.did(1, poll("a")).Num))
	op := w.invoked(0, update("a", "x1", 2, 100), api.PhWait)
	x := w.did(1, poll("a"))
	if x.Num == 0 || len(x.Updates) != 1 || x.Updates[0].Name != "x1" || x.Updates[0].Op != op {
		t.Errorf("%+v", x)
	}
	w.did(1, complete("a", 1, x.Num, api.Command{Kind: api.CmAccept, Name: "x1"}, api.Command{Kind: api.CmOutcome, Name: "x1", Value: listOf("outcome")}))
	same(t, "the update", w.reply(0), api.Reply{Run: 1, Num: 2, Value: listOf("outcome")})
	w.keeps()
}

func TestExample8(t *testing.T) {
	w := up(t)
	w.did(0, start("a", "x"))
	op := w.invoked(2, query("a", 100), api.PhWait)
	x := w.did(1, poll("a"))
	if len(x.Queries) != 1 || x.Queries[0].Op != op {
		t.Errorf("%+v", x)
	}
	r := complete("a", 1, x.Num)
	r.Answers = []api.Answer{{Op: op, Value: listOf("answer")}}
	w.did(1, r)
	same(t, "the query", w.reply(2), api.Reply{Run: 1, Num: 3, Value: listOf("answer")})
	w.keeps()
}

func TestExample9(t *testing.T) {
	w := up(t)
	w.did(0, start("a", "x"))
	w.did(1, complete("a", 1, w.did(1, poll("a")).Num))
	w.did(0, signal("a", "s"))
	same(t, "reset", w.does(0, api.Request{Kind: api.OpReset, Flow: "a", Request: "back", Num: 4}), api.Reply{Run: 2})
	x := w.did(1, poll("a"))
	want := []int{api.EvStarted, api.EvScheduled, api.EvTaken, api.EvTaskFailed, api.EvSignaled, api.EvScheduled, api.EvTaken}
	if x.Run != 2 || kindsOf(x.Events) != fmt.Sprint(want) {
		t.Errorf("%+v", x)
	}
	w.keeps()
}

func TestExample10(t *testing.T) {
	w := up(t)
	w.did(0, start("a", "x"))
	w.invoke(0, signal("a", "s"))
	for i := range 4 {
		w.step(0)
		w.did(1, signal("a", fmt.Sprint("other", i)))
		if told := w.step(0); told.In != (i == 3) || told.Entry.Commit {
			t.Errorf("conflict %d: %+v", i, told)
		}
	}
	same(t, "the reply", w.reply(0), api.Reply{Code: api.ErrBusy})
	if x := w.did(0, describe("a")); x.State.Signals != 4 {
		t.Errorf("%+v", x)
	}
	w.keeps()
}
