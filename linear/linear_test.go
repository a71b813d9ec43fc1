package linear

import (
	"fmt"
	"math"
	"reflect"
	"slices"
	"testing"

	"usher/api"
	"usher/model"
	"usher/reqcode"
)

var numbers = []int{math.MinInt, math.MinInt + 1, -1, 0, 1, 2, math.MaxInt - 1, math.MaxInt}

// listOf gives a value that has memory of its own.
func listOf(s string) api.Value {
	return api.Value{Kind: api.VList, List: []api.Value{{Kind: api.VText, Text: s}}}
}

func start(flow, request string) api.Request {
	return api.Request{Kind: api.OpStart, Flow: flow, Request: request, Name: "t", Value: listOf("in")}
}

func signal(flow, request string) api.Request {
	return api.Request{Kind: api.OpSignal, Flow: flow, Request: request, Name: "s", Value: listOf("s")}
}

func terminate(flow, request string) api.Request {
	return api.Request{Kind: api.OpTerminate, Flow: flow, Request: request}
}

func query(flow string) api.Request {
	return api.Request{Kind: api.OpQuery, Flow: flow, Name: "q"}
}

func update(flow, request string, stage int) api.Request {
	return api.Request{Kind: api.OpUpdate, Flow: flow, Request: request, Num: stage, Value: listOf(request)}
}

func describe(flow string) api.Request {
	return api.Request{Kind: api.OpDescribe, Flow: flow}
}

func poll(flow string) api.Request {
	return api.Request{Kind: api.OpPoll, Flow: flow, Num: 10}
}

func complete(flow string, num int, l ...api.Command) api.Request {
	return api.Request{Kind: api.OpComplete, Flow: flow, Run: 1, Num: num, Commands: l}
}

// told gives the record of an operation that took from step a to step b, and the time from a to b.
func told(op, a, b int, r api.Request, x api.Reply) api.Record {
	return api.Record{Op: op, Invoked: a, Replied: b, From: a, To: b, Request: r, Reply: x}
}

// cut gives the record of an operation that was not told.
func cut(op, a int, r api.Request) api.Record {
	return api.Record{Op: op, Invoked: a, From: a, Request: r}
}

// read and commit give entries.
func read(op, now int) api.Entry {
	return api.Entry{Op: op, Now: now}
}

func commit(op, now int) api.Entry {
	return api.Entry{Op: op, Now: now, LSN: op, Commit: true}
}

// holds complains unless Real and Check say so.
func holds(t *testing.T, why string, l []api.Record, order []api.Entry, isReal bool, e api.Errno) {
	t.Helper()
	if got := Real(l, order); got != isReal {
		t.Errorf("%s: Real says %v", why, got)
	}
	if got := Check(l, order); got != e {
		t.Errorf("%s: Check says %d, not %d", why, got, e)
	}
}

// taken complains unless an order is taken, and refused one that isn't.
func taken(t *testing.T, why string, l []api.Record, order []api.Entry) {
	t.Helper()
	holds(t, why, l, order, true, api.OK)
}

func unreal(t *testing.T, why string, l []api.Record, order []api.Entry) {
	t.Helper()
	holds(t, why, l, order, false, api.ErrOrder)
}

func unexplained(t *testing.T, why string, l []api.Record, order []api.Entry) {
	t.Helper()
	holds(t, why, l, order, true, api.ErrOrder)
}

// TestOuter: each kind and each code, and numbers that are none.
func TestOuter(t *testing.T) {
	want := map[int][]api.Errno{
		api.OpQuery:  {api.OK, api.ErrClosed, api.ErrLate},
		api.OpUpdate: {api.ErrClosed, api.ErrLate, api.ErrReject, api.ErrMismatch},
	}
	kinds := append([]int{256 + api.OpQuery, 1<<32 + api.OpUpdate}, numbers...)
	for kind := range 20 {
		kinds = append(kinds, kind)
	}
	codes := []api.Errno{math.MinInt, -1, 99, 1<<32 + api.ErrBusy, math.MaxInt}
	for code := range api.Errno(30) {
		codes = append(codes, code)
	}
	for _, kind := range kinds {
		for _, code := range codes {
			w := code == api.ErrBusy || code == api.ErrFull || slices.Contains(want[kind], code)
			if got := Outer(kind, code); got != w {
				t.Errorf("kind %d, code %d: %v", kind, code, got)
			}
		}
	}
}

func TestTheExample(t *testing.T) {
	none := api.Reply{Code: api.ErrNone}
	l := []api.Record{told(1, 1, 5, describe("a"), none), told(2, 6, 9, describe("a"), none)}
	taken(t, "in their order", l, []api.Entry{read(1, 3), read(2, 7)})
	unreal(t, "the other way about", l, []api.Entry{read(2, 7), read(1, 3)})
}

func TestNothing(t *testing.T) {
	for _, l := range [][]api.Record{nil, {}, {cut(1, 2, start("a", "x"))}, {{}}, {{}, {}}} {
		for _, order := range [][]api.Entry{nil, {}} {
			taken(t, fmt.Sprint(l), l, order)
			if m := Replay(l, order); m == nil || !m.Same(model.New()) {
				t.Error("Replay", l)
			}
		}
		unreal(t, "an entry of none", l, []api.Entry{commit(9, 3)})
	}
	taken(t, "the zero record and entry", []api.Record{{}}, []api.Entry{{}})
	unreal(t, "the zero entry, and no record", nil, []api.Entry{{}})
	if m := Replay(nil, []api.Entry{{}, commit(1, 2), commit(-1, 3)}); m == nil || !m.Same(model.New()) {
		t.Error("Replay of entries of none")
	}
}

// TestOneRecordOfAnEntry: an entry's operation is that of just one record.
func TestOneRecordOfAnEntry(t *testing.T) {
	for _, op := range numbers {
		r := cut(op, 2, start("a", "x"))
		order := []api.Entry{commit(op, 3)}
		taken(t, "one", []api.Record{r}, order)
		taken(t, "one, among others", []api.Record{cut(77, 1, describe("a")), r, cut(78, 1, describe("a"))}, order)
		unreal(t, "two", []api.Record{r, r}, order)
		unreal(t, "two others", []api.Record{r, cut(77, 1, describe("a")), cut(op, 9, describe("b"))}, order)
		unreal(t, "three", []api.Record{r, r, r}, order)
		unreal(t, "none", []api.Record{cut(77, 2, start("a", "x"))}, order)
		unreal(t, "none at all", nil, order)
		taken(t, "two that have no entry", []api.Record{r, r, cut(77, 2, start("a", "x"))}, []api.Entry{commit(77, 3)})
		taken(t, "two, and no order", []api.Record{r, r}, nil)
	}
}

func TestOnceInOrder(t *testing.T) {
	l := []api.Record{cut(1, 2, describe("a")), cut(2, 2, describe("a")), cut(3, 2, describe("a"))}
	taken(t, "each once", l, []api.Entry{read(1, 3), read(2, 3), read(3, 3)})
	taken(t, "each once, in another order", l, []api.Entry{read(3, 3), read(1, 3), read(2, 3)})
	unreal(t, "one twice in a row", l, []api.Entry{read(1, 3), read(2, 3), read(2, 3)})
	unreal(t, "one twice", l, []api.Entry{read(1, 3), read(2, 3), read(3, 3), read(1, 4)})
	unreal(t, "one thrice", l, []api.Entry{read(1, 3), read(1, 3), read(1, 3)})
}

func TestWhatWasToldHasAnEntry(t *testing.T) {
	none := api.Reply{Code: api.ErrNone}
	for _, replied := range append([]int{9}, numbers...) {
		l := []api.Record{cut(1, -5, describe("a")), told(2, -5, replied, describe("a"), none)}
		l[0].From, l[1].From, l[1].To = 0, 0, 9
		if replied > 0 {
			unreal(t, fmt.Sprint("told at ", replied), l, []api.Entry{read(1, 3)})
			unreal(t, fmt.Sprint("told at ", replied, ", no order"), l, nil)
		} else {
			taken(t, fmt.Sprint("not told at ", replied), l, []api.Entry{read(1, 3)})
			taken(t, fmt.Sprint("not told at ", replied, ", no order"), l, nil)
		}
		taken(t, fmt.Sprint("told, and an entry, at ", replied), l, []api.Entry{read(2, 3)})
		taken(t, fmt.Sprint("told, and an entry each, at ", replied), l, []api.Entry{read(1, 3), read(2, 3)})
	}
	twice := []api.Record{told(2, 1, 3, describe("a"), none), told(2, 1, 3, describe("a"), none)}
	unreal(t, "one of two records", twice, []api.Entry{read(2, 3)})
	unreal(t, "two records", twice, []api.Entry{read(2, 3), read(2, 3)})
}

// TestInTime: an entry's Now is at From, at To, between, one beyond each.
func TestInTime(t *testing.T) {
	none := api.Reply{Code: api.ErrNone}
	r := told(1, 4, 5, describe("a"), none)
	for _, c := range []struct {
		from, to, now int
		ok, cutOK     bool
	}{
		{10, 20, 9, false, false}, {10, 20, 10, true, true}, {10, 20, 15, true, true}, {10, 20, 20, true, true}, {10, 20, 21, false, true},
		{10, 10, 10, true, true}, {10, 9, 10, false, true}, {10, 9, 9, false, false},
		{-3, -1, -4, false, false}, {-3, -1, -3, true, true}, {-3, -1, 0, false, true},
		{math.MinInt, math.MaxInt, math.MinInt, true, true}, {math.MinInt, math.MaxInt, math.MaxInt, true, true},
		{math.MaxInt, math.MaxInt, math.MaxInt, true, true}, {math.MaxInt, math.MaxInt, math.MaxInt - 1, false, false},
		{math.MinInt, math.MinInt, math.MinInt, true, true}, {math.MinInt, math.MinInt, math.MinInt + 1, false, true},
	} {
		for _, replied := range []int{math.MinInt, -1, 0, 1, 5, math.MaxInt} {
			r.From, r.To, r.Replied = c.from, c.to, replied
			want := c.cutOK
			if replied > 0 {
				want = c.ok
			}
			if got := Real([]api.Record{r}, []api.Entry{read(1, c.now)}); got != want {
				t.Errorf("%+v, replied %d: %v", c, replied, got)
			}
		}
	}
}

// TestInTurn: what was told ahead of another one's beginning stands ahead of it.
func TestInTurn(t *testing.T) {
	none := api.Reply{Code: api.ErrNone}
	for _, c := range []struct {
		replied, invoked int // of the one that stands behind, and of the one ahead
		ok               bool
	}{
		{5, 6, false}, {5, 5, true}, {5, 4, true}, {1, 2, false}, {1, 1, true}, {1, 0, true}, {1, math.MinInt, true},
		{0, 6, true}, {-1, 6, true}, {math.MinInt, math.MaxInt, true}, {math.MaxInt, math.MaxInt, true}, {math.MaxInt - 1, math.MaxInt, false},
	} {
		behind, ahead := told(1, 0, c.replied, describe("a"), none), cut(2, c.invoked, describe("a"))
		behind.From, behind.To, ahead.From = 0, 9, 0
		order := []api.Entry{read(2, 3), read(1, 3)}
		l := []api.Record{behind, ahead}
		if got := Real(l, order); got != c.ok {
			t.Errorf("%+v: %v", c, got)
		}
		if !Real(l, []api.Entry{read(1, 3), read(2, 3)}) {
			t.Errorf("%+v, in turn", c)
		}
		// Others between them, and ahead of both, change nothing.
		l = append(l, cut(3, 0, describe("a")), cut(4, -9, describe("a")))
		l[2].From, l[3].From = 0, 0
		if got := Real(l, []api.Entry{read(3, 3), read(2, 3), read(4, 3), read(1, 3)}); got != c.ok {
			t.Errorf("%+v, with others: %v", c, got)
		}
	}
	// One that was told ahead of its own beginning is not held against itself.
	r := told(1, 9, 5, describe("a"), none)
	r.From = 0
	taken(t, "itself", []api.Record{r}, []api.Entry{read(1, 3)})
}

// opened is an order that has a bit of each: a start, a poll that takes its task, a completion that accepts an update, a signal that was not told, and some that only read.
func opened(t *testing.T) ([]api.Record, []api.Entry) {
	t.Helper()
	l := []api.Record{
		told(1, 1, 9, start("a", "x"), api.Reply{}),
		told(2, 2, 9, poll("a"), api.Reply{}),
		told(3, 3, 9, complete("a", 3, api.Command{Kind: api.CmAccept, Name: "u"}, api.Command{Kind: api.CmReject, Name: "y", Value: listOf("no")}), api.Reply{}),
		cut(4, 4, signal("a", "z")),
		told(5, 5, 9, describe("a"), api.Reply{}),
		told(6, 6, 9, update("a", "u", 1), api.Reply{}),
		told(7, 7, 9, start("a", "w"), api.Reply{}),
		told(8, 8, 9, query("b"), api.Reply{}),
		told(9, 8, 9, api.Request{Kind: api.OpDescribe, Flow: "no name!"}, api.Reply{Code: api.ErrArg}),
		told(10, 8, 9, query("a"), api.Reply{Num: 3, Value: listOf("answer")}),
	}
	order := []api.Entry{commit(1, 1), commit(2, 2), commit(3, 3), commit(4, 4), read(5, 5), read(6, 6), read(7, 7), read(8, 8), read(9, 9), read(10, 9)}
	order[2].Asks = []api.Ask{{Op: 6, Name: "u", Value: listOf("u")}, {Op: 11, Name: "y", Value: listOf("y")}}
	m := model.New()
	for i, e := range order[:8] {
		x := m.Do(l[i].Request, e.Now, e.Asks)
		if l[i].Replied > 0 {
			l[i].Reply = x
		}
	}
	for i, want := range []api.Errno{0, 0, 0, 0, 0, 0, api.ErrStarted, api.ErrNone, api.ErrArg, 0} {
		if l[i].Reply.Code != want {
			t.Fatal(i, l[i].Reply)
		}
	}
	taken(t, "as it is", l, order)
	return l, order
}

// TestAReplyThatParts: in each of its fields.
func TestAReplyThatParts(t *testing.T) {
	parted := make([]int, 10)
	for i := range 10 {
		for name, change := range map[string]func(x *api.Reply){
			"Code":      func(x *api.Reply) { x.Code = api.ErrClosed },
			"OK":        func(x *api.Reply) { x.Code = api.OK },
			"ErrToken":  func(x *api.Reply) { x.Code = api.ErrToken },
			"Run":       func(x *api.Reply) { x.Run++ },
			"Num":       func(x *api.Reply) { x.Num-- },
			"Value":     func(x *api.Reply) { x.Value = listOf("x") },
			"State":     func(x *api.Reply) { x.State.Count++ },
			"Input":     func(x *api.Reply) { x.State.Input = listOf("x") },
			"Timers":    func(x *api.Reply) { x.State.Timers = append(x.State.Timers, api.Timer{Name: "x"}) },
			"an event":  func(x *api.Reply) { x.Events = append(x.Events, api.Event{Kind: api.EvDone}) },
			"no events": func(x *api.Reply) { x.Events = x.Events[:max(0, len(x.Events)-1)] },
			"Updates":   func(x *api.Reply) { x.Updates = append(x.Updates, api.Ask{Name: "x"}) },
			"Queries":   func(x *api.Reply) { x.Queries = append(x.Queries, api.Ask{Op: 3, Name: "x", Value: listOf("x")}) },
		} {
			l, order := opened(t)
			was := l[i].Reply
			change(&l[i].Reply)
			x, why := l[i].Reply, fmt.Sprint("record ", i, ", ", name)
			alone := i == 8 && x.Code == was.Code // it may not be asked, so that nothing but its Code counts
			switch {
			case l[i].Replied == 0, name == "Queries", reqcode.SameReply(x, was), Outer(l[i].Request.Kind, x.Code), alone:
				taken(t, why, l, order)
			default:
				parted[i]++
				unexplained(t, why, l, order)
			}
		}
	}
	if want := []int{10, 11, 10, 0, 10, 9, 11, 9, 3, 1}; !slices.Equal(parted, want) {
		t.Error("so many were refused:", parted)
	}
}

// TestOuterReplies: those that hang on more than the workflow are not held against the model.
func TestOuterReplies(t *testing.T) {
	anything := api.Reply{Run: 7, Num: 8, Value: listOf("x")}
	for kind := api.OpStart; kind <= api.OpFire; kind++ {
		for code := range api.Errno(28) {
			r := map[int]api.Request{
				api.OpStart: start("b", "x"), api.OpSignal: signal("a", "x"), api.OpQuery: query("a"), api.OpUpdate: update("a", "u", 1),
				api.OpTerminate: terminate("a", "x"), api.OpDescribe: describe("a"), api.OpPoll: poll("a"), api.OpComplete: complete("a", 3),
			}[kind]
			if r.Kind == 0 {
				continue
			}
			x := anything
			x.Code = code
			l := []api.Record{told(1, 1, 9, start("a", "x1"), api.Reply{Run: 1}), told(2, 2, 9, r, x)}
			for _, e := range []api.Entry{read(2, 3), commit(2, 3)} {
				order := []api.Entry{commit(1, 2), e}
				if !Outer(kind, code) {
					unexplained(t, fmt.Sprint("kind ", kind, ", code ", code), l, order)
					continue
				}
				taken(t, fmt.Sprint("kind ", kind, ", code ", code), l, order)
				if !Replay(l, order).Same(Replay(l, order[:1])) {
					t.Error("something was done:", kind, code)
				}
			}
		}
	}
}

// TestCommits: what had its effect is OK, told or not.
func TestCommits(t *testing.T) {
	began := told(1, 1, 9, start("a", "x"), api.Reply{Run: 1})
	again := cut(2, 2, start("a", "y"))
	l := []api.Record{began, again}
	unexplained(t, "a start of one that runs, committed", l, []api.Entry{commit(1, 2), commit(2, 3)})
	taken(t, "a start of one that runs, not committed", l, []api.Entry{commit(1, 2), read(2, 3)})
	taken(t, "a start of one that runs, left out", l, []api.Entry{commit(1, 2)})
	unexplained(t, "a start ahead of it that was not told", l, []api.Entry{commit(2, 2), commit(1, 3)})
	taken(t, "a start ahead of it that was not told, not committed", l, []api.Entry{read(2, 2), commit(1, 3)})

	l[1] = told(2, 2, 9, start("a", "y"), api.Reply{Code: api.ErrStarted})
	taken(t, "told so, not committed", l, []api.Entry{commit(1, 2), read(2, 3)})
	unexplained(t, "told so, committed", l, []api.Entry{commit(1, 2), commit(2, 3)})
	unexplained(t, "told so, ahead", l, []api.Entry{read(2, 2), commit(1, 3)})
	unexplained(t, "the first one not committed", l, []api.Entry{read(1, 2), read(2, 3)})

	l[1] = told(2, 2, 9, start("a", "x"), api.Reply{Run: 1}) // of one name: told the same, without an effect
	taken(t, "of one name, not committed", l, []api.Entry{commit(1, 2), read(2, 3)})
	taken(t, "of one name, committed", l, []api.Entry{commit(1, 2), commit(2, 3)})
	taken(t, "of one name, the other way about", l, []api.Entry{commit(2, 2), read(1, 3)})
	taken(t, "of one name, neither committed", l, []api.Entry{read(2, 2), read(1, 3)}) // each as if alone

	l[1] = cut(2, 2, query("a"))
	unexplained(t, "a query that was not told, committed", l, []api.Entry{commit(1, 2), commit(2, 3)})
	taken(t, "a query that was not told, not committed", l, []api.Entry{commit(1, 2), read(2, 3)})
	l[1] = told(2, 2, 9, query("a"), api.Reply{Code: api.ErrLate})
	taken(t, "a query that was told what is outer, committed", l, []api.Entry{commit(1, 2), commit(2, 3)})
	l[1] = told(2, 2, 9, update("a", "u", 1), api.Reply{Code: api.ErrWaits, Run: 1})
	taken(t, "an update that waits, told so", l, []api.Entry{commit(1, 2), read(2, 3)})
	unexplained(t, "an update that waits, told so, committed", l, []api.Entry{commit(1, 2), commit(2, 3)})
}

// TestWhatMayNotBeAsked: its Code alone counts, and it does nothing.
func TestWhatMayNotBeAsked(t *testing.T) {
	bad := start("a", "x")
	bad.Num = -1
	long := complete("a", 3)
	for range api.MaxAnswers + 1 {
		long.Answers = append(long.Answers, api.Answer{Op: 1})
	}
	for code := range api.Errno(28) {
		for _, c := range []struct {
			r    api.Request
			want api.Errno
		}{{bad, api.ErrArg}, {long, api.ErrLong}, {api.Request{}, api.ErrArg}} {
			for _, e := range []api.Entry{read(1, 3), commit(1, 3)} {
				x := api.Reply{Code: code, Run: 4, Events: []api.Event{{Kind: 99}}}
				l := []api.Record{told(1, 1, 9, c.r, x), told(2, 1, 9, describe("a"), api.Reply{Code: api.ErrNone})}
				if code == c.want {
					taken(t, "its code", l, []api.Entry{e, read(2, 3)})
				} else {
					unexplained(t, fmt.Sprint("code ", code), l, []api.Entry{e, read(2, 3)})
				}
				l[0] = cut(1, 1, c.r)
				taken(t, "not told", l, []api.Entry{e, read(2, 3)})
				if !Replay(l, []api.Entry{e}).Same(model.New()) {
					t.Error("it did something")
				}
			}
		}
	}
}

// TestReplay: each entry with its Now and its Asks, of those that are done.
func TestReplay(t *testing.T) {
	l, order := opened(t)
	want := model.New()
	for i := range 4 {
		want.Do(l[i].Request, order[i].Now, order[i].Asks)
	}
	m := Replay(l, order)
	if !m.Same(want) || m.Same(model.New()) {
		t.Error("another model")
	}
	if h := m.History("a", 1); len(h) != 7 || h[2].Time != 2 || h[4].Kind != api.EvAccepted || h[4].Time != 3 || h[5].Time != 4 {
		t.Error("the history is", h)
	}
	for i := range order {
		if !Replay(l, order[:i]).Same(Replay(l, append(slices.Clone(order[:i]), api.Entry{Op: 99, Commit: true}))) {
			t.Error("an entry of none did something")
		}
		e := order[i]
		e.Commit = !e.Commit
		if i != 3 && i < 4 != !Replay(l, append(slices.Clone(order[:i]), e)).Same(Replay(l, order[:i+1])) {
			t.Error("committed or not is the same:", i)
		}
	}
	l[0].Reply.Code = api.ErrBusy
	if m := Replay(l, order); len(m.Names()) != 0 {
		t.Error("what was told ErrBusy was done")
	}
	l[0].Replied = 0
	if !Replay(l, order).Same(want) {
		t.Error("what was not told was not done")
	}
	l[0].Replied = -1
	if !Replay(l, order).Same(want) {
		t.Error("what was told at -1 was not done")
	}
	// It does not ask whether the order is real.
	back := slices.Clone(order[:1])
	back[0].Now = math.MinInt
	if h := Replay(l, append(back, commit(99, 1))).History("a", 1); len(h) != 2 || h[0].Time != 0 {
		t.Error(h)
	}
	// Each answer goes its own way.
	a, b := Replay(l, order), Replay(l, order)
	a.Do(signal("a", "more"), 9, nil)
	if a.Same(b) || !b.Same(want) {
		t.Error("two models are one")
	}
}

// TestTwoRecordsOfOneEntry: such an order is not real; what is done then is the first one.
func TestTwoRecordsOfOneEntry(t *testing.T) {
	l := []api.Record{cut(1, 1, start("a", "x")), cut(1, 1, start("b", "x"))}
	if m := Replay(l, []api.Entry{commit(1, 2)}); !slices.Equal(m.Names(), []string{"a"}) {
		t.Error(m.Names())
	}
}

// TestALastEntryTakenAway (P32.5): if its record was not told.
func TestALastEntryTakenAway(t *testing.T) {
	l, order := opened(t)
	order = order[:4]
	for i := 4; i < len(l); i++ {
		l[i].Replied = 0
	}
	taken(t, "whole", l, order)
	taken(t, "the last one taken away", l, order[:3])
	unreal(t, "one that was told taken away", l, order[:2])
	for i := 2; i >= 0; i-- {
		l[i].Replied = 0
		taken(t, fmt.Sprint("down to ", i), l, order[:i+1])
		taken(t, fmt.Sprint("down to ahead of ", i), l, order[:i])
	}
}

// TestNothingIsChanged: what is handed in, however it is asked; and it may be changed behind.
func TestNothingIsChanged(t *testing.T) {
	l, order := opened(t)
	m := Replay(l, order)
	Check(l, order)
	Real(l, order)
	was, wasOrder := opened(t)
	if !reflect.DeepEqual(l, was) || !reflect.DeepEqual(order, wasOrder) {
		t.Error("what was handed in has changed")
	}
	for i := range l {
		for j := range l[i].Request.Value.List {
			l[i].Request.Value.List[j].Text = "spoilt"
		}
		for j := range l[i].Request.Commands {
			l[i].Request.Commands[j] = api.Command{Kind: 99}
		}
	}
	for i := range order {
		for j := range order[i].Asks {
			clear(order[i].Asks[j].Value.List)
			order[i].Asks[j].Name = "spoilt"
		}
	}
	if !m.Same(Replay(was, wasOrder)) {
		t.Error("the model changed with what was handed in")
	}
	f, _ := m.Flow("a")
	f.State.Input.List[0].Text = "spoilt"
	clear(m.History("a", 1))
	if !m.Same(Replay(was, wasOrder)) {
		t.Error("the model changed with what it told")
	}
	taken(t, "asked again", was, wasOrder)
}
