package state

import (
	"fmt"
	"math"
	"testing"

	"usher/api"
)

// asked is a state, and whether it can be.
type asked struct {
	why string
	s   api.State
	can bool
}

func askAll(t *testing.T, l []asked) {
	t.Helper()
	for _, c := range l {
		if Can(c.s) != c.can {
			t.Errorf("%s: Can is not %v", c.why, c.can)
		}
	}
}

// around gives the usual states in which one number is at its edges, and beyond.
func around(name string, base api.State, field func(s *api.State) *int, least, most int) []asked {
	var out []asked
	for _, n := range []int{math.MinInt, -1, least - 1, least, least + 1, most - 1, most, most + 1, math.MaxInt} {
		s := Clone(base)
		*field(&s) = n
		out = append(out, asked{fmt.Sprint(name, " ", n), s, least <= n && n <= most})
	}
	return out
}

func TestCanOfUsualStates(t *testing.T) {
	if !Can(usual()) {
		t.Error("the usual state")
	}
	for status := api.StCompleted; status <= api.StTimedOut; status++ {
		if !Can(ended(status)) {
			t.Errorf("Status %d", status)
		}
	}
	if Can(api.State{}) || Can(api.State{Run: 1}) {
		t.Error("the zero state")
	}
	for i := range 4 {
		if !Can(of(func(s *api.State) { s.Fresh, s.Cancel = i&1 != 0, i&2 != 0 })) {
			t.Error("Fresh and Cancel are free")
		}
	}
}

func TestCanOfNumbers(t *testing.T) {
	s := usual()
	askAll(t, around("Run", s, func(s *api.State) *int { return &s.Run }, 1, 10))
	askAll(t, around("From", s, func(s *api.State) *int { return &s.From }, 0, 10))
	askAll(t, around("Signals", s, func(s *api.State) *int { return &s.Signals }, 0, 20))
	askAll(t, around("Time", s, func(s *api.State) *int { return &s.Time }, 0, latest))
	askAll(t, around("Deadline", s, func(s *api.State) *int { return &s.Deadline }, 0, lastDue))
	s.Signals, s.Task = 0, api.Task{}
	askAll(t, around("Count", s, func(s *api.State) *int { return &s.Count }, 1, 120))
	s.Timers = nil
	askAll(t, around("Status", s, func(s *api.State) *int { return &s.Status }, 1, 6))
	for count, can := range map[int]bool{3: false, 4: true, 120: true} {
		s.Count, s.Signals = count, 4
		if Can(s) != can {
			t.Errorf("4 signals of %d events", count)
		}
	}
}

// values are some that may be, and some that may not; the first one is the zero value.
func values() (good, bad []api.Value) {
	good = []api.Value{{}, {Kind: api.VInt, Int: math.MinInt}, {Kind: api.VFloat, Bits: theNaN}, {Kind: api.VFloat, Bits: minus0}, text(""), text(long(200)), nested(4), {Kind: api.VList}}
	bad = []api.Value{{Kind: 5}, {Kind: -1}, {Int: 1}, {Text: "a"}, {List: []api.Value{{}}}, {Kind: api.VFloat, Bits: otherNaN}, text(long(201)), nested(5), {Kind: api.VList, List: make([]api.Value, 13)}}
	return good, bad
}

// manyValues gives states with each of the values put in; the zero value alone may be, if only is so.
func manyValues(name string, base api.State, field func(s *api.State) *api.Value, only bool) []asked {
	var out []asked
	good, bad := values()
	for i, v := range append(good, bad...) {
		s := Clone(base)
		*field(&s) = v
		out = append(out, asked{fmt.Sprint(name, " ", v), s, i == 0 || !only && i < len(good)})
	}
	return out
}

// manyNames gives states with each of some names, and of what is none, put in.
func manyNames(name string, base api.State, field func(s *api.State) *string) []asked {
	var out []asked
	for s, can := range map[string]bool{
		"a": true, "_": true, "0": true, "Z.-_": true, long(24): true,
		"": false, ".a": false, "-": false, "a b": false, "a/b": false, "\xff": false, "a\x00": false, long(25): false, long(200): false,
	} {
		x := Clone(base)
		*field(&x) = s
		out = append(out, asked{fmt.Sprintf("%s %q", name, s), x, can})
	}
	return out
}

func TestCanOfWhatStartedIt(t *testing.T) {
	askAll(t, manyNames("Type", usual(), func(s *api.State) *string { return &s.Type }))
	askAll(t, manyValues("Input", usual(), func(s *api.State) *api.Value { return &s.Input }, false))
	for p, can := range map[api.Policy]bool{
		{}: true, {First: 1 << 30, Most: 1 << 30, Coef: 0x7ff0000000000000}: true, {Coef: minus0}: true,
		{First: -1}: false, {Most: -1}: false, {First: 1<<30 + 1}: false, {Most: 1<<30 + 1}: false, {Coef: theNaN}: false, {Coef: otherNaN}: false,
	} {
		if Can(of(func(s *api.State) { s.Policy = p })) != can {
			t.Errorf("Policy %v: Can is not %v", p, can)
		}
	}
}

func TestCanOfEnds(t *testing.T) {
	for status := api.StRunning; status <= api.StTimedOut; status++ {
		s := ended(status)
		askAll(t, manyValues(fmt.Sprint("Status ", status, " Result"), s, func(s *api.State) *api.Value { return &s.Result }, status != api.StCompleted))
		hasReason := status == api.StFailed || status == api.StTerminated
		for _, n := range []int{0, 1, 199, 200, 201, 1000} {
			s := ended(status)
			s.Reason = long(n)
			if Can(s) != (n == 0 || hasReason && n <= 200) {
				t.Errorf("Status %d with a Reason of %d bytes", status, n)
			}
		}
		runs := status == api.StRunning
		for why, change := range map[string]func(s *api.State){
			"a task that waits":    func(s *api.State) { s.Task = api.Task{State: api.TaskWaits, Attempt: 1} },
			"a task that is taken": func(s *api.State) { s.Task = usual().Task },
			"a timer":              func(s *api.State) { s.Timers = []api.Timer{{Name: "a"}} },
			"timers":               func(s *api.State) { s.Timers = usual().Timers },
		} {
			s := ended(status)
			change(&s)
			if Can(s) != runs {
				t.Errorf("Status %d with %s: Can is not %v", status, why, runs)
			}
		}
		s.Timers = []api.Timer{}
		if !Can(s) {
			t.Errorf("Status %d with an empty list of timers", status)
		}
	}
}

func TestCanOfTasks(t *testing.T) {
	task := func(t api.Task) api.State { return of(func(s *api.State) { s.Task = t }) }
	attempt := func(s *api.State) *int { return &s.Task.Attempt }
	due := func(s *api.State) *int { return &s.Task.Due }
	event := func(s *api.State) *int { return &s.Task.Event }
	seen := func(s *api.State) *int { return &s.Task.Seen }
	for _, f := range []func(s *api.State) *int{attempt, due, event, seen} {
		askAll(t, around("TaskNone", task(api.Task{}), f, 0, 0))
	}
	waits := task(api.Task{State: api.TaskWaits, Attempt: 7, Due: 110})
	askAll(t, around("TaskWaits Attempt", waits, attempt, 1, lastTry))
	askAll(t, around("TaskWaits Due", waits, due, 0, lastDue))
	askAll(t, around("TaskWaits Event", waits, event, 0, 0))
	askAll(t, around("TaskWaits Seen", waits, seen, 0, 0))
	askAll(t, around("TaskTaken Attempt", usual(), attempt, 1, lastTry))
	askAll(t, around("TaskTaken Due", usual(), due, 0, lastDue))
	askAll(t, around("TaskTaken Event", usual(), event, 18, 18))
	askAll(t, around("TaskTaken Seen", usual(), seen, 18, 18))
	for _, n := range []int{-1, 0, 1, 2, 19, 20, 21} {
		if Can(task(api.Task{State: api.TaskTaken, Attempt: 1, Event: n, Seen: n})) != (1 <= n && n <= 20) {
			t.Errorf("TaskTaken by event %d of 20", n)
		}
	}
	for _, n := range []int{-1, 3, math.MaxInt, math.MinInt} {
		if Can(task(api.Task{State: n})) || Can(task(api.Task{State: n, Attempt: 1, Event: 1, Seen: 1})) {
			t.Errorf("a task's state %d", n)
		}
	}
	if Can(task(api.Task{State: api.TaskWaits})) || Can(task(api.Task{State: api.TaskTaken})) {
		t.Error("a task of no attempt")
	}
}

// timersOf gives timers, updatesOf updates, of these names.
func timersOf(names string) (l []api.Timer) {
	for _, c := range names {
		l = append(l, api.Timer{Name: string(c)})
	}
	return l
}

func updatesOf(names string) (l []api.Update) {
	for _, c := range names {
		l = append(l, api.Update{Name: string(c), Stage: 1})
	}
	return l
}

func TestCanOfLists(t *testing.T) {
	for names, can := range map[string]bool{
		"": true, "a": true, "ab": true, "Aa": true, "0Aa": true, "_a": true, "abcdefghi": true, "abcdefghij": true,
		"abcdefghijk": false, "abcdefghijklmnop": false,
		"ba": false, "aa": false, "aab": false, "abb": false, "aba": false, "aA": false, "abdce": false, "bcda": false, "/a": false, "a~": false,
	} {
		if Can(of(func(s *api.State) { s.Timers = timersOf(names) })) != can {
			t.Errorf("timers %s: Can is not %v", names, can)
		}
		if Can(of(func(s *api.State) { s.Updates = updatesOf(names) })) != can {
			t.Errorf("updates %s: Can is not %v", names, can)
		}
	}
}

func TestCanOfTimers(t *testing.T) {
	for at := range 3 {
		askAll(t, around(fmt.Sprint("Due of timer ", at), usual(), func(s *api.State) *int { return &s.Timers[at].Due }, 0, lastDue))
	}
	one := of(func(s *api.State) { s.Timers = timersOf("a") })
	askAll(t, manyNames("a timer's name", one, func(s *api.State) *string { return &s.Timers[0].Name }))
}

func TestCanOfUpdates(t *testing.T) {
	one := of(func(s *api.State) { s.Updates = updatesOf("a") })
	askAll(t, manyNames("an update's name", one, func(s *api.State) *string { return &s.Updates[0].Name }))
	for at := range 2 {
		askAll(t, manyValues("an update's value", usual(), func(s *api.State) *api.Value { return &s.Updates[at].Value }, false))
		for _, stage := range []int{math.MinInt, -1, 0, 1, 2, 3, math.MaxInt} {
			outcome := func(s *api.State) *api.Value { return &s.Updates[at].Outcome }
			l := manyValues(fmt.Sprint("Stage ", stage, " of update ", at, " Outcome"), of(func(s *api.State) { s.Updates[at].Stage = stage }), outcome, stage == 1)
			for i := range l {
				l[i].can = l[i].can && (stage == 1 || stage == 2)
			}
			askAll(t, l)
		}
	}
}

func TestCanChangesNothing(t *testing.T) {
	s := usual()
	Can(s)
	Running(s)
	Same(s, s)
	Update(s, "b")
	if !Same(s, usual()) {
		t.Error("a state was changed")
	}
}
