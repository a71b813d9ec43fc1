package state

import (
	"reflect"
	"strings"
	"testing"

	"usher/api"
)

const (
	theNaN   uint64 = 0x7ff8000000000000
	otherNaN uint64 = 0x7ff0000000000001
	two      uint64 = 1 << 62
	minus0   uint64 = 1 << 63
)

// The limits, as the document has them.
const (
	latest  = 1 << 40
	lastDue = 1 << 41
	lastTry = 1 << 31
)

func text(s string) api.Value {
	return api.Value{Kind: api.VText, Text: s}
}

// listOf gives a value that has memory of its own.
func listOf(s string) api.Value {
	return api.Value{Kind: api.VList, List: []api.Value{text(s)}}
}

func long(n int) string {
	return strings.Repeat("x", n)
}

// nested gives a number within so many lists.
func nested(lists int) api.Value {
	v := api.Value{Kind: api.VInt, Int: 1}
	for range lists {
		v = api.Value{Kind: api.VList, List: []api.Value{v}}
	}
	return v
}

// usual gives a state that can be, of which each field that may be another one than zero is.
func usual() api.State {
	return api.State{
		Run: 3, Status: api.StRunning, Count: 20, Time: 100, Deadline: 500, From: 2, Signals: 4,
		Type:   "t.1",
		Input:  listOf("in"),
		Policy: api.Policy{First: 10, Coef: two, Most: 350},
		Task:   api.Task{State: api.TaskTaken, Attempt: 7, Due: 110, Event: 18, Seen: 18},
		Fresh:  true, Cancel: true,
		Timers:  []api.Timer{{Name: "b", Due: 90}, {Name: "d", Due: 101}, {Name: "f", Due: 102}},
		Updates: []api.Update{{Name: "b", Value: listOf("b"), Stage: 1}, {Name: "d", Value: listOf("d"), Stage: 2, Outcome: listOf("done")}},
	}
}

// of gives the usual state, changed.
func of(changes ...func(s *api.State)) api.State {
	s := usual()
	for _, c := range changes {
		c(&s)
	}
	return s
}

// ended gives the usual state as it is behind the run's end.
func ended(status int) api.State {
	s := usual()
	s.Status, s.Task, s.Timers = status, api.Task{}, nil
	switch status {
	case api.StCompleted:
		s.Result = listOf("out")
	case api.StFailed, api.StTerminated:
		s.Reason = "why? \xff\x00"
	}
	return s
}

// fields are changes of each field, and of each part of one, by which a state becomes another one.
func fields() map[string]func(s *api.State) {
	return map[string]func(s *api.State){
		"Run":          func(s *api.State) { s.Run++ },
		"Status":       func(s *api.State) { s.Status++ },
		"Count":        func(s *api.State) { s.Count++ },
		"Time":         func(s *api.State) { s.Time++ },
		"Deadline":     func(s *api.State) { s.Deadline++ },
		"From":         func(s *api.State) { s.From++ },
		"Signals":      func(s *api.State) { s.Signals++ },
		"Type":         func(s *api.State) { s.Type += "a" },
		"Input":        func(s *api.State) { s.Input.List[0].Text += "a" },
		"First":        func(s *api.State) { s.Policy.First++ },
		"Coef":         func(s *api.State) { s.Policy.Coef ^= minus0 },
		"Most":         func(s *api.State) { s.Policy.Most++ },
		"State":        func(s *api.State) { s.Task.State++ },
		"Attempt":      func(s *api.State) { s.Task.Attempt++ },
		"Due":          func(s *api.State) { s.Task.Due++ },
		"Event":        func(s *api.State) { s.Task.Event++ },
		"Seen":         func(s *api.State) { s.Task.Seen++ },
		"Fresh":        func(s *api.State) { s.Fresh = !s.Fresh },
		"Cancel":       func(s *api.State) { s.Cancel = !s.Cancel },
		"a timer's":    func(s *api.State) { s.Timers[1].Name += "a" },
		"a timer's at": func(s *api.State) { s.Timers[1].Due++ },
		"no timer":     func(s *api.State) { s.Timers = nil },
		"timers":       func(s *api.State) { s.Timers = s.Timers[:1] },
		"their order":  func(s *api.State) { s.Timers[0], s.Timers[1] = s.Timers[1], s.Timers[0] },
		"an update's":  func(s *api.State) { s.Updates[1].Name += "a" },
		"its value":    func(s *api.State) { s.Updates[1].Value.List[0].Text += "a" },
		"its stage":    func(s *api.State) { s.Updates[1].Stage++ },
		"its outcome":  func(s *api.State) { s.Updates[1].Outcome.List[0].Text += "a" },
		"no update":    func(s *api.State) { s.Updates = nil },
		"updates":      func(s *api.State) { s.Updates = s.Updates[:1] },
		"Result":       func(s *api.State) { s.Result = api.Value{Kind: api.VFloat, Bits: minus0} },
		"Reason":       func(s *api.State) { s.Reason += "a" },
	}
}

func TestRunning(t *testing.T) {
	for status := -1; status <= 8; status++ {
		if Running(api.State{Status: status}) != (status == 1) || Running(of(func(s *api.State) { s.Status = status })) != (status == 1) {
			t.Errorf("Status %d", status)
		}
	}
}

func TestSame(t *testing.T) {
	if !Same(usual(), usual()) || !Same(api.State{}, api.State{}) || Same(usual(), api.State{}) {
		t.Error("states that are the same, and not")
	}
	for why, change := range fields() {
		a, b := of(change), of(change)
		if !Same(a, b) {
			t.Errorf("%s: not the same as itself", why)
		}
		if Same(a, usual()) || Same(usual(), a) {
			t.Errorf("%s does not count", why)
		}
	}
	for status := api.StNone; status <= api.StTimedOut; status++ {
		if !Same(ended(status), ended(status)) {
			t.Errorf("Status %d", status)
		}
	}
	zeros := of(func(s *api.State) { s.Input = api.Value{Kind: api.VFloat} })
	if Same(zeros, of(func(s *api.State) { s.Input = api.Value{Kind: api.VFloat, Bits: minus0} })) {
		t.Error("-0 and 0 are two values")
	}
}

func TestEmptyListsAreAsNone(t *testing.T) {
	none := of(func(s *api.State) { s.Timers, s.Updates, s.Input.List = nil, nil, nil })
	empty := of(func(s *api.State) {
		s.Timers, s.Updates, s.Input.List = []api.Timer{}, []api.Update{}, []api.Value{}
		s.Result.List = []api.Value{}
	})
	if !Same(none, empty) || !Same(empty, none) || !Same(Clone(empty), none) || !Same(Clone(none), empty) {
		t.Error("Same")
	}
	if !Can(none) || !Can(empty) {
		t.Error("Can")
	}
	for _, s := range []api.State{none, empty} {
		if u, ok := Update(s, "b"); ok || !reflect.DeepEqual(u, api.Update{}) {
			t.Error("Update", u, ok)
		}
		x, e := Step(s, api.Event{Kind: api.EvTimer, Time: 100, Name: "a", Due: 7})
		if e != api.OK || !reflect.DeepEqual(x.Timers, []api.Timer{{Name: "a", Due: 7}}) {
			t.Error("EvTimer", x, e)
		}
	}
	// An Outcome, and a Result, of an empty list field is none.
	if !Can(of(func(s *api.State) { s.Updates[0].Outcome.List = []api.Value{} })) {
		t.Error("an empty Outcome")
	}
}

// spoil changes all that a state shares with others, if it does.
func spoil(s api.State) {
	spoilValue(s.Input)
	spoilValue(s.Result)
	timers := s.Timers[:cap(s.Timers)]
	for i := range timers {
		timers[i] = api.Timer{Name: "spoilt", Due: -1}
	}
	updates := s.Updates[:cap(s.Updates)]
	for i := range updates {
		spoilValue(updates[i].Value)
		spoilValue(updates[i].Outcome)
		updates[i].Name, updates[i].Stage = "spoilt", -1
	}
}

func spoilValue(v api.Value) {
	l := v.List[:cap(v.List)]
	for i := range l {
		l[i].Text = "spoilt"
	}
}

// TestClone makes its states anew each time: a clone that shares memory with a state would change with it.
func TestClone(t *testing.T) {
	makes := []func() api.State{
		func() api.State { return api.State{} },
		usual,
		func() api.State {
			return of(func(s *api.State) { s.Status, s.Count, s.Updates[0].Stage, s.Result = -5, -1, 9, listOf("r") })
		},
	}
	for status := range 8 {
		makes = append(makes, func() api.State { return ended(status) })
	}
	for i, made := range makes {
		s := made()
		x := Clone(s)
		if !reflect.DeepEqual(x, made()) || !Same(x, made()) {
			t.Fatalf("state %d: %v", i, x)
		}
		spoil(x)
		if !reflect.DeepEqual(s, made()) {
			t.Fatalf("state %d changed with its clone", i)
		}
		x = Clone(s)
		spoil(s)
		if !reflect.DeepEqual(x, made()) {
			t.Fatalf("the clone of state %d changed with it", i)
		}
	}
}

func TestUpdate(t *testing.T) {
	s := usual()
	u, ok := Update(s, "d")
	if !ok || !reflect.DeepEqual(u, usual().Updates[1]) {
		t.Fatal(u, ok)
	}
	spoilValue(u.Value)
	spoilValue(u.Outcome)
	if !reflect.DeepEqual(s, usual()) {
		t.Error("what Update gave shares memory with the state")
	}
	if u, ok := Update(s, "b"); !ok || !reflect.DeepEqual(u, usual().Updates[0]) {
		t.Error(u, ok)
	}
	for _, name := range []string{"", "a", "c", "e", "D", "bb", "\xff"} {
		if u, ok := Update(s, name); ok || !reflect.DeepEqual(u, api.Update{}) {
			t.Errorf("%q: %v", name, u)
		}
	}
	if u, ok := Update(api.State{}, ""); ok || !reflect.DeepEqual(u, api.Update{}) {
		t.Error("of the zero state", u)
	}
	// In a state that can't be, too: the first one counts.
	s.Updates = []api.Update{{Name: "z", Stage: 1}, {Name: "a", Stage: 2}, {Name: "z", Stage: 2}, {Stage: 8}}
	for name, stage := range map[string]int{"z": 1, "a": 2, "": 8} {
		if u, ok := Update(s, name); !ok || u.Stage != stage {
			t.Errorf("%q: %v, %v", name, u, ok)
		}
	}
}
