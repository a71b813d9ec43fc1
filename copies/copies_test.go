package copies

import (
	"fmt"
	"reflect"
	"testing"

	"usher/api"
)

func listOf(s string) api.Value {
	return api.Value{Kind: api.VList, Int: 1, Bits: 2, Text: "t", List: []api.Value{{Kind: api.VList, List: []api.Value{{Text: s}}}, {Text: s}}}
}

func asks(s string) []api.Ask {
	return []api.Ask{{Op: 1, Name: s, Value: listOf(s)}, {Op: 2, Value: listOf(s + "2")}}
}

func events() []api.Event {
	return []api.Event{{Kind: 1, Time: 2, Num: 3, Due: 4, Name: "e", Value: listOf("e"), Policy: api.Policy{First: 1, Coef: 2, Most: 3}}, {Kind: 5}}
}

func state() api.State {
	return api.State{Run: 1, Status: 2, Count: 3, Time: 4, Deadline: 5, From: 6, Signals: 7, Type: "t", Input: listOf("in"), Policy: api.Policy{First: 1, Coef: 2, Most: 3},
		Task: api.Task{State: 1, Attempt: 2, Due: 3, Event: 4, Seen: 5}, Fresh: true, Cancel: true, Timers: []api.Timer{{Name: "c", Due: 1}}, Updates: []api.Update{{Name: "u", Value: listOf("u"), Stage: 2, Outcome: listOf("o")}}, Result: listOf("r"), Reason: "why"}
}

func request() api.Request {
	return api.Request{Kind: 1, Flow: "f", Request: "r", Name: "n", Value: listOf("v"), Run: 2, Num: 3, Wait: 4, Policy: api.Policy{First: 1, Coef: 2, Most: 3},
		Commands: []api.Command{{Kind: 1, Name: "c", Value: listOf("c"), Delay: 2}}, Answers: []api.Answer{{Op: 1, Value: listOf("a")}}}
}

func reply() api.Reply {
	return api.Reply{Code: 1, Run: 2, Num: 3, Value: listOf("v"), State: state(), Events: events(), Queries: asks("q"), Updates: asks("u")}
}

// places notes where all lists of v lie.
func places(v reflect.Value, at map[uintptr]int) {
	switch v.Kind() {
	case reflect.Slice:
		if v.Cap() > 0 {
			at[v.Pointer()]++
		}
		for i := range v.Len() {
			places(v.Index(i), at)
		}
	case reflect.Struct:
		for i := range v.NumField() {
			places(v.Field(i), at)
		}
	}
}

// full complains of a field that is zero: a copy of it would tell nothing.
func full(t *testing.T, v reflect.Value, path string) {
	t.Helper()
	if v.IsZero() {
		t.Errorf("%s is zero", path)
	}
	if v.Kind() == reflect.Struct && v.Type() != reflect.TypeFor[api.Value]() {
		for i := range v.NumField() {
			full(t, v.Field(i), path+"."+v.Type().Field(i).Name)
		}
	}
	if v.Kind() == reflect.Slice {
		full(t, v.Index(0), path+".0")
	}
}

// copied complains unless a copy is the same, in new memory, and of what is empty, too.
func copied[T any](t *testing.T, what string, x T, copy func(x T) T) {
	t.Helper()
	var none T
	full(t, reflect.ValueOf(x), what)
	before := fmt.Sprintf("%+v", x)
	got := copy(x)
	if !reflect.DeepEqual(got, x) || fmt.Sprintf("%+v", x) != before {
		t.Errorf("%s: %+v, not %+v", what, got, x)
	}
	at := map[uintptr]int{}
	places(reflect.ValueOf(x), at)
	places(reflect.ValueOf(got), at)
	for _, n := range at {
		if n > 1 {
			t.Errorf("%s: memory is shared", what)
		}
	}
	if got := copy(none); !reflect.DeepEqual(got, none) {
		t.Errorf("%s of nothing: %+v", what, got)
	}
}

func TestCopies(t *testing.T) {
	copied(t, "Request", request(), Request)
	copied(t, "Reply", reply(), Reply)
	copied(t, "State", state(), State)
	copied(t, "Events", events(), Events)
	copied(t, "Asks", asks("a"), Asks)
	if v := listOf("x"); true {
		got := Value(v)
		v.List[0].List[0].Text = "spoilt"
		v.List[1].Text = "spoilt"
		if !reflect.DeepEqual(got, listOf("x")) {
			t.Errorf("Value: %+v", got)
		}
	}
}

// TestEmptyLists: one that has room behind it shares none of that.
func TestEmptyLists(t *testing.T) {
	l := make([]api.Value, 0, 4)
	got := Value(api.Value{List: l})
	if got = (api.Value{List: append(got.List, api.Value{Text: "mine"})}); l[:1][0].Text != "" {
		t.Errorf("%+v is shared", got)
	}
	if Each([]int(nil), func(n int) int { return n }) != nil {
		t.Error("a list of none has become an empty one")
	}
}

func TestEach(t *testing.T) {
	l := []int{1, 2, 3}
	got := Each(l, func(n int) int { return n * n })
	if !reflect.DeepEqual(got, []int{1, 4, 9}) || !reflect.DeepEqual(l, []int{1, 2, 3}) {
		t.Error(got, l)
	}
}
