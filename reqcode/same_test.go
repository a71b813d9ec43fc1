package reqcode

import (
	"fmt"
	"math"
	"reflect"
	"testing"

	"usher/api"
)

// changed calls try with each field of what v points at, however deep, changed alone, one behind the other, and changes it back.
func changed(v reflect.Value, name string, try func(name string)) {
	switch v.Kind() {
	case reflect.Struct:
		for i := range v.NumField() {
			changed(v.Field(i), name+"."+v.Type().Field(i).Name, try)
		}
		return
	case reflect.Slice:
		for i := range v.Len() {
			changed(v.Index(i), fmt.Sprint(name, "[", i, "]"), try)
		}
	}
	was := reflect.New(v.Type()).Elem()
	was.Set(v)
	for i, other := range others(v) {
		v.Set(other)
		try(fmt.Sprint(name, " changed ", i))
		v.Set(was)
	}
}

// others gives what a field might be instead.
func others(v reflect.Value) []reflect.Value {
	var out []reflect.Value
	of := func(x any) { out = append(out, reflect.ValueOf(x).Convert(v.Type())) }
	switch v.Kind() {
	case reflect.Int:
		for _, n := range []int64{v.Int() + 1, -v.Int() - 1, math.MinInt64, math.MaxInt64} {
			of(n)
		}
	case reflect.Uint64:
		of(v.Uint() ^ minus0)
		of(v.Uint() + 1)
	case reflect.String:
		of(v.String() + "x")
		of("\x00" + v.String())
	case reflect.Bool:
		of(!v.Bool())
	case reflect.Slice:
		out = append(out, reflect.Append(v.Slice3(0, v.Len(), v.Len()), reflect.Zero(v.Type().Elem())))
		if v.Len() > 0 {
			out = append(out, v.Slice(0, v.Len()-1))
		}
	}
	return out
}

func TestSameRequest(t *testing.T) {
	for _, r := range []func() api.Request{usual, func() api.Request { return api.Request{} }} {
		a, b := r(), r()
		if !SameRequest(a, b) || !SameRequest(a, a) {
			t.Error("not the same as itself")
		}
		n := 0
		changed(reflect.ValueOf(&b).Elem(), "", func(name string) {
			n++
			if SameRequest(a, b) || SameRequest(b, a) {
				t.Errorf("%s: the same", name)
			}
			if !SameRequest(b, b) {
				t.Errorf("%s: not the same as itself", name)
			}
		})
		if !SameRequest(a, b) || n < 40 {
			t.Error(n, "changes")
		}
	}
}

func TestSameReply(t *testing.T) {
	for _, r := range []func() api.Reply{told, func() api.Reply { return api.Reply{} }} {
		a, b := r(), r()
		if !SameReply(a, b) || !SameReply(a, a) {
			t.Error("not the same as itself")
		}
		n := 0
		changed(reflect.ValueOf(&b).Elem(), "", func(name string) {
			n++
			if SameReply(a, b) || SameReply(b, a) {
				t.Errorf("%s: the same", name)
			}
			if !SameReply(b, b) {
				t.Errorf("%s: not the same as itself", name)
			}
		})
		if !SameReply(a, b) || n < 90 {
			t.Error(n, "changes")
		}
	}
}

// TestFieldsThatTradePlaces: what stands in another field is another thing.
func TestFieldsThatTradePlaces(t *testing.T) {
	a := usual()
	for i, b := range []api.Request{
		asked(func(r *api.Request) { r.Flow, r.Name = r.Name, r.Flow }),
		asked(func(r *api.Request) { r.Run, r.Num = r.Num, r.Run }),
		asked(func(r *api.Request) { r.Policy.First, r.Policy.Most = r.Policy.Most, r.Policy.First }),
		asked(func(r *api.Request) { r.Commands[0], r.Commands[1] = r.Commands[1], r.Commands[0] }),
		asked(func(r *api.Request) { r.Answers[0], r.Answers[1] = r.Answers[1], r.Answers[0] }),
	} {
		if SameRequest(a, b) {
			t.Error("request", i)
		}
	}
	x := told()
	for i, y := range []api.Reply{
		answered(func(r *api.Reply) { r.Queries, r.Updates = r.Updates, r.Queries }),
		answered(func(r *api.Reply) { r.Events[0], r.Events[1] = r.Events[1], r.Events[0] }),
		answered(func(r *api.Reply) { r.Queries[0], r.Queries[1] = r.Queries[1], r.Queries[0] }),
		answered(func(r *api.Reply) { r.State.Updates[0], r.State.Updates[1] = r.State.Updates[1], r.State.Updates[0] }),
	} {
		if SameReply(x, y) {
			t.Error("reply", i)
		}
	}
}

func TestEmptyListsAreTheSameAsNone(t *testing.T) {
	none := api.Value{List: []api.Value{}}
	a := api.Request{Value: none, Commands: []api.Command{}, Answers: []api.Answer{}}
	if !SameRequest(a, api.Request{}) || !SameRequest(api.Request{}, a) {
		t.Error("a request")
	}
	b := asked(func(r *api.Request) { r.Commands[0].Value, r.Answers[1].Value = none, none })
	c := asked(func(r *api.Request) { r.Commands[0].Value, r.Answers[1].Value = api.Value{}, api.Value{} })
	if !SameRequest(b, c) || !SameRequest(c, b) {
		t.Error("a request's lists")
	}
	x := api.Reply{Value: none, State: emptyState(), Events: []api.Event{}, Queries: []api.Ask{}, Updates: []api.Ask{}}
	if !SameReply(x, api.Reply{}) || !SameReply(api.Reply{}, x) {
		t.Error("a reply")
	}
	y := answered(func(r *api.Reply) { r.Events[0].Value, r.Updates[2].Value, r.State.Result = none, none, none })
	if !SameReply(y, told()) || !SameReply(told(), y) {
		t.Error("a reply's lists")
	}
}

// TestSameOfWhatMayNotBe: it is asked of any two, whether they may be written or not.
func TestSameOfWhatMayNotBe(t *testing.T) {
	for _, v := range badValues() {
		a, b := api.Request{Kind: -1, Run: math.MinInt, Value: v}, api.Request{Kind: -1, Run: math.MinInt, Value: v}
		if !SameRequest(a, b) || SameRequest(a, api.Request{Kind: -1, Run: math.MinInt}) {
			t.Errorf("%+v", v)
		}
	}
	for i, s := range badStates() {
		if !SameReply(api.Reply{State: s}, api.Reply{State: s}) || SameReply(api.Reply{State: s}, api.Reply{}) {
			t.Error("state", i)
		}
	}
	for i, e := range badEvents() {
		l := []api.Event{e}
		if !SameReply(api.Reply{Code: -1, Events: l}, api.Reply{Code: -1, Events: l}) || SameReply(api.Reply{Events: l}, api.Reply{}) {
			t.Error("event", i)
		}
	}
	minus := api.Request{Policy: api.Policy{Coef: minus0}}
	if SameRequest(minus, api.Request{}) {
		t.Error("-0 is the same as 0")
	}
	nan := api.Request{Policy: api.Policy{Coef: otherNaN}}
	if !SameRequest(nan, nan) || SameRequest(nan, api.Request{Policy: api.Policy{Coef: theNaN}}) {
		t.Error("NaNs by their bits")
	}
}
