package door

import (
	"fmt"
	"reflect"
	"testing"

	"usher/api"
	"usher/machine"
)

// spoil changes all that v holds, however deep: whoever shares it is seen to change.
func spoil(v reflect.Value) {
	switch v.Kind() {
	case reflect.Slice:
		room := v.Slice(0, v.Cap()) // room behind a list is memory, too
		for i := range room.Len() {
			spoil(room.Index(i))
		}
	case reflect.Struct:
		for i := range v.NumField() {
			spoil(v.Field(i))
		}
	case reflect.Int:
		v.SetInt(v.Int() + 1000)
	case reflect.Uint8, reflect.Uint64:
		v.SetUint(v.Uint() ^ 85)
	case reflect.String:
		v.SetString(v.String() + " spoilt")
	case reflect.Bool:
		v.SetBool(!v.Bool())
	}
}

// memory notes where each list that has room lies, and complains of two that share a place.
func memory(t *testing.T, v reflect.Value, at map[uintptr]string, path string) {
	t.Helper()
	switch v.Kind() {
	case reflect.Slice:
		size := v.Type().Elem().Size()
		for i := range v.Cap() {
			p := v.Pointer() + uintptr(i)*size
			if at[p] != "" {
				t.Errorf("%s is %s", path, at[p])
			}
			at[p] = path
		}
		for i := range v.Len() {
			memory(t, v.Index(i), at, fmt.Sprint(path, ".", i))
		}
	case reflect.Struct:
		for i := range v.NumField() {
			memory(t, v.Field(i), at, path+"."+v.Type().Field(i).Name)
		}
	}
}

// held gives all that a door tells of itself as a text, which shares nothing with it.
func (v *server) held() string {
	out := fmt.Sprintf("%+v\n%x\n", v.Waits(), v.Store().Image())
	for session := range api.MaxSessions {
		m, has := v.Machine(session)
		out += fmt.Sprintf("%d %v %+v\n", session, has, m)
	}
	return out
}

// spoils complains if what p points to is shared with the door, or with itself.
func (v *server) spoils(why string, p any) {
	v.Helper()
	x := reflect.ValueOf(p).Elem()
	memory(v.T, x, map[uintptr]string{}, why)
	before := v.held()
	spoil(x)
	same(v.T, why+" was spoilt", v.held(), before)
}

// busyServer has operations in all phases, and such that wait, with lists in all places.
func busyServer(t *testing.T) *server {
	t.Helper()
	v := running(t)
	v.invoked(1, update("a", "u", 1, 100), api.PhWait)
	v.invoked(2, query("a", 100), api.PhWait)
	v.did(0, signal("a", "s"))
	v.invoked(3, poll("a"), api.PhSync)
	v.invoked(4, describe("a"), api.PhReply)
	r := complete("a", 1, 3, api.Command{Kind: api.CmReject, Name: "u", Value: listOf("no")}, api.Command{Kind: api.CmMarker, Value: listOf("m")})
	r.Answers = answers("a", 1, 4).Answers
	v.invoked(5, r, api.PhCommit)
	v.invoke(6, start("b", "x"))
	return v
}

// TestWhatIsToldIsNew: whoever is told it may change it.
func TestWhatIsToldIsNew(t *testing.T) {
	v := busyServer(t)
	for session := range api.MaxSessions {
		m, _ := v.Machine(session)
		v.spoils(fmt.Sprint("machine ", session), &m)
	}
	l := v.Waits()
	v.spoils("the waits", &l)
	if len(l) != 2 {
		t.Error(l)
	}
	asks := 0
	for range machine.Most() {
		for session := range api.MaxSessions {
			told := v.Step(session, 0)
			asks += len(told.Entry.Asks)
			v.spoils(fmt.Sprint("told of session ", session), &told)
			l := v.Waits()
			v.spoils("the waits", &l)
		}
	}
	if asks == 0 {
		t.Error("no entry has asks")
	}
}

// TestWhatWasHandedInIsKept: whoever handed it in may change it, and finds it as it was.
func TestWhatWasHandedInIsKept(t *testing.T) {
	for kind := range 15 {
		r := api.Request{Kind: kind, Flow: "a", Request: "r", Name: "n", Value: listOf("v"), Num: 3, Run: 1, Commands: []api.Command{{Kind: api.CmMarker, Value: listOf("m")}}, Answers: answers("a", 1, 2, 3).Answers}
		v := running(t)
		v.invoke(1, r)
		before := v.held()
		spoil(reflect.ValueOf(&r).Elem())
		same(t, "the door", v.held(), before)
	}
	v := running(t)
	v.invoked(1, query("a", 100), api.PhWait)
	v.did(0, poll("a"))
	l := []api.Request{start("b", "y"), signal("a", "s"), update("a", "u", 2, 5), complete("a", 1, 3, api.Command{Kind: api.CmMarker, Value: listOf("m")}), answers("a", 1, 3), {}}
	for i, r := range l {
		x := machine.New(0, r).Request
		v.now++
		v.does2(0, r)
		same(t, fmt.Sprint("request ", i), r, x)
	}
}

// does2 is as does, of one that may wait.
func (v *server) does2(session int, r api.Request) {
	v.Helper()
	v.invoke(session, r)
	for !v.step(session).Done {
		v.now++
	}
}

// TestWhatIsDoneIsGone: a reply is nobody's but its client's.
func TestWhatIsDoneIsGone(t *testing.T) {
	v := running(t)
	v.invoked(1, query("a", 100), api.PhWait)
	x := v.did(0, poll("a"))
	if len(x.Queries) != 1 {
		t.Fatal(x)
	}
	v.spoils("a poll's reply", &x)
	v.did(0, poll("a"))
	r := answers("a", 1, 3)
	v.did(0, r)
	spoil(reflect.ValueOf(&r).Elem())
	if w := v.wait(3); !reflect.DeepEqual(w.Value, listOf("answer to 3")) {
		t.Error(w)
	}
	y := v.reply(1)
	v.spoils("a query's reply", &y)
	if len(v.machines) != 0 || len(v.waits) != 0 {
		t.Error("something is kept of what is done:", v.machines, v.waits)
	}
}
