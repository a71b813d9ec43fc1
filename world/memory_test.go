package world

import (
	"fmt"
	"reflect"
	"testing"

	"usher/api"
)

// spoil changes all that v holds, however deep: whoever shares it is seen to change.
func spoil(v reflect.Value) {
	switch v.Kind() {
	case reflect.Slice:
		room := v.Slice(0, v.Cap()) // room behind a list is memory, too
		for i := range room.Len() {
			spoil(room.Index(i))
		}
	case reflect.Struct:
		for i := range v.NumField() {
			spoil(v.Field(i))
		}
	case reflect.Int:
		v.SetInt(v.Int() + 1000)
	case reflect.Uint8, reflect.Uint64:
		v.SetUint(v.Uint() ^ 85)
	case reflect.String:
		v.SetString(v.String() + " spoilt")
	case reflect.Bool:
		v.SetBool(!v.Bool())
	}
}

// memory notes where each list that has room lies, and complains of two that share a place.
func memory(t *testing.T, v reflect.Value, at map[uintptr]string, path string) {
	t.Helper()
	switch v.Kind() {
	case reflect.Slice:
		size := v.Type().Elem().Size()
		for i := range v.Cap() {
			p := v.Pointer() + uintptr(i)*size
			if at[p] != "" {
				t.Errorf("%s is %s", path, at[p])
			}
			at[p] = path
		}
		for i := range v.Len() {
			memory(t, v.Index(i), at, fmt.Sprint(path, ".", i))
		}
	case reflect.Struct:
		for i := range v.NumField() {
			memory(t, v.Field(i), at, path+"."+v.Type().Field(i).Name)
		}
	}
}

// held gives all that a world tells of itself as a text, which shares nothing with it.
func (w *stage) held() string {
	out := fmt.Sprintf("%+v\n%+v\n%x\n%d %v\n%+v\n", w.Records(), w.Order(), w.Image(), w.Now(), w.Up(), w.Door().Waits())
	for session := range api.MaxSessions {
		m, busy := w.Door().Machine(session)
		out += fmt.Sprintf("%d %v %+v\n", session, busy, m)
	}
	return out
}

// spoils complains if what p points to is shared with the world, or with itself.
func (w *stage) spoils(why string, p any) {
	w.Helper()
	x := reflect.ValueOf(p).Elem()
	memory(w.T, x, map[uintptr]string{}, why)
	before := w.held()
	spoil(x)
	same(w.T, why+" was spoilt", w.held(), before)
}

// script is all that many lists are told of: each operation's steps, of which some wait.
func (w *stage) script(does func(s api.Step)) {
	steps := func(session, n int) {
		for range n {
			does(api.Step{Kind: api.StepStep, Session: session})
		}
	}
	asks := func(session int, r api.Request, n int) {
		w.Helper()
		does(api.Step{Kind: api.StepInvoke, Session: session, Bytes: w.bytesOf(r)})
		steps(session, n)
	}
	asks(0, start("a", "x"), 4)
	asks(1, update("a", "u", 2, 100), 2)
	asks(2, update("a", "v", 2, 100), 2)
	asks(3, query("a", 100), 2)
	asks(0, poll("a"), 4)
	r := complete("a", 1, 3, api.Command{Kind: api.CmAccept, Name: "u"}, api.Command{Kind: api.CmOutcome, Name: "u", Value: listOf("o")}, api.Command{Kind: api.CmReject, Name: "v", Value: listOf("no")}, api.Command{Kind: api.CmTimer, Name: "c", Delay: 9})
	r.Answers = []api.Answer{{Op: 4, Value: listOf("answer")}}
	asks(0, r, 4)
	for session := 1; session <= 3; session++ {
		steps(session, 3)
	}
	asks(4, signal("a", "s"), 3)
	asks(5, describe("a"), 3)
	asks(6, poll("a"), 1)
	asks(7, update("a", "w", 1, 100), 2)
}

// TestWhatIsToldIsNew: whoever is told it may change it.
func TestWhatIsToldIsNew(t *testing.T) {
	w := up(t)
	values, asks := 0, 0
	w.script(func(s api.Step) {
		told := w.Do(s)
		if told.Code != api.OK {
			t.Fatalf("%+v: %+v", s, told)
		}
		values += len(told.Reply.Value.List)
		asks += len(told.Entry.Asks) + len(told.Reply.Queries) + len(told.Reply.Updates)
		w.spoils("told", &told)
	})
	if values != 3 || asks < 6 {
		t.Error("too little was told:", values, asks)
	}
	for range 2 {
		l, order, image := w.Records(), w.Order(), w.Image()
		w.spoils("the records", &l)
		w.spoils("the order", &order)
		w.spoils("the image", &image)
	}
	w.keeps()
	w.crashes(5)
	l, order := w.Records(), w.Order()
	w.spoils("the records, down", &l)
	w.spoils("the order, down", &order)
	w.opens()
	w.keeps()
}

// TestNothingIsKept: a step that was handed in is unchanged, and whoever changes it then changes nothing.
func TestNothingIsKept(t *testing.T) {
	v, w := up(t), up(t)
	w.script(func(s api.Step) {
		v.Do(s)
		before := fmt.Sprintf("%+v", s)
		w.Do(s)
		if fmt.Sprintf("%+v", s) != before {
			t.Errorf("%s was changed to %+v", before, s)
		}
		spoil(reflect.ValueOf(&s).Elem())
		same(t, "spoilt", w.held(), v.held())
	})
	s := api.Step{Kind: api.StepCrash, Keeps: []int{3, 0, 9}}
	v.Do(s)
	w.Do(s)
	same(t, "Keeps", s.Keeps, []int{3, 0, 9})
	spoil(reflect.ValueOf(&s).Elem())
	v.opens()
	w.opens()
	same(t, "spoilt", w.held(), v.held())
}

// TestWhatWasTakenBackIsGone: nothing is kept of the order but what stands in it.
func TestWhatWasTakenBackIsGone(t *testing.T) {
	w := up(t)
	w.did(0, start("a", "x"))
	w.invoked(1, update("a", "u", 1, 100), api.PhWait)
	for i, name := range []string{"s1", "s2", "s3"} {
		w.invoked(2+i, signal("a", name), api.PhSync)
	}
	w.crashes()
	w.opens()
	for _, e := range w.order[:cap(w.order)][1:] {
		same(t, "what is left behind the order's end", e, api.Entry{})
	}
}
