package machine

import (
	"fmt"
	"reflect"
	"testing"

	"usher/api"
)

// given is all that the calls are handed.
type given struct {
	m       api.Machine
	f       found
	w       api.Wait
	version int
	asks    []api.Ask
}

// calls are all calls, each with what it is told of what it is handed.
var calls = map[string]func(g *given) any{
	"New":                   func(g *given) any { return New(7, g.m.Request) },
	"Look":                  func(g *given) any { return Look(g.m, g.f.f, g.f.there, g.version, g.f.h, 30, 9, g.asks) },
	"Batch":                 func(g *given) any { b, _ := Batch(g.m); return b },
	"Committed":             func(g *given) any { return Committed(g.m, 60, api.OK) },
	"Committed, a conflict": func(g *given) any { return Committed(g.m, 60, api.ErrVersion) },
	"Committed, an error":   func(g *given) any { return Committed(g.m, 60, api.ErrFull) },
	"Wake":                  func(g *given) any { return Wake(g.m, g.w, g.f.f, g.f.there, 31, 60) },
	"Waiting":               func(g *given) any { return Waiting(g.m) },
	"Synced":                func(g *given) any { return Synced(g.m, 60) },
}

// memory notes where each list that has room lies.
func memory(v reflect.Value, at map[uintptr]string, path string) {
	switch v.Kind() {
	case reflect.Slice:
		size := v.Type().Elem().Size()
		for i := range v.Cap() {
			at[v.Pointer()+uintptr(i)*size] = path
		}
		for i := range v.Len() {
			memory(v.Index(i), at, fmt.Sprint(path, ".", i))
		}
	case reflect.Struct:
		for i := range v.NumField() {
			memory(v.Field(i), at, path+"."+v.Type().Field(i).Name)
		}
	}
}

// lists gives how many places all lists of v have, each counted as often as it stands there.
func lists(v reflect.Value) int {
	n := 0
	switch v.Kind() {
	case reflect.Slice:
		n = v.Cap()
		for i := range v.Len() {
			n += lists(v.Index(i))
		}
	case reflect.Struct:
		for i := range v.NumField() {
			n += lists(v.Field(i))
		}
	}
	return n
}

// spoil changes all that v holds, however deep: whoever shares it is seen to change.
func spoil(v reflect.Value) {
	switch v.Kind() {
	case reflect.Slice:
		room := v.Slice(0, v.Cap()) // room behind a list is memory, too
		for i := range room.Len() {
			spoil(room.Index(i))
		}
	case reflect.Struct:
		for i := range v.NumField() {
			spoil(v.Field(i))
		}
	case reflect.Int:
		v.SetInt(v.Int() + 1000)
	case reflect.Uint8, reflect.Uint64:
		v.SetUint(v.Uint() ^ 85)
	case reflect.String:
		v.SetString(v.String() + " spoilt")
	case reflect.Bool:
		v.SetBool(!v.Bool())
	}
}

// spoilAll spoils all that the calls were handed.
func (g *given) spoilAll() {
	for _, p := range []any{&g.m, &g.f.f, &g.f.h, &g.w, &g.asks} {
		spoil(reflect.ValueOf(p).Elem())
	}
}

// inputs make what the calls are handed, in each phase that a machine may be in.
func inputs(t *testing.T) map[string]func() *given {
	t.Helper()
	out := map[string]func() *given{}
	for _, phase := range phases {
		out[fmt.Sprint("in ", phase)] = func() *given {
			return &given{full(t, phase), busy(t), api.Wait{Op: 7, Run: 1, Over: true, Asked: listOf("q"), Value: listOf("answer")}, 5, asksOf("y", "u")}
		}
	}
	for i, r := range []api.Request{start("x"), signal("x"), poll(), describe(), query(3), update("x", 1, 3), update("v", 2, 3)} {
		for j, w := range []func() found{func() found { return found{} }, func() found { return busy(t) }, func() found { return over(t) }} {
			loaded := func() *given {
				return &given{New(7, r), w(), api.Wait{}, 5, asksOf("y", "u")}
			}
			out[fmt.Sprint("request ", i, " of ", j)] = loaded
			out[fmt.Sprint("request ", i, " of ", j, ", behind Look")] = func() *given {
				g := loaded()
				g.m = Look(g.m, g.f.f, g.f.there, g.version, g.f.h, 30, 9, g.asks)
				g.w = Waiting(g.m)
				return g
			}
		}
	}
	return out
}

// TestNewMemory: what is told shares nothing with what was handed in, nor with itself, and what was handed in stays as it was.
func TestNewMemory(t *testing.T) {
	for why, made := range inputs(t) {
		for name, call := range calls {
			g := made()
			want := call(made())
			got := call(g)
			same(t, why+", "+name, got, want)
			same(t, why+", "+name+": what was handed in", g, made())

			theirs, own := map[uintptr]string{}, map[uintptr]string{}
			memory(reflect.ValueOf(*g), theirs, "given")
			memory(reflect.ValueOf(got), own, name)
			for p, path := range own {
				if theirs[p] != "" {
					t.Errorf("%s: %s is %s", why, path, theirs[p])
				}
			}
			if n := lists(reflect.ValueOf(got)); n != len(own) {
				t.Errorf("%s, %s: two lists share %d places", why, name, n-len(own))
			}
			g.spoilAll()
			same(t, why+", "+name+": what was handed in was spoilt", got, want)
			g = made()
			got = call(g)
			v := reflect.New(reflect.TypeOf(got)).Elem()
			v.Set(reflect.ValueOf(got))
			spoil(v)
			same(t, why+", "+name+": what was told was spoilt", g, made())
		}
	}
}

// TestOneListTwice: what is handed in twice is told apart.
func TestOneListTwice(t *testing.T) {
	m := full(t, api.PhSync)
	v := listOf("one")
	m.Request.Value, m.Reply.Value, m.Asks[0].Value = v, v, v
	m.Reply.Updates, m.Reply.Queries = m.Asks, m.Asks
	m.Plan.Writes[0].Events, m.Reply.Events = m.Reply.Events, m.Reply.Events[:2]
	m.Reply.State = m.Plan.Flow.State
	n := Synced(m, 60)
	own := map[uintptr]string{}
	memory(reflect.ValueOf(n), own, "m")
	if len(own) != lists(reflect.ValueOf(n)) {
		t.Error("two lists are one")
	}
	m.Phase = api.PhReply
	same(t, "Synced", n, m)
}

// TestRoomBehindAList: nothing is laid into it, and an empty list is not shared, either.
func TestRoomBehindAList(t *testing.T) {
	room := []api.Value{{Kind: api.VText, Text: "kept"}}
	asks := asksOf("y", "kept")
	m := New(7, api.Request{Kind: api.OpQuery, Flow: "a", Name: "q", Value: api.Value{Kind: api.VList, List: room[:0]}})
	m.Request.Value.List = append(m.Request.Value.List, api.Value{})
	w := busy(t)
	m = Look(m, w.f, true, 4, w.h, 30, 9, asks[:1])
	m.Asks = append(m.Asks, api.Ask{})
	m = Look(New(7, query(3)), w.f, true, 4, w.h, 30, 9, asks[:0])
	m.Asks = append(m.Asks, api.Ask{})
	if room[0].Text != "kept" || asks[0].Name != "y" || asks[1].Name != "kept" {
		t.Error("what was handed in has changed:", room, asks)
	}
}

// TestDeep: values that lie as deep as none may.
func TestDeep(t *testing.T) {
	v := api.Value{Kind: api.VList}
	for range 1 << 15 {
		v = api.Value{Kind: api.VList, List: []api.Value{v}}
	}
	r := query(3)
	r.Value = v
	w := busy(t)
	if m := Look(New(7, r), w.f, true, 4, w.h, 30, 9, []api.Ask{{Value: v}}); m.Phase != api.PhSync || m.Reply.Code != api.ErrArg {
		t.Error(m.Phase, m.Reply.Code)
	}
}
