package model

import (
	"reflect"
	"testing"

	"usher/api"
)

// same complains unless two models are so, whichever is asked.
func same(t *testing.T, why string, m, n *Model, want bool) {
	t.Helper()
	if m.Same(n) != want || n.Same(m) != want {
		t.Errorf("%s: %v, %v, not %v", why, m.Same(n), n.Same(m), want)
	}
}

// did gives a model in which all of these were done, at the times that stand behind each.
func did(t *testing.T, l ...any) *Model {
	t.Helper()
	m := New()
	for i := 0; i < len(l); i += 2 {
		must(t, m, l[i].(api.Request), l[i+1].(int))
	}
	return m
}

func TestSame(t *testing.T) {
	same(t, "two new ones", New(), New(), true)
	same(t, "two that did the same", busy(t), busy(t), true)
	same(t, "one workflow, and none", did(t, start("a", "x"), 1), New(), false)
	same(t, "one more workflow", did(t, start("a", "x"), 1, start("b", "x"), 1), did(t, start("a", "x"), 1), false)
	same(t, "another workflow", did(t, start("a", "x"), 1), did(t, start("b", "x"), 1), false)
	same(t, "in another order", did(t, start("a", "x"), 1, start("b", "x"), 1), did(t, start("b", "x"), 1, start("a", "x"), 1), true)
	same(t, "at another time", did(t, start("a", "x"), 1), did(t, start("a", "x"), 2), false)
	same(t, "another request's name", did(t, start("a", "x"), 1), did(t, start("a", "y"), 1), false)
	m := busy(t)
	same(t, "itself", m, m, true)
	must(t, m, api.Request{Kind: api.OpFire, Flow: "a"}, 7)
	same(t, "nothing was due", m, busy(t), true)
	must(t, m, api.Request{Kind: api.OpFire, Flow: "a"}, 60)
	same(t, "one workflow differs", m, busy(t), false)
}

// TestSameWithAnotherHistory: the state knows nothing of a marker's value, the history does.
func TestSameWithAnotherHistory(t *testing.T) {
	marked := func(s string) *Model {
		return did(t, start("a", "x"), 1, poll("a"), 2, complete("a", 1, 3, marker(s)), 3, start("b", "x"), 1)
	}
	m, n := marked("one"), marked("two")
	f, _ := m.Flow("a")
	g, _ := n.Flow("a")
	if !reflect.DeepEqual(f, g) {
		t.Fatal("the workflows differ")
	}
	same(t, "another marker", m, n, false)
	same(t, "the same marker", m, marked("one"), true)
}

// TestSameWithAnotherEarlierHistory: the runs ahead of the last one count, each of them.
func TestSameWithAnotherEarlierHistory(t *testing.T) {
	runs := func(first, second int) *Model {
		return did(t, start("a", "x1"), first, terminate("a", "y1"), 5, start("a", "x2"), second, terminate("a", "y2"), 9, start("a", "x3"), 10)
	}
	m := runs(1, 6)
	for why, n := range map[string]*Model{"the first run": runs(2, 6), "the second run": runs(1, 7)} {
		f, _ := m.Flow("a")
		g, _ := n.Flow("a")
		if !reflect.DeepEqual(f, g) {
			t.Fatal("the workflows differ")
		}
		same(t, why, m, n, false)
	}
	same(t, "none", m, runs(1, 6), true)
}

// TestSameOfEmptyLists: an empty list is as none.
func TestSameOfEmptyLists(t *testing.T) {
	r, q := start("a", "x"), start("a", "x")
	r.Value, q.Value = api.Value{Kind: api.VList}, api.Value{Kind: api.VList, List: []api.Value{}}
	same(t, "an empty list", did(t, r, 1), did(t, q, 1), true)
	minus := start("a", "x")
	minus.Value = api.Value{Kind: api.VFloat, Bits: 1 << 63}
	zero := start("a", "x")
	zero.Value = api.Value{Kind: api.VFloat}
	same(t, "-0 and 0", did(t, minus, 1), did(t, zero, 1), false)
}

func TestCopy(t *testing.T) {
	m := busy(t)
	c := m.Copy()
	same(t, "a copy", m, c, true)
	same(t, "a copy's copy", m, c.Copy().Copy(), true)
	same(t, "a copy of none", New().Copy(), New(), true)
	for _, r := range []api.Request{signal("a", "new"), start("d", "new"), reset("a", "new", 4), poll("a"), complete("c", 1, 3, marker("x")), start("b", "new")} {
		m, c := busy(t), busy(t).Copy()
		must(t, m, r, 20)
		same(t, "the first one went on", m, c, false)
		same(t, "the copy stays", c, busy(t), true)
		must(t, c, r, 20)
		same(t, "the copy came after it", m, c, true)
		d := m.Copy()
		must(t, d, signal("a", "newer"), 30)
		same(t, "the copy went on", m, d, false)
		same(t, "the first one stays", m, c, true)
	}
	c = New().Copy()
	must(t, c, start("a", "x"), 1)
	if len(c.Names()) != 1 {
		t.Error("a copy of a model without workflows does nothing")
	}
}

// TestCopyHasOwnMemory: the copy's lists are not the model's.
func TestCopyHasOwnMemory(t *testing.T) {
	made := func() *Model {
		m := busy(t)
		must(t, m, reset("a", "back", 4), 20)
		return m
	}
	m := made()
	spoilModel(m.Copy())
	same(t, "the copy was spoilt", m, made(), true)
	c := m.Copy()
	spoilModel(m)
	same(t, "the first one was spoilt", c, made(), true)
}

func spoilModel(m *Model) {
	for _, f := range m.flows {
		spoilFlow(f)
	}
	for _, h := range m.histories {
		spoilEvents(h)
	}
	clear(m.flows)
	clear(m.histories)
}

// TestModelsThatNoCallMade: they answer ErrNil, nothing, false, and are the same only among them.
func TestModelsThatNoCallMade(t *testing.T) {
	var none *Model
	for _, m := range []*Model{none, {}, new(Model)} {
		for kind := -1; kind <= 14; kind++ {
			for _, r := range append(requests(kind, "a"), api.Request{}, start("a", "x")) {
				for _, now := range moments {
					if x := m.Do(r, now, []api.Ask{{Name: "u"}}); !reflect.DeepEqual(x, api.Reply{Code: api.ErrNil}) {
						t.Fatalf("%+v: %+v", r, x)
					}
				}
			}
		}
		if f, there := m.Flow("a"); there || !reflect.DeepEqual(f, api.Flow{}) {
			t.Error("a workflow", f)
		}
		if m.History("a", 1) != nil || m.Names() != nil {
			t.Error("a history, or a name")
		}
		for _, n := range []*Model{none, {}, m.Copy()} {
			same(t, "two that no call made", m, n, true)
		}
		for _, n := range []*Model{New(), busy(t), New().Copy()} {
			same(t, "one that a call made", m, n, false)
		}
	}
}

func TestTheZeroRequest(t *testing.T) {
	for _, m := range []*Model{New(), busy(t)} {
		was := m.Copy()
		for _, now := range moments {
			if x := m.Do(api.Request{}, now, nil); !reflect.DeepEqual(x, api.Reply{Code: api.ErrArg}) {
				t.Error(x)
			}
		}
		same(t, "behind it", m, was, true)
	}
}
