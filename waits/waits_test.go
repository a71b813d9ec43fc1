package waits

import (
	"fmt"
	"math"
	"reflect"
	"slices"
	"testing"

	"usher/api"
)

// lastSession is the greatest that there may be, as the document has it.
const lastSession = 1 << 31

// listOf gives a value that has memory of its own.
func listOf(s string) api.Value {
	return api.Value{Kind: api.VList, List: []api.Value{{Kind: api.VList, List: []api.Value{{Kind: api.VText, Text: s}}}}}
}

func query(op int, flow string, run int, name string) api.Wait {
	return api.Wait{Op: op, Run: run, Seen: 4, Flow: flow, Name: name, Asked: listOf(fmt.Sprint("asked ", op)), Query: true}
}

func update(op int, flow string, run int, name string) api.Wait {
	w := query(op, flow, run, name)
	w.Seen, w.Query = 0, false
	return w
}

// over gives w as it is when there is an answer.
func over(w api.Wait) api.Wait {
	w.Over, w.Value = true, listOf("over")
	return w
}

// given gives w as it is when a session has it.
func given(w api.Wait, session, upto int) api.Wait {
	w.Handed, w.Upto = session+1, upto
	return w
}

// told gives w as it is when it was answered that, or refused with that.
func told(w api.Wait, v api.Value) api.Wait {
	w.Over, w.Value = true, v
	return w
}

// usual gives waits of each sort: of two runs, of two workflows, over and not, with names and an operation that are there twice.
func usual() []api.Wait {
	return []api.Wait{
		query(1, "a", 1, "q"),
		update(2, "a", 1, "u"),
		query(3, "a", 1, "q"),
		update(4, "a", 1, "u"),
		query(5, "a", 2, "q"),
		update(6, "a", 2, "u"),
		query(7, "b", 1, "q"),
		update(8, "b", 1, "u"),
		over(given(query(9, "a", 1, "r"), 2, 6)),
		over(update(10, "a", 1, "w")),
		update(11, "a", 1, "w"),
		query(3, "a", 1, "again"),
		update(4, "a", 1, "again"),
		update(12, "a", 1, "w"),
	}
}

// same complains unless a and b are the same, a nil list as an empty one.
func same(t *testing.T, why string, a, b any) {
	t.Helper()
	if fmt.Sprintf("%+v", a) != fmt.Sprintf("%+v", b) {
		t.Errorf("%s: %+v, not %+v", why, a, b)
	}
}

// at gives the usual waits, those at some places turned.
func at(turn func(w api.Wait) api.Wait, places ...int) []api.Wait {
	l := usual()
	for _, i := range places {
		l[i] = turn(l[i])
	}
	return l
}

// without gives the usual waits but for those at some places.
func without(places ...int) []api.Wait {
	var out []api.Wait
	for i, w := range usual() {
		if !slices.Contains(places, i) {
			out = append(out, w)
		}
	}
	return out
}

func TestAdd(t *testing.T) {
	w := update(20, "a", 1, "new")
	same(t, "to none", Add(nil, w), []api.Wait{w})
	same(t, "to an empty list", Add([]api.Wait{}, w), []api.Wait{w})
	same(t, "of an Op that is not there", Add(usual(), w), append(usual(), w))
	w.Op = 1
	same(t, "of the first one's Op", Add(usual(), w), append(without(0), w))
	w.Op = 12
	same(t, "of the last one's Op", Add(usual(), w), append(without(13), w))
	w.Op = 3
	same(t, "of an Op that is there twice", Add(usual(), w), append(without(2, 11), w))
	w.Op = 9
	same(t, "of an Op that is over", Add(usual(), w), append(without(8), w))
	same(t, "of one alone", Add([]api.Wait{w, w, w}, w), []api.Wait{w})
	same(t, "the zero wait", Add(usual(), api.Wait{}), append(usual(), api.Wait{}))
	for _, op := range []int{math.MinInt, -1, 0, math.MaxInt} {
		w := over(given(query(op, "", math.MinInt, ""), 7, math.MaxInt))
		same(t, "as it is", Add(Add(usual(), w), w), append(usual(), w))
	}
}

func TestDrop(t *testing.T) {
	same(t, "of none", Drop(nil, 1), []api.Wait{})
	same(t, "of an empty list", Drop([]api.Wait{}, 0), []api.Wait{})
	same(t, "of the first one", Drop(usual(), 1), without(0))
	same(t, "of the last one", Drop(usual(), 12), without(13))
	same(t, "of one that is over", Drop(usual(), 10), without(9))
	same(t, "of an Op that is there twice", Drop(usual(), 3), without(2, 11))
	same(t, "of all", Drop([]api.Wait{query(1, "a", 1, "q"), update(1, "b", 2, "u")}, 1), []api.Wait{})
	for _, op := range []int{math.MinInt, -1, 0, 13, math.MaxInt} {
		same(t, fmt.Sprint("of an Op that is not there: ", op), Drop(usual(), op), usual())
	}
}

func TestFind(t *testing.T) {
	l := usual()
	for i, w := range l {
		if i == 11 || i == 12 {
			continue // there is one of that Op ahead of it
		}
		got, ok := Find(l, w.Op)
		same(t, fmt.Sprint("Op ", w.Op), got, w)
		if !ok {
			t.Error("Op", w.Op, "is not found")
		}
	}
	got, ok := Find(l, 3)
	if same(t, "the first of two", got, query(3, "a", 1, "q")); !ok {
		t.Error("not found")
	}
	got, ok = Find(Drop(l, 3), 3)
	if same(t, "dropped", got, api.Wait{}); ok {
		t.Error("found")
	}
	for _, op := range []int{math.MinInt, -1, 0, 13, math.MaxInt} {
		for _, l := range [][]api.Wait{l, {}, nil} {
			if w, ok := Find(l, op); ok || !reflect.DeepEqual(w, api.Wait{}) {
				t.Errorf("Op %d: %+v, %v", op, w, ok)
			}
		}
	}
	if w, ok := Find([]api.Wait{{}}, 0); !ok || !reflect.DeepEqual(w, api.Wait{}) {
		t.Errorf("the zero wait: %+v, %v", w, ok)
	}
}

func asking(op int, name string) api.Ask {
	return api.Ask{Op: op, Name: name, Value: listOf(fmt.Sprint("asked ", op))}
}

func TestUpdates(t *testing.T) {
	for _, c := range []struct {
		flow string
		run  int
		want []api.Ask
	}{
		{"a", 1, []api.Ask{asking(2, "u"), asking(11, "w"), asking(4, "again")}}, // the first w is over: it is none of them
		{"a", 2, []api.Ask{asking(6, "u")}},
		{"b", 1, []api.Ask{asking(8, "u")}},
		{"b", 2, nil}, {"c", 1, nil}, {"", 1, nil}, {"a", 0, nil}, {"a", 3, nil}, {"a", -1, nil}, {"A", 1, nil}, {"aa", 1, nil},
		{"a", math.MinInt, nil}, {"a", math.MaxInt, nil},
	} {
		same(t, fmt.Sprint(c.flow, " ", c.run), Updates(usual(), c.flow, c.run), c.want)
	}
}

func TestQueries(t *testing.T) {
	for _, c := range []struct {
		flow string
		run  int
		want []api.Ask
	}{
		{"a", 1, []api.Ask{asking(1, "q"), asking(3, "q"), asking(3, "again")}},
		{"a", 2, []api.Ask{asking(5, "q")}},
		{"b", 1, []api.Ask{asking(7, "q")}},
		{"b", 2, nil}, {"c", 1, nil}, {"", 1, nil}, {"a", 0, nil}, {"a", 3, nil}, {"a", -1, nil}, {"A", 1, nil}, {"aa", 1, nil},
		{"a", math.MinInt, nil}, {"a", math.MaxInt, nil},
	} {
		same(t, fmt.Sprint(c.flow, " ", c.run), Queries(usual(), c.flow, c.run), c.want)
	}
}

// TestAsksOfAll: neither who has it nor what was answered ahead plays a part, but whether it is over does.
func TestAsksOfAll(t *testing.T) {
	l := []api.Wait{
		given(query(1, "", 0, ""), 3, 9), over(query(2, "", 0, "")), query(3, "", 0, ""),
		over(update(4, "", 0, "")), given(update(5, "", 0, ""), 3, 9), update(6, "", 0, ""),
		{Op: 7, Query: true, Value: listOf("ahead")}, {Op: 8, Name: "n", Value: listOf("ahead")},
	}
	same(t, "queries", Queries(l, "", 0), []api.Ask{asking(1, ""), asking(3, ""), {Op: 7}})
	same(t, "updates", Updates(l, "", 0), []api.Ask{asking(5, ""), {Op: 8, Name: "n"}})
	for _, l := range [][]api.Wait{nil, {}, {over(query(1, "a", 1, "q")), over(update(2, "a", 1, "u"))}} {
		same(t, "no queries", Queries(l, "a", 1), []api.Ask{})
		same(t, "no updates", Updates(l, "a", 1), []api.Ask{})
	}
}

// TestUpdatesOfOneName: a name is told once for each run, by the first that is not over.
func TestUpdatesOfOneName(t *testing.T) {
	l := []api.Wait{update(1, "a", 2, "x"), query(2, "a", 1, "x"), over(update(3, "a", 1, "x")), update(4, "b", 1, "x"), update(5, "a", 1, "x"), update(6, "a", 1, "y"), update(7, "a", 1, "x")}
	same(t, "of run 1", Updates(l, "a", 1), []api.Ask{asking(5, "x"), asking(6, "y")})
	same(t, "the first one dropped", Updates(Drop(l, 5), "a", 1), []api.Ask{asking(6, "y"), asking(7, "x")})
}

// sessions that there may be.
var sessions = []int{0, 1, 2, 7, 8, 1000, lastSession - 1, lastSession}

// noSessions are numbers that are none.
var noSessions = []int{math.MinInt, math.MinInt + 1, -lastSession, -2, -1, lastSession + 1, lastSession + 2, 1 << 32, 1<<32 + 1, math.MaxInt - 1, math.MaxInt}

func TestHand(t *testing.T) {
	for _, session := range sessions {
		for _, upto := range []int{math.MinInt, -1, 0, 1, 120, math.MaxInt} {
			hand := func(w api.Wait) api.Wait { return given(w, session, upto) }
			same(t, fmt.Sprint("a 1 to ", session), Hand(usual(), "a", 1, session, upto), at(hand, 0, 2, 11))
			same(t, fmt.Sprint("a 2 to ", session), Hand(usual(), "a", 2, session, upto), at(hand, 4))
			same(t, fmt.Sprint("b 1 to ", session), Hand(usual(), "b", 1, session, upto), at(hand, 6))
		}
		for _, run := range []int{math.MinInt, -1, 0, 3, math.MaxInt} {
			same(t, fmt.Sprint("run ", run), Hand(usual(), "a", run, session, 5), usual())
		}
		for _, flow := range []string{"", "c", "A", "aa"} {
			same(t, flow, Hand(usual(), flow, 1, session, 5), usual())
		}
	}
	for _, session := range noSessions {
		same(t, fmt.Sprint("to ", session), Hand(usual(), "a", 1, session, 5), usual())
		same(t, fmt.Sprint("from another to ", session), Hand(Hand(usual(), "a", 1, 3, 5), "a", 1, session, 9), Hand(usual(), "a", 1, 3, 5))
	}
	w, _ := Find(Hand(usual(), "a", 1, lastSession, 5), 1)
	if w.Handed != 2147483649 || w.Upto != 5 {
		t.Errorf("%+v", w)
	}
}

// TestHandTwice: the last one has it, and what it had seen counts, be it less.
func TestHandTwice(t *testing.T) {
	for _, a := range sessions {
		for _, b := range sessions {
			l := Hand(Hand(usual(), "a", 1, a, 8), "a", 1, b, 5)
			same(t, fmt.Sprint(a, " then ", b), l, at(func(w api.Wait) api.Wait { return given(w, b, 5) }, 0, 2, 11))
		}
	}
	l := Hand(Hand(usual(), "a", 1, 2, 8), "a", 2, 3, 5)
	w, _ := Find(l, 1)
	v, _ := Find(l, 5)
	if w.Handed != 3 || w.Upto != 8 || v.Handed != 4 || v.Upto != 5 {
		t.Errorf("%+v, %+v", w, v)
	}
}

func TestAnswer(t *testing.T) {
	x, y := listOf("x"), listOf("y")
	for _, session := range sessions {
		l := Hand(usual(), "a", 1, session, 6)
		end := func(v api.Value, places ...int) []api.Wait {
			out := at(func(w api.Wait) api.Wait { return given(w, session, 6) }, 0, 2, 11)
			for _, i := range places {
				out[i] = told(out[i], v)
			}
			return out
		}
		same(t, "one", Answer(l, session, []api.Answer{{Op: 1, Value: x}}), end(x, 0))
		same(t, "with nothing", Answer(l, session, []api.Answer{{Op: 1}}), end(api.Value{}, 0))
		same(t, "an Op that is there twice", Answer(l, session, []api.Answer{{Op: 3, Value: x}}), end(x, 2, 11))
		same(t, "two answers for one Op", Answer(l, session, []api.Answer{{Op: 1, Value: y}, {Op: 1, Value: x}}), end(y, 0))
		same(t, "all, the other way about", Answer(l, session, []api.Answer{{Op: 3, Value: x}, {Op: 1, Value: x}}), end(x, 0, 2, 11))
		same(t, "what was not handed, of other runs", Answer(l, session, []api.Answer{{Op: 5, Value: x}, {Op: 7, Value: x}}), end(x))
		same(t, "updates", Answer(l, session, []api.Answer{{Op: 2, Value: x}, {Op: 4, Value: x}}), end(x))
		same(t, "what is not there", Answer(l, session, []api.Answer{{Op: 0, Value: x}, {Op: -1, Value: x}, {Op: 99, Value: x}}), end(x))
		same(t, "nothing", Answer(l, session, nil), end(x))
		same(t, "nothing", Answer(l, session, []api.Answer{}), end(x))
		same(t, "one that nobody has", Answer(usual(), session, []api.Answer{{Op: 1, Value: x}}), usual())
	}
}

// TestAnswerByAnother: only whoever was handed a query last answers it.
func TestAnswerByAnother(t *testing.T) {
	l := Hand(usual(), "a", 1, 2, 6)
	answers := []api.Answer{{Op: 1, Value: listOf("x")}, {Op: 3, Value: listOf("y")}}
	for _, session := range append([]int{0, 1, 3, 4, lastSession}, noSessions...) {
		same(t, fmt.Sprint("by ", session), Answer(l, session, answers), l)
	}
	later := Hand(l, "a", 1, 3, 7)
	same(t, "by one to which it was handed ahead", Answer(later, 2, answers), later)
	w, _ := Find(Answer(later, 3, answers), 1)
	same(t, "by the last one", w, told(given(query(1, "a", 1, "q"), 3, 7), listOf("x")))
	back := Hand(later, "a", 1, 2, 9)
	w, _ = Find(Answer(back, 2, answers), 1)
	same(t, "by one to which it was handed again", w, told(given(query(1, "a", 1, "q"), 2, 9), listOf("x")))
	same(t, "by the one between", Answer(back, 3, answers), back)
}

// TestAnswerByNoSession: a wait that nobody has is not that of the session -1, nor any other one that of a number that is none.
func TestAnswerByNoSession(t *testing.T) {
	for _, session := range noSessions {
		w := query(1, "a", 1, "q")
		w.Handed = session + 1
		for _, l := range [][]api.Wait{{w}, {query(1, "a", 1, "q")}, usual()} {
			same(t, fmt.Sprint("by ", session), Answer(l, session, []api.Answer{{Op: 1, Value: listOf("x")}}), l)
		}
	}
	w := query(1, "a", 1, "q")
	w.Handed = lastSession + 1
	same(t, "by the greatest", Answer([]api.Wait{w}, lastSession, []api.Answer{{Op: 1, Value: listOf("x")}}), []api.Wait{told(w, listOf("x"))})
}

// TestUpdatesAreNotAnswered: even if one were handed.
func TestUpdatesAreNotAnswered(t *testing.T) {
	l := []api.Wait{given(update(1, "a", 1, "u"), 2, 5)}
	same(t, "an update", Answer(l, 2, []api.Answer{{Op: 1, Value: listOf("x")}}), l)
	same(t, "handed again", Hand(l, "a", 1, 3, 6), l)
}

func TestRefuse(t *testing.T) {
	x, y := listOf("x"), listOf("y")
	end := func(v api.Value, places ...int) []api.Wait {
		return at(func(w api.Wait) api.Wait { return told(w, v) }, places...)
	}
	same(t, "a name that is there twice", Refuse(usual(), "a", 1, []api.Ask{{Name: "u", Value: x}}), end(x, 1, 3))
	same(t, "of another run", Refuse(usual(), "a", 2, []api.Ask{{Name: "u", Value: x}}), end(x, 5))
	same(t, "of another workflow", Refuse(usual(), "b", 1, []api.Ask{{Name: "u", Value: x}}), end(x, 7))
	same(t, "one of which is over", Refuse(usual(), "a", 1, []api.Ask{{Name: "w", Value: x}}), end(x, 10, 13))
	same(t, "a name that two of asks have", Refuse(usual(), "a", 1, []api.Ask{{Name: "u", Value: y}, {Name: "u", Value: x}}), end(y, 1, 3))
	same(t, "whatever the Op", Refuse(usual(), "a", 1, []api.Ask{{Op: 8, Name: "u", Value: x}}), end(x, 1, 3))
	same(t, "with nothing", Refuse(usual(), "a", 1, []api.Ask{{Name: "u"}}), end(api.Value{}, 1, 3))
	same(t, "several", Refuse(usual(), "a", 1, []api.Ask{{Name: "z", Value: y}, {Name: "again", Value: x}, {Name: "u", Value: x}}), end(x, 1, 3, 12))
	for _, name := range []string{"q", "r", "", "U", "uu", "u\x00"} {
		same(t, "the name "+name, Refuse(usual(), "a", 1, []api.Ask{{Op: 2, Name: name, Value: x}}), usual())
	}
	for _, run := range []int{math.MinInt, -1, 0, 3, math.MaxInt} {
		same(t, fmt.Sprint("run ", run), Refuse(usual(), "a", run, []api.Ask{{Name: "u", Value: x}}), usual())
	}
	for _, flow := range []string{"", "c", "A", "aa"} {
		same(t, flow, Refuse(usual(), flow, 1, []api.Ask{{Name: "u", Value: x}}), usual())
	}
	for _, asks := range [][]api.Ask{nil, {}, {{}}} {
		same(t, "nothing", Refuse(usual(), "a", 1, asks), usual())
	}
	same(t, "no name", Refuse([]api.Wait{{}}, "", 0, []api.Ask{{Value: x}}), []api.Wait{told(api.Wait{}, x)})
}

func TestOfNone(t *testing.T) {
	for _, l := range [][]api.Wait{nil, {}} {
		same(t, "Hand", Hand(l, "a", 1, 2, 3), []api.Wait{})
		same(t, "Answer", Answer(l, 2, []api.Answer{{Op: 1}}), []api.Wait{})
		same(t, "Refuse", Refuse(l, "a", 1, []api.Ask{{Name: "u"}}), []api.Wait{})
	}
}

func TestExample(t *testing.T) {
	l := Add(nil, query(1, "a", 1, "q"))
	l = Hand(Hand(l, "a", 1, 2, 5), "a", 1, 3, 6)
	same(t, "an answer by 2", Answer(l, 2, []api.Answer{{Op: 1, Value: listOf("x")}}), l)
	w, _ := Find(Answer(l, 3, []api.Answer{{Op: 1, Value: listOf("x")}}), 1)
	if !w.Over || w.Upto != 6 {
		t.Errorf("%+v", w)
	}
}
