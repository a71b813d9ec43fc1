package waits

import (
	"fmt"
	"math/rand"
	"reflect"
	"testing"

	"usher/api"
)

// TestWhatIsOverStays: whatever is handed, answered, refused, also several times.
func TestWhatIsOverStays(t *testing.T) {
	l := []api.Wait{over(query(1, "a", 1, "q")), over(given(query(2, "a", 1, "q"), 2, 5)), over(update(3, "a", 1, "u")), over(given(update(4, "a", 1, "u"), 2, 5))}
	asks := []api.Ask{{Op: 3, Name: "u", Value: listOf("x")}, {Op: 1, Name: "q", Value: listOf("x")}}
	var answers []api.Answer
	for op := range 5 {
		answers = append(answers, api.Answer{Op: op, Value: listOf("x")})
	}
	same(t, "handed", Hand(l, "a", 1, 3, 9), l)
	same(t, "answered", Answer(l, 2, answers), l)
	same(t, "answered by no session", Answer(l, -1, answers), l)
	same(t, "refused", Refuse(l, "a", 1, asks), l)
	first := Answer(Hand(Add(l, query(5, "a", 1, "q")), "a", 1, 2, 6), 2, []api.Answer{{Op: 5, Value: listOf("first")}})
	again := Hand(Answer(first, 2, []api.Answer{{Op: 5, Value: listOf("second")}}), "a", 1, 3, 8)
	same(t, "answered again, and handed", again, first)
	no := Refuse(Add(l, update(6, "a", 1, "u")), "a", 1, []api.Ask{{Name: "u", Value: listOf("first")}})
	same(t, "refused again", Refuse(no, "a", 1, asks), no)
}

// calls give each call, with the same arguments each time: what it is handed in as well.
func calls(l []api.Wait, w api.Wait, answers []api.Answer, asks []api.Ask) map[string]any {
	found, _ := Find(l, 3)
	return map[string]any{
		"Add": Add(l, w), "Drop": Drop(l, 3), "Find": []api.Wait{found},
		"Updates": Updates(l, "a", 1), "Queries": Queries(l, "a", 1),
		"Hand": Hand(l, "a", 1, 2, 5), "Answer": Answer(l, 2, answers), "Refuse": Refuse(l, "a", 1, asks),
		"Hand to nobody": Hand(l, "a", 1, -1, 5), "Answer of nobody": Answer(l, -1, answers),
	}
}

func inputs() ([]api.Wait, api.Wait, []api.Answer, []api.Ask) {
	l := Hand(usual(), "a", 1, 2, 4)
	return l, over(query(20, "a", 1, "q")), []api.Answer{{Op: 1, Value: listOf("x")}, {Op: 3, Value: listOf("x")}}, []api.Ask{{Name: "u", Value: listOf("x")}}
}

// spoil changes all that v holds, however deep: whoever shares it is seen to change.
func spoil(v reflect.Value) {
	switch v.Kind() {
	case reflect.Slice:
		full := v.Slice(0, v.Cap()) // room behind a list is memory, too
		for i := range full.Len() {
			spoil(full.Index(i))
		}
	case reflect.Struct:
		for i := range v.NumField() {
			spoil(v.Field(i))
		}
	case reflect.Int:
		v.SetInt(v.Int() + 1000)
	case reflect.String:
		v.SetString(v.String() + " spoilt")
	case reflect.Bool:
		v.SetBool(!v.Bool())
	}
}

func TestNothingIsChanged(t *testing.T) {
	l, w, answers, asks := inputs()
	calls(l, w, answers, asks)
	m, v, others, more := inputs()
	if !reflect.DeepEqual([]any{l, w, answers, asks}, []any{m, v, others, more}) {
		t.Error("what was handed in is changed")
	}
}

// TestNewMemory: what is told is not changed by what becomes of that which was handed in, nor the other way about.
func TestNewMemory(t *testing.T) {
	want := calls(inputs())
	for name := range want {
		l, w, answers, asks := inputs()
		got := calls(l, w, answers, asks)
		spoil(reflect.ValueOf(&l).Elem())
		spoil(reflect.ValueOf(&w).Elem())
		spoil(reflect.ValueOf(&answers).Elem())
		spoil(reflect.ValueOf(&asks).Elem())
		same(t, name+", what was handed in is spoilt", got[name], want[name])

		l, w, answers, asks = inputs()
		got = calls(l, w, answers, asks)
		spoil(reflect.ValueOf(got[name]))
		m, v, others, more := inputs()
		same(t, name+", what was told is spoilt", []any{l, w, answers, asks}, []any{m, v, others, more})
		for other := range want {
			if other != name {
				same(t, other+", what "+name+" told is spoilt", got[other], want[other])
			}
		}
	}
}

// TestOneAnswerForSeveral: those that are given the same value do not share it.
func TestOneAnswerForSeveral(t *testing.T) {
	l, w, answers, asks := inputs()
	got := calls(l, w, answers, asks)
	for _, c := range []struct {
		name string
		a, b int
	}{{"Answer", 2, 11}, {"Refuse", 1, 3}} {
		l := got[c.name].([]api.Wait)
		if !l[c.a].Over || !l[c.b].Over {
			t.Fatal(c.name, "did not end both")
		}
		spoil(reflect.ValueOf(&l[c.a]).Elem())
		same(t, c.name, l[c.b].Value, listOf("x"))
	}
}

// TestRoomBehindAList: what is told is not laid into room that its owner uses.
func TestRoomBehindAList(t *testing.T) {
	room := append(usual(), query(50, "a", 1, "q"))
	Add(room[:len(room)-1], update(60, "a", 1, "u"))
	same(t, "Add", room, append(usual(), query(50, "a", 1, "q")))
	empty := query(1, "a", 1, "q")
	behind := []api.Value{{Kind: api.VText, Text: "kept"}}
	empty.Asked = api.Value{Kind: api.VList, List: behind[:0]}
	told := Add(nil, empty)[0].Asked
	told.List = append(told.List, api.Value{Kind: api.VText, Text: "laid"})
	if behind[0].Text != "kept" {
		t.Error("an empty list is shared")
	}
}

// plain does what the document says, word by word, without care for memory.
type plain struct {
	l []api.Wait
}

func (p *plain) add(w api.Wait) {
	p.drop(w.Op)
	p.l = append(p.l, w)
}

func (p *plain) drop(op int) {
	var out []api.Wait
	for _, w := range p.l {
		if w.Op != op {
			out = append(out, w)
		}
	}
	p.l = out
}

func (p *plain) asks(query bool, flow string, run int) []api.Ask {
	var out []api.Ask
	told := map[string]bool{}
	for _, w := range p.l {
		if w.Query != query || w.Over || w.Flow != flow || w.Run != run || !query && told[w.Name] {
			continue
		}
		told[w.Name] = true
		out = append(out, api.Ask{Op: w.Op, Name: w.Name, Value: w.Asked})
	}
	return out
}

func (p *plain) hand(flow string, run, session, upto int) {
	for i, w := range p.l {
		if session >= 0 && session <= lastSession && w.Query && !w.Over && w.Flow == flow && w.Run == run {
			p.l[i].Handed, p.l[i].Upto = session+1, upto
		}
	}
}

func (p *plain) answer(session int, answers []api.Answer) {
	for i, w := range p.l {
		for _, a := range answers {
			if session >= 0 && session <= lastSession && w.Query && !w.Over && w.Handed == session+1 && a.Op == w.Op {
				p.l[i].Over, p.l[i].Value = true, a.Value
				break
			}
		}
	}
}

func (p *plain) refuse(flow string, run int, asks []api.Ask) {
	for i, w := range p.l {
		for _, a := range asks {
			if !w.Query && !w.Over && w.Flow == flow && w.Run == run && a.Name == w.Name {
				p.l[i].Over, p.l[i].Value = true, a.Value
				break
			}
		}
	}
}

// player makes what is played with: few of each, so that they meet.
type player struct {
	*rand.Rand
}

func (r player) flow() string { return []string{"a", "b"}[r.Intn(2)] }
func (r player) run() int     { return 1 + r.Intn(2) }
func (r player) op() int      { return 1 + r.Intn(8) }
func (r player) name() string { return []string{"x", "y", "z"}[r.Intn(3)] }
func (r player) session() int {
	return []int{-1, 0, 1, 2, lastSession, lastSession + 1}[r.Intn(6)]
}

func (r player) value() api.Value {
	return []api.Value{{}, {Kind: api.VInt, Int: r.Intn(100)}, listOf(fmt.Sprint(r.Intn(100)))}[r.Intn(3)]
}

func (r player) wait() api.Wait {
	return api.Wait{Op: r.op(), Run: r.run(), Seen: r.Intn(9), Flow: r.flow(), Name: r.name(), Asked: r.value(), Query: r.Intn(2) == 0}
}

func (r player) asks() []api.Ask {
	var out []api.Ask
	for range r.Intn(3) {
		out = append(out, api.Ask{Op: r.op(), Name: r.name(), Value: r.value()})
	}
	return out
}

func (r player) answers() []api.Answer {
	var out []api.Answer
	for range r.Intn(4) {
		out = append(out, api.Answer{Op: r.op(), Value: r.value()})
	}
	return out
}

// step does one thing with both.
func (r player) step(l []api.Wait, p *plain) []api.Wait {
	flow, run, session := r.flow(), r.run(), r.session()
	switch r.Intn(8) {
	case 0, 1, 2:
		w := r.wait()
		p.add(w)
		return Add(l, w)
	case 3:
		op := r.op()
		p.drop(op)
		return Drop(l, op)
	case 4, 5:
		upto := r.Intn(120)
		p.hand(flow, run, session, upto)
		return Hand(l, flow, run, session, upto)
	case 6:
		answers := r.answers()
		p.answer(session, answers)
		return Answer(l, session, answers)
	}
	asks := r.asks()
	p.refuse(flow, run, asks)
	return Refuse(l, flow, run, asks)
}

// stayed complains if one that was over has changed, while it was there.
func stayed(t *testing.T, was, is []api.Wait) {
	t.Helper()
	for _, w := range was {
		v, ok := Find(is, w.Op)
		if w.Over && ok && v.Over {
			same(t, "what is over", v, w)
		}
	}
}

// TestPlays: long plays of all calls, held against what the document says.
func TestPlays(t *testing.T) {
	r := player{rand.New(rand.NewSource(30))}
	ends := 0
	for range 300 {
		var l []api.Wait
		p := &plain{}
		for range 100 {
			was := l
			l = r.step(l, p)
			same(t, "the waits", l, p.l)
			stayed(t, was, l)
			flow, run := r.flow(), r.run()
			same(t, "Updates", Updates(l, flow, run), p.asks(false, flow, run))
			same(t, "Queries", Queries(l, flow, run), p.asks(true, flow, run))
			for _, w := range l {
				if w.Over {
					ends++
				}
			}
		}
		if t.Failed() {
			return
		}
	}
	if ends < 5000 {
		t.Error("only", ends, "were over")
	}
}

// TestAnsweredByTheLastOne: an answer that counts is that of the session to which the query was handed last, and Upto is what that one had seen.
func TestAnsweredByTheLastOne(t *testing.T) {
	r := player{rand.New(rand.NewSource(305))}
	for range 2000 {
		l := Add(nil, query(1, "a", 1, "q"))
		last, upto := -1, 0
		for range r.Intn(5) {
			session, seen := r.Intn(4), r.Intn(120)
			flow, run := r.flow(), r.run()
			l = Hand(l, flow, run, session, seen)
			if flow == "a" && run == 1 {
				last, upto = session, seen
			}
		}
		by := r.Intn(4)
		w, _ := Find(Answer(l, by, []api.Answer{{Op: 1, Value: listOf("x")}}), 1)
		if w.Over != (by == last) || w.Upto != upto {
			t.Fatalf("by %d, handed to %d: %+v", by, last, w)
		}
	}
}
