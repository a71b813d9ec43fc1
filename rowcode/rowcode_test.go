package rowcode

import (
	"bytes"
	"fmt"
	"math"
	"reflect"
	"slices"
	"strings"
	"testing"

	"usher/api"
	"usher/pack"
)

const (
	theNaN   uint64 = 0x7ff8000000000000
	otherNaN uint64 = 0x7ff0000000000001
	infinity uint64 = 0x7ff0000000000000
	two      uint64 = 1 << 62
	minus0   uint64 = 1 << 63
)

// The limits, as the document has them.
const (
	latest  = 1 << 40
	lastDue = 1 << 41
	lastTry = 1 << 31
)

func text(s string) api.Value {
	return api.Value{Kind: api.VText, Text: s}
}

// listOf gives a value that has memory of its own.
func listOf(s string) api.Value {
	return api.Value{Kind: api.VList, List: []api.Value{text(s)}}
}

func long(n int) string {
	return strings.Repeat("x", n)
}

// nested gives a number within so many lists.
func nested(lists int) api.Value {
	v := api.Value{Kind: api.VInt, Int: 1}
	for range lists {
		v = api.Value{Kind: api.VList, List: []api.Value{v}}
	}
	return v
}

// usual gives a workflow that may be, of which each field that may be another one than zero is.
func usual() api.Flow {
	return api.Flow{
		Name: "flow-1", Runs: 3,
		State: api.State{
			Run: 3, Status: api.StRunning, Count: 20, Time: 100, Deadline: 500, From: 2, Signals: 4,
			Type:   "t.1",
			Input:  listOf("in"),
			Policy: api.Policy{First: 10, Coef: two, Most: 350},
			Task:   api.Task{State: api.TaskTaken, Attempt: 7, Due: 110, Event: 18, Seen: 18},
			Fresh:  true, Cancel: true,
			Timers:  []api.Timer{{Name: "b", Due: 90}, {Name: "d", Due: 300}},
			Updates: []api.Update{{Name: "b", Value: listOf("b"), Stage: 1}, {Name: "d", Value: text("d"), Stage: 2, Outcome: listOf("out")}},
		},
		Table: []api.Done{{Request: "p", Kind: 2, Key: []byte("key\x00"), Run: 1}, {Request: "q", Kind: 13, Key: []byte{255}, Run: 3}},
	}
}

// of gives the usual workflow, changed.
func of(changes ...func(f *api.Flow)) api.Flow {
	f := usual()
	for _, c := range changes {
		c(&f)
	}
	return f
}

// end makes of a workflow one whose run has ended so.
func end(status int) func(f *api.Flow) {
	return func(f *api.Flow) {
		f.State.Status, f.State.Task, f.State.Timers = status, api.Task{}, nil
		switch status {
		case api.StCompleted:
			f.State.Result = listOf("result")
		case api.StFailed, api.StTerminated:
			f.State.Reason = "why? \xff\x00"
		}
	}
}

// runs makes of a workflow one of so many runs.
func runs(n int) func(f *api.Flow) {
	return func(f *api.Flow) { f.Runs, f.State.Run = n, n }
}

// many gives so many names that rise.
func many(n int) []string {
	var out []string
	for i := range n {
		out = append(out, fmt.Sprintf("n%02d", i))
	}
	return out
}

func timers(names ...string) func(f *api.Flow) {
	return func(f *api.Flow) {
		f.State.Timers = nil
		for i, s := range names {
			f.State.Timers = append(f.State.Timers, api.Timer{Name: s, Due: i * 100})
		}
	}
}

// updates are of both stages, one behind the other.
func updates(names ...string) func(f *api.Flow) {
	return func(f *api.Flow) {
		f.State.Updates = nil
		for i, s := range names {
			u := api.Update{Name: s, Value: listOf(s), Stage: 1 + i%2}
			if u.Stage == 2 {
				u.Outcome = text(s)
			}
			f.State.Updates = append(f.State.Updates, u)
		}
	}
}

func requests(names ...string) func(f *api.Flow) {
	return func(f *api.Flow) {
		f.Table = nil
		for i, s := range names {
			f.Table = append(f.Table, api.Done{Request: s, Kind: 1 + i%13, Key: make([]byte, i*10), Run: 1 + i%f.Runs})
		}
	}
}

func task(x api.Task) func(f *api.Flow) {
	return func(f *api.Flow) { f.State.Task = x }
}

// edge is a workflow, and why it stands here.
type edge struct {
	why string
	f   api.Flow
}

// good are workflows that may be.
func good() []edge {
	out := []edge{
		{"usual", usual()},
		{"little", little()},
		{"no task", of(task(api.Task{}))},
		{"a task that waits", of(task(api.Task{State: api.TaskWaits, Attempt: 1}))},
		{"a task that waits long", of(task(api.Task{State: api.TaskWaits, Attempt: lastTry, Due: lastDue}))},
		{"a task that is taken", of(task(api.Task{State: api.TaskTaken, Attempt: lastTry, Due: lastDue, Event: 1, Seen: 1}))},
		{"a task that was taken last", of(task(api.Task{State: api.TaskTaken, Attempt: 1, Event: 20, Seen: 20}))},
		{"neither fresh nor canceled", of(func(f *api.Flow) { f.State.Fresh, f.State.Cancel = false, false })},
		{"fresh alone", of(func(f *api.Flow) { f.State.Cancel = false })},
		{"canceled alone", of(func(f *api.Flow) { f.State.Fresh = false })},
		{"no timers", of(timers())},
		{"10 timers", of(timers(many(10)...))},
		{"no updates", of(updates())},
		{"10 updates", of(updates(many(10)...))},
		{"no requests", of(requests())},
		{"30 requests", of(requests(many(30)...))},
		{"one run", of(runs(1), requests("a"))},
		{"10 runs", of(runs(10), requests(many(10)...))},
		{"all at its limits", greatest()},
		{"a value of nothing", of(func(f *api.Flow) { f.State.Input = api.Value{} })},
		{"a value of a NaN", of(func(f *api.Flow) { f.State.Input = api.Value{Kind: api.VFloat, Bits: theNaN} })},
		{"a value of -0", of(func(f *api.Flow) { f.State.Input = api.Value{Kind: api.VFloat, Bits: minus0} })},
		{"an outcome of nothing", of(func(f *api.Flow) { f.State.Updates[1].Outcome = api.Value{} })},
		{"a Key of 4096", of(func(f *api.Flow) { f.Table[0].Key = bytes.Repeat([]byte{7}, 4096) })},
		{"no Key", of(func(f *api.Flow) { f.Table[0].Key = nil })},
	}
	for status := api.StRunning; status <= api.StTimedOut; status++ {
		out = append(out, edge{fmt.Sprint("Status ", status), of(end(status))})
	}
	return append(out, edge{"failed without a reason", of(end(api.StFailed), func(f *api.Flow) { f.State.Reason = "" })},
		edge{"completed with nothing", of(end(api.StCompleted), func(f *api.Flow) { f.State.Result = api.Value{} })})
}

// little gives a workflow of one run, started alone.
func little() api.Flow {
	return api.Flow{Name: "a", Runs: 1, State: api.State{Run: 1, Status: api.StRunning, Count: 1, Type: "t", Fresh: true}}
}

// greatest gives a workflow whose every number is at its limit, and every text and list as long as can be.
func greatest() api.Flow {
	v := api.Value{Kind: api.VList, List: []api.Value{text(long(200)), text(long(200)), text(long(200)), text(long(200)), text(long(188))}}
	f := api.Flow{Name: long(24), Runs: 10, State: api.State{
		Run: 10, Status: api.StRunning, Count: 120, Time: latest, Deadline: lastDue, From: 10, Signals: 120,
		Type: long(24), Input: v, Policy: api.Policy{First: 1 << 30, Coef: infinity, Most: 1 << 30},
		Task:  api.Task{State: api.TaskTaken, Attempt: lastTry, Due: lastDue, Event: 120, Seen: 120},
		Fresh: true, Cancel: true,
	}}
	for _, s := range many(10) {
		f.State.Timers = append(f.State.Timers, api.Timer{Name: s + long(21), Due: lastDue})
		f.State.Updates = append(f.State.Updates, api.Update{Name: s + long(21), Value: v, Stage: 2, Outcome: v})
	}
	for _, s := range many(30) {
		f.Table = append(f.Table, api.Done{Request: s + long(21), Kind: 13, Key: bytes.Repeat([]byte{255}, 4096), Run: 10})
	}
	return f
}

// wrong are workflows that may not be.
func wrong() []edge {
	out := []edge{
		{"the zero workflow", api.Flow{}},
		{"the zero state", of(func(f *api.Flow) { f.State = api.State{} })},
		{"the zero state of a run", of(func(f *api.Flow) { f.State = api.State{Run: 3} })},
		{"a table of what is all zero", of(func(f *api.Flow) { f.Table = []api.Done{{}} })},
		{"a table that falls", of(requests("b", "a"))},
		{"a table of one Request twice", of(requests("a", "a"))},
		{"a table of 31", of(requests(many(31)...))},
		{"a Request that is no name", of(requests("a/"))},
		{"a Kind of 0", of(func(f *api.Flow) { f.Table[1].Kind = 0 })},
		{"a Kind of 14", of(func(f *api.Flow) { f.Table[1].Kind = 14 })},
		{"a Key of 4097", of(func(f *api.Flow) { f.Table[1].Key = make([]byte, 4097) })},
		{"timers that fall", of(timers("b", "a"))},
		{"a timer twice", of(timers("a", "a"))},
		{"11 timers", of(timers(many(11)...))},
		{"updates that fall", of(updates("b", "a"))},
		{"an update twice", of(updates("a", "a"))},
		{"11 updates", of(updates(many(11)...))},
		{"a value that may not be", of(func(f *api.Flow) { f.State.Input = nested(5) })},
		{"a result of one that runs", of(func(f *api.Flow) { f.State.Result = text("r") })},
		{"a reason of one that runs", of(func(f *api.Flow) { f.State.Reason = "r" })},
		{"a task of one that has ended", of(end(api.StFailed), task(api.Task{State: api.TaskWaits, Attempt: 1}))},
		{"more signals than events", of(func(f *api.Flow) { f.State.Signals = 21 })},
	}
	for _, n := range []int{math.MinInt, -1, 0, 11, math.MaxInt} {
		out = append(out,
			edge{fmt.Sprint("Runs ", n), of(func(f *api.Flow) { f.Runs = n })},
			edge{fmt.Sprint("Run ", n), of(func(f *api.Flow) { f.State.Run = n })},
			edge{fmt.Sprint("both ", n), of(runs(n))},
			edge{fmt.Sprint("a table's Run ", n), of(func(f *api.Flow) { f.Table[0].Run = n })})
	}
	for _, n := range []int{1, 2, 4, 10} {
		out = append(out,
			edge{fmt.Sprint("Run 3, Runs ", n), of(func(f *api.Flow) { f.Runs = n })},
			edge{fmt.Sprint("Runs 3, Run ", n), of(func(f *api.Flow) { f.State.Run = n })})
	}
	for _, n := range []int{4, 10} {
		for at := range 2 {
			out = append(out, edge{fmt.Sprint("Runs 3, a table's Run ", n), of(func(f *api.Flow) { f.Table[at].Run = n })})
		}
	}
	for _, s := range []string{"", ".a", "-", "a b", "a/b", "\xff", long(25), long(300)} {
		out = append(out, edge{fmt.Sprintf("Name %q", s), of(func(f *api.Flow) { f.Name = s })})
	}
	return out
}

// part is a field's bytes.
type part struct {
	name  string
	bytes []byte
}

// book writes parts one behind the other.
type book []part

func (l *book) put(name string, b []byte) { *l = append(*l, part{name, b}) }

func (l *book) number(name string, n int) { l.put(name, pack.Num(nil, n)) }

func (l *book) text(name, s string) { l.put(name, pack.Text(nil, s)) }

func (l *book) value(name string, v api.Value) { l.put(name, valueBytes(v)) }

// valueBytes gives a value's bytes, also of one that may not be.
func valueBytes(v api.Value) []byte {
	b := pack.Num(nil, v.Kind)
	switch v.Kind {
	case api.VInt:
		b = pack.Int(b, v.Int)
	case api.VFloat:
		b = pack.Bits(b, v.Bits)
	case api.VText:
		b = pack.Text(b, v.Text)
	case api.VList:
		b = pack.Num(b, len(v.List))
		for _, w := range v.List {
			b = append(b, valueBytes(w)...)
		}
	}
	return b
}

// flow writes a workflow as the document has it, also one that may not be.
func (l *book) flow(f api.Flow) {
	l.text("Name", f.Name)
	l.number("Runs", f.Runs)
	l.state(f.State)
	l.number("Table", len(f.Table))
	for i, d := range f.Table {
		at := fmt.Sprint("done ", i, " ")
		l.text(at+"Request", d.Request)
		l.number(at+"Kind", d.Kind)
		l.text(at+"Key", string(d.Key))
		l.number(at+"Run", d.Run)
	}
}

func (l *book) state(s api.State) {
	l.number("Run", s.Run)
	l.number("Status", s.Status)
	l.number("Count", s.Count)
	l.number("Time", s.Time)
	l.number("Deadline", s.Deadline)
	l.number("From", s.From)
	l.number("Signals", s.Signals)
	l.text("Type", s.Type)
	l.value("Input", s.Input)
	l.number("First", s.Policy.First)
	l.put("Coef", pack.Bits(nil, s.Policy.Coef))
	l.number("Most", s.Policy.Most)
	l.number("State", s.Task.State)
	l.number("Attempt", s.Task.Attempt)
	l.number("Due", s.Task.Due)
	l.number("Event", s.Task.Event)
	l.number("Seen", s.Task.Seen)
	l.put("Fresh", pack.Flag(nil, s.Fresh))
	l.put("Cancel", pack.Flag(nil, s.Cancel))
	l.number("Timers", len(s.Timers))
	for i, x := range s.Timers {
		at := fmt.Sprint("timer ", i, " ")
		l.text(at+"Name", x.Name)
		l.number(at+"Due", x.Due)
	}
	l.number("Updates", len(s.Updates))
	for i, u := range s.Updates {
		at := fmt.Sprint("update ", i, " ")
		l.text(at+"Name", u.Name)
		l.value(at+"Value", u.Value)
		l.number(at+"Stage", u.Stage)
		l.value(at+"Outcome", u.Outcome)
	}
	l.value("Result", s.Result)
	l.text("Reason", s.Reason)
}

func (l book) joined() []byte {
	var out []byte
	for _, p := range l {
		out = append(out, p.bytes...)
	}
	return out
}

func flowBook(f api.Flow) (l book) {
	l.flow(f)
	return l
}

func stateBook(s api.State) (l book) {
	l.state(s)
	return l
}

// identical holds two things against each other by how they are told, in which an empty list is as none, so that Same is not asked about itself.
func identical(a, b any) bool {
	return fmt.Sprintf("%+v", a) == fmt.Sprintf("%+v", b)
}

func TestCan(t *testing.T) {
	for _, c := range good() {
		if !Can(c.f) {
			t.Errorf("%s may not be", c.why)
		}
	}
	for _, c := range wrong() {
		if Can(c.f) {
			t.Errorf("%s may be", c.why)
		}
	}
	for n := -1; n <= 12; n++ {
		if Can(of(runs(n), requests())) != (1 <= n && n <= 10) {
			t.Errorf("Runs %d", n)
		}
	}
	for _, s := range []string{"a", "_", "0", "Z.-_", long(24)} {
		if !Can(of(func(f *api.Flow) { f.Name = s })) {
			t.Errorf("Name %q may not be", s)
		}
	}
}

// TestCanOfATablesRuns: none is above how many there are.
func TestCanOfATablesRuns(t *testing.T) {
	for n := 1; n <= 10; n++ {
		for run := 1; run <= 10; run++ {
			f := of(runs(n), requests("a", "b", "c"), func(f *api.Flow) { f.Table[0].Run, f.Table[1].Run, f.Table[2].Run = 1, 1, 1 })
			for at := range f.Table {
				f.Table[at].Run = run
				if Can(f) != (run <= n) {
					t.Errorf("Runs %d, Run %d at %d", n, run, at)
				}
				f.Table[at].Run = 1
			}
		}
	}
}

// fields are changes of each field, and of each part of one, by which a workflow becomes another one.
func fields() map[string]func(f *api.Flow) {
	return map[string]func(f *api.Flow){
		"Name":         func(f *api.Flow) { f.Name += "a" },
		"Runs":         func(f *api.Flow) { f.Runs++ },
		"Run":          func(f *api.Flow) { f.State.Run++ },
		"Status":       func(f *api.Flow) { f.State.Status++ },
		"Count":        func(f *api.Flow) { f.State.Count++ },
		"Time":         func(f *api.Flow) { f.State.Time++ },
		"Deadline":     func(f *api.Flow) { f.State.Deadline++ },
		"From":         func(f *api.Flow) { f.State.From++ },
		"Signals":      func(f *api.Flow) { f.State.Signals++ },
		"Type":         func(f *api.Flow) { f.State.Type += "a" },
		"Input":        func(f *api.Flow) { f.State.Input.List[0].Text += "a" },
		"First":        func(f *api.Flow) { f.State.Policy.First++ },
		"Coef":         func(f *api.Flow) { f.State.Policy.Coef ^= minus0 },
		"Most":         func(f *api.Flow) { f.State.Policy.Most++ },
		"State":        func(f *api.Flow) { f.State.Task.State-- },
		"Attempt":      func(f *api.Flow) { f.State.Task.Attempt++ },
		"Due":          func(f *api.Flow) { f.State.Task.Due++ },
		"Event":        func(f *api.Flow) { f.State.Task.Event++ },
		"Seen":         func(f *api.Flow) { f.State.Task.Seen++ },
		"Fresh":        func(f *api.Flow) { f.State.Fresh = false },
		"Cancel":       func(f *api.Flow) { f.State.Cancel = false },
		"a timer":      func(f *api.Flow) { f.State.Timers[1].Name += "a" },
		"its Due":      func(f *api.Flow) { f.State.Timers[1].Due++ },
		"no timers":    func(f *api.Flow) { f.State.Timers = nil },
		"fewer timers": func(f *api.Flow) { f.State.Timers = f.State.Timers[:1] },
		"an update":    func(f *api.Flow) { f.State.Updates[1].Name += "a" },
		"its Value":    func(f *api.Flow) { f.State.Updates[1].Value.Text += "a" },
		"its Stage":    func(f *api.Flow) { f.State.Updates[1].Stage-- },
		"its Outcome":  func(f *api.Flow) { f.State.Updates[1].Outcome.List[0].Text += "a" },
		"no updates":   func(f *api.Flow) { f.State.Updates = nil },
		"Result":       func(f *api.Flow) { f.State.Result = api.Value{Kind: api.VFloat, Bits: minus0} },
		"Reason":       func(f *api.Flow) { f.State.Reason += "a" },
		"a Request":    func(f *api.Flow) { f.Table[1].Request += "a" },
		"its Kind":     func(f *api.Flow) { f.Table[1].Kind-- },
		"its Key":      func(f *api.Flow) { f.Table[1].Key[0]-- },
		"a longer Key": func(f *api.Flow) { f.Table[1].Key = append(f.Table[1].Key, 0) },
		"no Key":       func(f *api.Flow) { f.Table[1].Key = nil },
		"its Run":      func(f *api.Flow) { f.Table[1].Run-- },
		"the first":    func(f *api.Flow) { f.Table[0].Run++ },
		"one less":     func(f *api.Flow) { f.Table = f.Table[:1] },
		"one more":     func(f *api.Flow) { f.Table = append(f.Table, api.Done{}) },
		"no table":     func(f *api.Flow) { f.Table = nil },
		"their order":  func(f *api.Flow) { f.Table[0], f.Table[1] = f.Table[1], f.Table[0] },
	}
}

func TestSame(t *testing.T) {
	if !Same(usual(), usual()) || !Same(api.Flow{}, api.Flow{}) || Same(usual(), api.Flow{}) || Same(api.Flow{}, usual()) {
		t.Error("workflows that are the same, and not")
	}
	for why, change := range fields() {
		a, b := of(change), of(change)
		if !Same(a, b) {
			t.Errorf("%s: not the same as itself", why)
		}
		if Same(a, usual()) || Same(usual(), a) {
			t.Errorf("%s does not count", why)
		}
	}
	for i, a := range good() {
		for j, b := range good() {
			if Same(a.f, b.f) != (i == j || identical(a.f, b.f)) {
				t.Errorf("%s, and %s", a.why, b.why)
			}
		}
	}
}

func empty(f *api.Flow) {
	f.State.Timers, f.State.Updates, f.Table = []api.Timer{}, []api.Update{}, []api.Done{}
	f.State.Input.List, f.State.Result.List = []api.Value{}, []api.Value{}
}

func none(f *api.Flow) {
	f.State.Timers, f.State.Updates, f.Table = nil, nil, nil
	f.State.Input.List, f.State.Result.List = nil, nil
}

func TestEmptyListsAreAsNone(t *testing.T) {
	a, b := of(empty), of(none)
	if !Same(a, b) || !Same(b, a) || !Can(a) || !Can(b) {
		t.Error("Same, Can")
	}
	x, e := Encode(a)
	y, g := Encode(b)
	if e != api.OK || g != api.OK || !bytes.Equal(x, y) || !bytes.Equal(PutState(nil, a.State), PutState(nil, b.State)) {
		t.Error("Encode, PutState")
	}
	a.Table, b.Table = []api.Done{{Request: "a", Kind: 1, Run: 1}}, []api.Done{{Request: "a", Kind: 1, Key: []byte{}, Run: 1}}
	if !Same(a, b) || !Same(b, a) {
		t.Error("an empty Key")
	}
}

func TestTheExample(t *testing.T) {
	b, e := Encode(little())
	if e != api.OK || b[len(b)-1] != 0 {
		t.Fatalf("%x, %d", b, e)
	}
	want := "0161" + "01" + "01010100000000" + "0174" + "00" + "00000000000000000000" + "0000000000" + "0100" + "00" + "00" + "00" + "00" + "00"
	if got := fmt.Sprintf("%x", b); got != want {
		t.Errorf("%s, not %s", got, want)
	}
}

// TestBytesOfOne spells out the bytes, so that no other part of the program is asked what they are.
func TestBytesOfOne(t *testing.T) {
	state := "03" + "01" + "14" + "64" + "f101f4" + "02" + "04" +
		"03742e31" + "0401" + "0302696e" + "0a" + "4000000000000000" + "f1015e" +
		"02" + "07" + "6e" + "12" + "12" + "01" + "01" +
		"02" + "0162" + "5a" + "0164" + "f1012c" +
		"02" + "0162" + "0401030162" + "01" + "00" + "0164" + "030164" + "02" + "040103036f7574" +
		"00" + "00"
	flow := "06666c6f772d31" + "03" + state + "02" + "0170" + "02" + "046b657900" + "01" + "0171" + "0d" + "01ff" + "03"
	if b, e := Encode(usual()); e != api.OK || fmt.Sprintf("%x", b) != flow {
		t.Errorf("%x, %d, not %s", b, e, flow)
	}
	if b := PutState(nil, usual().State); fmt.Sprintf("%x", b) != state {
		t.Errorf("%x, not %s", b, state)
	}
	for status, want := range map[int]string{api.StCompleted: "04010306726573756c74" + "00", api.StTerminated: "00" + "077768793f20ff00", api.StTimedOut: "00" + "00"} {
		if b := PutState(nil, of(end(status)).State); !strings.HasSuffix(fmt.Sprintf("%x", b), want) {
			t.Errorf("Status %d: %x does not end by %s", status, b, want)
		}
	}
}

func TestEncode(t *testing.T) {
	for _, c := range good() {
		want := flowBook(c.f).joined()
		if b, e := Encode(c.f); e != api.OK || !bytes.Equal(b, want) {
			t.Errorf("%s: %x, %d, not %x", c.why, b, e, want)
		}
	}
	for _, c := range wrong() {
		if b, e := Encode(c.f); e != api.ErrArg || b != nil {
			t.Errorf("%s: %x, %d", c.why, b, e)
		}
	}
}

func TestPutState(t *testing.T) {
	for _, c := range good() {
		want := stateBook(c.f.State).joined()
		for _, ahead := range [][]byte{nil, {}, {0}, {8, 9, 255}, want} {
			if b := PutState(ahead, c.f.State); !bytes.Equal(b, slices.Concat(ahead, want)) {
				t.Errorf("%s behind %x: %x, not %x", c.why, ahead, b, want)
			}
		}
	}
}

// badStates are states that can't be.
func badStates() []edge {
	out := []edge{{"the zero state", api.Flow{}}, {"the zero state of a run", api.Flow{State: api.State{Run: 1}}}}
	numbers := map[string]func(f *api.Flow) *int{
		"Run": func(f *api.Flow) *int { return &f.State.Run }, "Status": func(f *api.Flow) *int { return &f.State.Status },
		"Count": func(f *api.Flow) *int { return &f.State.Count }, "Time": func(f *api.Flow) *int { return &f.State.Time },
		"Deadline": func(f *api.Flow) *int { return &f.State.Deadline }, "From": func(f *api.Flow) *int { return &f.State.From },
		"Signals": func(f *api.Flow) *int { return &f.State.Signals }, "First": func(f *api.Flow) *int { return &f.State.Policy.First },
		"Most": func(f *api.Flow) *int { return &f.State.Policy.Most }, "State": func(f *api.Flow) *int { return &f.State.Task.State },
		"Attempt": func(f *api.Flow) *int { return &f.State.Task.Attempt }, "Due": func(f *api.Flow) *int { return &f.State.Task.Due },
		"Event": func(f *api.Flow) *int { return &f.State.Task.Event }, "Seen": func(f *api.Flow) *int { return &f.State.Task.Seen },
		"a timer's Due": func(f *api.Flow) *int { return &f.State.Timers[1].Due }, "Stage": func(f *api.Flow) *int { return &f.State.Updates[1].Stage },
	}
	for name, field := range numbers {
		for _, n := range []int{math.MinInt, -1, math.MaxInt} {
			out = append(out, edge{fmt.Sprint(name, " ", n), of(func(f *api.Flow) { *field(f) = n })})
		}
	}
	return append(out,
		edge{"no Type", of(func(f *api.Flow) { f.State.Type = "" })},
		edge{"timers that fall", of(timers("b", "a"))},
		edge{"updates that fall", of(updates("b", "a"))},
		edge{"11 timers", of(timers(many(11)...))},
		edge{"another NaN", of(func(f *api.Flow) { f.State.Policy.Coef = otherNaN })},
		edge{"an outcome at stage 1", of(func(f *api.Flow) { f.State.Updates[1].Stage = 1 })})
}

func TestPutStateOfOneThatCannotBe(t *testing.T) {
	for _, c := range badStates() {
		given := []byte{8, 9, 7}[:2]
		b := PutState(given, c.f.State)
		if !bytes.Equal(b, []byte{8, 9}) {
			t.Errorf("%s: %x", c.why, b)
			continue
		}
		given[0] = 0
		if b[0] != 8 {
			t.Errorf("%s: what it was given is told", c.why)
		}
		if b := PutState(nil, c.f.State); len(b) != 0 {
			t.Errorf("%s: %x", c.why, b)
		}
		if Can(c.f) {
			t.Errorf("%s: a workflow of it may be", c.why)
		}
	}
}

func TestPutStateWritesInNewMemory(t *testing.T) {
	s := usual().State
	room := bytes.Repeat([]byte{9}, 500)
	b := PutState(room[:3], s)
	want := append([]byte{9, 9, 9}, stateBook(s).joined()...)
	if !bytes.Equal(b, want) || !bytes.Equal(room, bytes.Repeat([]byte{9}, 500)) {
		t.Errorf("%x", b)
	}
	clear(room)
	if !bytes.Equal(b, want) {
		t.Error("it shares memory with what it was given")
	}
}

func TestNothingIsChanged(t *testing.T) {
	for i, c := range append(good(), wrong()...) {
		Can(c.f)
		Same(c.f, usual())
		b, _ := Encode(c.f)
		clear(b)
		clear(PutState(nil, c.f.State))
		if !reflect.DeepEqual(c.f, append(good(), wrong()...)[i].f) {
			t.Errorf("%s was changed", c.why)
		}
	}
}
