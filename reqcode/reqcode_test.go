package reqcode

import (
	"bytes"
	"encoding/hex"
	"fmt"
	"math"
	"reflect"
	"slices"
	"strings"
	"testing"

	"usher/api"
	"usher/event"
	"usher/pack"
	"usher/rowcode"
	"usher/value"
)

const (
	theNaN   uint64 = 0x7ff8000000000000
	otherNaN uint64 = 0x7ff0000000000001
	infinity uint64 = 0x7ff0000000000000
	minus0   uint64 = 1 << 63
	two      uint64 = 1 << 62
)

// The limits, as the document has them.
const (
	mostNum      = 1 << 62
	mostKind     = 255
	mostText     = 200
	mostCommands = 12
	mostAnswers  = 8
	mostEvents   = 120
	mostAsked    = 64
	mostBytes    = 16384
)

func text(s string) api.Value {
	return api.Value{Kind: api.VText, Text: s}
}

// listOf gives a value that has memory of its own.
func listOf(s string) api.Value {
	return api.Value{Kind: api.VList, List: []api.Value{text(s)}}
}

func long(n int) string {
	return strings.Repeat("x", n)
}

// nested gives a number within so many lists.
func nested(lists int) api.Value {
	v := api.Value{Kind: api.VInt, Int: 1}
	for range lists {
		v = api.Value{Kind: api.VList, List: []api.Value{v}}
	}
	return v
}

// sized gives a value of so many bytes, 204 to 1404, whether it may be or not.
func sized(n int) api.Value {
	l := []api.Value{}
	left := n - 2
	for left > 202 {
		take := min(left-2, 202) // leaves enough for a last one
		l = append(l, text(long(take-2)))
		left -= take
	}
	l = append(l, text(long(left-2)))
	return api.Value{Kind: api.VList, List: l}
}

// bigValue gives one of as many bytes as may be.
func bigValue() api.Value {
	return sized(1000)
}

// usual gives a request of which each field is filled, with numbers and texts that all differ.
func usual() api.Request {
	return api.Request{
		Kind: api.OpComplete, Flow: "flow", Request: "request-7", Name: "name \x00\xff",
		Value: listOf("v"), Run: 3, Num: 300, Wait: 70000,
		Policy: api.Policy{First: 10, Coef: two, Most: 35},
		Commands: []api.Command{
			{Kind: api.CmTimer, Name: "t", Delay: 4},
			{Kind: api.CmOutcome, Name: "u", Value: listOf("out"), Delay: 1 << 40},
		},
		Answers: []api.Answer{{Op: 5, Value: listOf("a")}, {Op: 6, Value: api.Value{Kind: api.VInt, Int: -1}}},
	}
}

// running gives a state that can be, of which each field that may be another one than zero is.
func running() api.State {
	return api.State{
		Run: 3, Status: api.StRunning, Count: 20, Time: 100, Deadline: 500, From: 2, Signals: 4,
		Type:   "t.1",
		Input:  listOf("in"),
		Policy: api.Policy{First: 10, Coef: two, Most: 350},
		Task:   api.Task{State: api.TaskTaken, Attempt: 7, Due: 110, Event: 18, Seen: 18},
		Fresh:  true, Cancel: true,
		Timers:  []api.Timer{{Name: "b", Due: 90}, {Name: "d", Due: 300}},
		Updates: []api.Update{{Name: "b", Value: listOf("b"), Stage: 1}, {Name: "d", Value: text("d"), Stage: 2, Outcome: listOf("out")}},
	}
}

// ended gives the state of a run that has ended so.
func ended(status int) api.State {
	s := running()
	s.Status, s.Task, s.Timers = status, api.Task{}, nil
	switch status {
	case api.StCompleted:
		s.Result = listOf("result")
	case api.StFailed, api.StTerminated:
		s.Reason = "why? \xff\x00"
	}
	return s
}

// eventsOfAllKinds gives one event of each kind, with each field that it has filled.
func eventsOfAllKinds() []api.Event {
	policy := api.Policy{First: 10, Coef: two, Most: 350}
	return []api.Event{
		{Kind: api.EvStarted, Time: 1, Due: 900, Name: "t", Value: listOf("in"), Policy: policy},
		{Kind: api.EvScheduled, Time: 2, Num: 1 << 31, Due: 3},
		{Kind: api.EvTaken, Time: 5, Due: 9},
		{Kind: api.EvDone, Time: 6},
		{Kind: api.EvTaskFailed, Time: 7, Num: 10, Name: "why? \xff"},
		{Kind: api.EvTaskTimed, Time: 8},
		{Kind: api.EvSignaled, Time: 9, Name: "s", Value: listOf("s")},
		{Kind: api.EvCancel, Time: 10},
		{Kind: api.EvTimer, Time: 11, Due: 1 << 41, Name: "a"},
		{Kind: api.EvFired, Time: 12, Name: "a"},
		{Kind: api.EvTimerOff, Time: 13, Name: "b"},
		{Kind: api.EvAccepted, Time: 14, Name: "u", Value: text("u")},
		{Kind: api.EvOutcome, Time: 15, Name: "u", Value: listOf("o")},
		{Kind: api.EvMarker, Time: 16, Value: bigValue()},
		{Kind: api.EvCompleted, Time: 17, Value: api.Value{Kind: api.VFloat, Bits: theNaN}},
		{Kind: api.EvFailed, Time: 18, Name: "why"},
		{Kind: api.EvCanceled, Time: 19},
		{Kind: api.EvTerminated, Time: 20, Name: long(200)},
		{Kind: api.EvTimedOut, Time: 1 << 40},
	}
}

// told gives a reply of which each field is filled.
func told() api.Reply {
	return api.Reply{
		Code: api.ErrWaits, Run: 3, Num: 300, Value: listOf("v"), State: running(),
		Events:  []api.Event{{Kind: api.EvTaken, Time: 5, Due: 9}, {Kind: api.EvSignaled, Time: 9, Name: "s", Value: listOf("s")}},
		Queries: []api.Ask{{Op: 7, Name: "q", Value: listOf("q")}, {Op: 1 << 40, Name: "q \xff"}},
		Updates: []api.Ask{{Op: 8, Name: "u", Value: listOf("u")}, {Op: 9, Name: "w", Value: text("w")}, {}},
	}
}

// asked gives the usual request, changed.
func asked(changes ...func(r *api.Request)) api.Request {
	r := usual()
	for _, c := range changes {
		c(&r)
	}
	return r
}

// answered gives the usual reply, changed.
func answered(changes ...func(r *api.Reply)) api.Reply {
	r := told()
	for _, c := range changes {
		c(&r)
	}
	return r
}

// part is a field's bytes.
type part struct {
	name  string
	bytes []byte
}

// book is what a request, or a reply, is written as, field by field.
type book []part

func (l book) joined() []byte {
	var out []byte
	for _, p := range l {
		out = append(out, p.bytes...)
	}
	return out
}

func num(name string, n int) part          { return part{name, pack.Num(nil, n)} }
func texted(name, s string) part           { return part{name, pack.Text(nil, s)} }
func valued(name string, v api.Value) part { return part{name, value.Put(nil, v)} }

func requestBook(r api.Request) book {
	l := book{
		num("Kind", r.Kind), texted("Flow", r.Flow), texted("Request", r.Request), texted("Name", r.Name),
		valued("Value", r.Value), num("Run", r.Run), num("Num", r.Num), num("Wait", r.Wait),
		num("First", r.Policy.First), {"Coef", pack.Bits(nil, r.Policy.Coef)}, num("Most", r.Policy.Most),
		num("Commands", len(r.Commands)),
	}
	for i, c := range r.Commands {
		at := fmt.Sprint("command ", i, " ")
		l = append(l, num(at+"Kind", c.Kind), texted(at+"Name", c.Name), valued(at+"Value", c.Value), num(at+"Delay", c.Delay))
	}
	l = append(l, num("Answers", len(r.Answers)))
	for i, a := range r.Answers {
		at := fmt.Sprint("answer ", i, " ")
		l = append(l, num(at+"Op", a.Op), valued(at+"Value", a.Value))
	}
	return l
}

func replyBook(r api.Reply) book {
	l := book{num("Code", int(r.Code)), num("Run", r.Run), num("Num", r.Num), valued("Value", r.Value)}
	there := r.State.Run != 0
	l = append(l, part{"there", pack.Flag(nil, there)})
	if there {
		l = append(l, part{"State", rowcode.PutState(nil, r.State)})
	}
	l = append(l, num("Events", len(r.Events)))
	for i, e := range r.Events {
		l = append(l, part{fmt.Sprint("event ", i), event.Put(nil, e)})
	}
	l = append(l, askBook("Queries", "query ", r.Queries)...)
	return append(l, askBook("Updates", "update ", r.Updates)...)
}

func askBook(many, one string, asks []api.Ask) book {
	l := book{num(many, len(asks))}
	for i, a := range asks {
		at := fmt.Sprint(one, i, " ")
		l = append(l, num(at+"Op", a.Op), texted(at+"Name", a.Name), valued(at+"Value", a.Value))
	}
	return l
}

// identical says whether a and b are the same, a nil list as an empty one.
func identical(a, b any) bool {
	return fmt.Sprintf("%+v", a) == fmt.Sprintf("%+v", b)
}

// asksWell complains unless r has its bytes, and these are read as r.
func asksWell(t *testing.T, why string, r api.Request) {
	t.Helper()
	want := requestBook(r).joined()
	b, e := Request(r)
	if e != api.OK || !bytes.Equal(b, want) {
		t.Errorf("%s: %x, %d, not %x", why, b, e, want)
		return
	}
	if q, e := ReadRequest(b); e != api.OK || !identical(q, r) || !SameRequest(q, r) {
		t.Errorf("%s: read: %+v, %d", why, q, e)
	}
}

// tellsWell complains unless r has its bytes, and these are read as r.
func tellsWell(t *testing.T, why string, r api.Reply) {
	t.Helper()
	want := replyBook(r).joined()
	b, e := Reply(r)
	if e != api.OK || !bytes.Equal(b, want) {
		t.Errorf("%s: %x, %d, not %x", why, b, e, want)
		return
	}
	if q, e := ReadReply(b); e != api.OK || !identical(q, r) || !SameReply(q, r) {
		t.Errorf("%s: read: %+v, %d", why, q, e)
	}
}

// noRequest complains unless r is refused with that error, and nothing else.
func noRequest(t *testing.T, why string, r api.Request, want api.Errno) {
	t.Helper()
	if b, e := Request(r); e != want || b != nil {
		t.Errorf("%s: %x, %d, not %d", why, b, e, want)
	}
}

// noReply complains unless r is refused.
func noReply(t *testing.T, why string, r api.Reply) {
	t.Helper()
	if b, e := Reply(r); e != api.ErrArg || b != nil {
		t.Errorf("%s: %x, %d", why, b, e)
	}
}

func TestExample(t *testing.T) {
	want := slices.Concat([]byte{0x0d, 1, 0x61, 0, 0, 0, 0, 0, 0, 0}, make([]byte, 8), []byte{0, 0, 0})
	if b, e := Request(api.Request{Kind: api.OpFire, Flow: "a"}); e != api.OK || !bytes.Equal(b, want) {
		t.Errorf("%x, %d", b, e)
	}
	r := api.Request{Kind: api.OpFire, Flow: "a"}
	if q, e := ReadRequest(want); e != api.OK || !identical(q, r) {
		t.Errorf("%+v, %d", q, e)
	}
}

// TestBytes: the bytes of both, written out.
func TestBytes(t *testing.T) {
	want := "0b" + "04666c6f77" + "09726571756573742d37" + "076e616d652000ff" + "0401030176" +
		"03" + "f1012c" + "f2011170" + "0a" + "4000000000000000" + "23" +
		"02" + "01" + "0174" + "00" + "04" + "06" + "0175" + "040103036f7574" + "f5010000000000" +
		"02" + "05" + "0401030161" + "06" + "017fffffffffffffff"
	if b, e := Request(usual()); e != api.OK || hex.EncodeToString(b) != want {
		t.Errorf("%x, %d, not %s", b, e, want)
	}
	r := told()
	r.State = api.State{Run: 1, Status: api.StRunning, Count: 2, Time: 3, Type: "t", Fresh: true}
	state := "01" + "01" + "02" + "03" + "00" + "00" + "00" + "0174" + "00" + "00" + "0000000000000000" + "00" +
		"0000000000" + "01" + "00" + "00" + "00" + "00" + "00"
	behind := "02" + "030509" + "0709" + "0173" + "0401030173" +
		"02" + "07" + "0171" + "0401030171" + "f5010000000000" + "037120ff" + "00" +
		"03" + "08" + "0175" + "0401030175" + "09" + "0177" + "030177" + "00" + "00" + "00"
	for _, c := range []struct {
		state api.State
		want  string
	}{{r.State, "01" + state}, {api.State{}, "00"}} {
		r.State = c.state
		want = "19" + "03" + "f1012c" + "0401030176" + c.want + behind
		if b, e := Reply(r); e != api.OK || hex.EncodeToString(b) != want {
			t.Errorf("%x, %d, not %s", b, e, want)
		}
	}
}

func TestZeros(t *testing.T) {
	if b, e := Request(api.Request{}); e != api.OK || !bytes.Equal(b, make([]byte, 20)) {
		t.Errorf("%x, %d", b, e)
	}
	asksWell(t, "the zero request", api.Request{})
	if b, e := Reply(api.Reply{}); e != api.OK || !bytes.Equal(b, make([]byte, 8)) {
		t.Errorf("%x, %d", b, e)
	}
	tellsWell(t, "the zero reply", api.Reply{})
}

// requestNumbers are the numbers of the usual request, and what each is at most.
func requestNumbers() []struct {
	name  string
	most  int
	field func(r *api.Request) *int
} {
	return []struct {
		name  string
		most  int
		field func(r *api.Request) *int
	}{
		{"Kind", mostKind, func(r *api.Request) *int { return &r.Kind }},
		{"Run", mostNum, func(r *api.Request) *int { return &r.Run }},
		{"Num", mostNum, func(r *api.Request) *int { return &r.Num }},
		{"Wait", mostNum, func(r *api.Request) *int { return &r.Wait }},
		{"First", mostNum, func(r *api.Request) *int { return &r.Policy.First }},
		{"Most", mostNum, func(r *api.Request) *int { return &r.Policy.Most }},
		{"command 0 Kind", mostKind, func(r *api.Request) *int { return &r.Commands[0].Kind }},
		{"command 1 Kind", mostKind, func(r *api.Request) *int { return &r.Commands[1].Kind }},
		{"command 0 Delay", mostNum, func(r *api.Request) *int { return &r.Commands[0].Delay }},
		{"command 1 Delay", mostNum, func(r *api.Request) *int { return &r.Commands[1].Delay }},
		{"answer 0 Op", mostNum, func(r *api.Request) *int { return &r.Answers[0].Op }},
		{"answer 1 Op", mostNum, func(r *api.Request) *int { return &r.Answers[1].Op }},
	}
}

// replyNumbers are the numbers of the usual reply, and what each is at most.
func replyNumbers() []struct {
	name string
	most int
	set  func(r *api.Reply, n int)
} {
	return []struct {
		name string
		most int
		set  func(r *api.Reply, n int)
	}{
		{"Code", mostKind, func(r *api.Reply, n int) { r.Code = api.Errno(n) }},
		{"Run", mostNum, func(r *api.Reply, n int) { r.Run = n }},
		{"Num", mostNum, func(r *api.Reply, n int) { r.Num = n }},
		{"query 0 Op", mostNum, func(r *api.Reply, n int) { r.Queries[0].Op = n }},
		{"query 1 Op", mostNum, func(r *api.Reply, n int) { r.Queries[1].Op = n }},
		{"update 0 Op", mostNum, func(r *api.Reply, n int) { r.Updates[0].Op = n }},
		{"update 2 Op", mostNum, func(r *api.Reply, n int) { r.Updates[2].Op = n }},
	}
}

// within are numbers that may be, of those that are at most most.
func within(most int) []int {
	return []int{0, 1, 2, 13, 14, 26, 27, 239, 240, 254, most - 1, most}
}

// beyond are numbers that may not be.
func beyond(most int) []int {
	return []int{math.MinInt, math.MinInt + 1, -1 << 62, -256, -255, -1, most + 1, math.MaxInt - 1, math.MaxInt}
}

func TestNumbersOfRequests(t *testing.T) {
	for _, c := range requestNumbers() {
		for _, n := range within(c.most) {
			asksWell(t, fmt.Sprint(c.name, " ", n), asked(func(r *api.Request) { *c.field(r) = n }))
		}
		for _, n := range beyond(c.most) {
			noRequest(t, fmt.Sprint(c.name, " ", n), asked(func(r *api.Request) { *c.field(r) = n }), api.ErrArg)
		}
	}
}

func TestNumbersOfReplies(t *testing.T) {
	for _, c := range replyNumbers() {
		for _, n := range within(c.most) {
			tellsWell(t, fmt.Sprint(c.name, " ", n), answered(func(r *api.Reply) { c.set(r, n) }))
		}
		for _, n := range beyond(c.most) {
			noReply(t, fmt.Sprint(c.name, " ", n), answered(func(r *api.Reply) { c.set(r, n) }))
		}
	}
}

// TestEachCodeAndKind: all that there may be, whether the program has such a one or not.
func TestEachCodeAndKind(t *testing.T) {
	for n := range 256 {
		asksWell(t, fmt.Sprint("Kind ", n), asked(func(r *api.Request) { r.Kind = n }))
		asksWell(t, fmt.Sprint("a command's Kind ", n), asked(func(r *api.Request) { r.Commands[0].Kind = n }))
		tellsWell(t, fmt.Sprint("Code ", n), answered(func(r *api.Reply) { r.Code = api.Errno(n) }))
	}
}

// TestPolicies: what a policy waits is not asked here, and any bits are a Coef.
func TestPolicies(t *testing.T) {
	for _, coef := range []uint64{0, minus0, infinity, theNaN, otherNaN, two, math.MaxUint64} {
		asksWell(t, fmt.Sprintf("Coef %x", coef), asked(func(r *api.Request) { r.Policy.Coef = coef }))
	}
}

// requestTexts are the texts of the usual request.
func requestTexts() map[string]func(r *api.Request) *string {
	return map[string]func(r *api.Request) *string{
		"Flow":           func(r *api.Request) *string { return &r.Flow },
		"Request":        func(r *api.Request) *string { return &r.Request },
		"Name":           func(r *api.Request) *string { return &r.Name },
		"command 0 Name": func(r *api.Request) *string { return &r.Commands[0].Name },
		"command 1 Name": func(r *api.Request) *string { return &r.Commands[1].Name },
	}
}

// replyTexts are the texts of the usual reply.
func replyTexts() map[string]func(r *api.Reply) *string {
	return map[string]func(r *api.Reply) *string{
		"query 0 Name":  func(r *api.Reply) *string { return &r.Queries[0].Name },
		"query 1 Name":  func(r *api.Reply) *string { return &r.Queries[1].Name },
		"update 0 Name": func(r *api.Reply) *string { return &r.Updates[0].Name },
		"update 2 Name": func(r *api.Reply) *string { return &r.Updates[2].Name },
	}
}

func TestTexts(t *testing.T) {
	fine := []string{"", "a", "\x00", "\xff\xfe", " /\n", long(24), long(25), long(199), long(mostText), strings.Repeat("é", 100)}
	tooLong := []string{long(mostText + 1), strings.Repeat("é", 101), long(400), long(1 << 16)}
	for name, field := range requestTexts() {
		for _, s := range fine {
			asksWell(t, fmt.Sprintf("%s %q", name, s), asked(func(r *api.Request) { *field(r) = s }))
		}
		for _, s := range tooLong {
			noRequest(t, fmt.Sprint(name, " of ", len(s)), asked(func(r *api.Request) { *field(r) = s }), api.ErrArg)
		}
	}
	for name, field := range replyTexts() {
		for _, s := range fine {
			tellsWell(t, fmt.Sprintf("%s %q", name, s), answered(func(r *api.Reply) { *field(r) = s }))
		}
		for _, s := range tooLong {
			noReply(t, fmt.Sprint(name, " of ", len(s)), answered(func(r *api.Reply) { *field(r) = s }))
		}
	}
}

// goodValues are values that may be.
func goodValues() []api.Value {
	return []api.Value{
		{}, {Kind: api.VInt}, {Kind: api.VInt, Int: math.MinInt}, {Kind: api.VInt, Int: math.MaxInt},
		{Kind: api.VFloat}, {Kind: api.VFloat, Bits: minus0}, {Kind: api.VFloat, Bits: theNaN}, {Kind: api.VFloat, Bits: infinity},
		text(""), text(long(200)), {Kind: api.VList}, {Kind: api.VList, List: make([]api.Value, 12)}, nested(4), bigValue(), sized(999),
	}
}

// badValues are values that may not be.
func badValues() []api.Value {
	return []api.Value{
		{Kind: -1}, {Kind: 5}, {Kind: math.MaxInt}, {Int: 1}, {Bits: 1}, {Text: "x"}, {List: make([]api.Value, 1)},
		{Kind: api.VInt, Text: "x"}, {Kind: api.VFloat, Bits: otherNaN}, {Kind: api.VFloat, Bits: theNaN | minus0},
		text(long(201)), {Kind: api.VList, List: make([]api.Value, 13)}, nested(5), sized(1001),
		{Kind: api.VList, List: []api.Value{{Kind: api.VList, List: []api.Value{{Kind: 7}}}}},
	}
}

func TestValues(t *testing.T) {
	inRequests := map[string]func(r *api.Request) *api.Value{
		"Value":           func(r *api.Request) *api.Value { return &r.Value },
		"command 0 Value": func(r *api.Request) *api.Value { return &r.Commands[0].Value },
		"command 1 Value": func(r *api.Request) *api.Value { return &r.Commands[1].Value },
		"answer 0 Value":  func(r *api.Request) *api.Value { return &r.Answers[0].Value },
		"answer 1 Value":  func(r *api.Request) *api.Value { return &r.Answers[1].Value },
	}
	for name, field := range inRequests {
		for i, v := range goodValues() {
			asksWell(t, fmt.Sprint(name, " ", i), asked(func(r *api.Request) { *field(r) = v }))
		}
		for i, v := range badValues() {
			noRequest(t, fmt.Sprint(name, " ", i), asked(func(r *api.Request) { *field(r) = v }), api.ErrArg)
		}
	}
	inReplies := map[string]func(r *api.Reply) *api.Value{
		"Value":          func(r *api.Reply) *api.Value { return &r.Value },
		"event 1 Value":  func(r *api.Reply) *api.Value { return &r.Events[1].Value },
		"query 0 Value":  func(r *api.Reply) *api.Value { return &r.Queries[0].Value },
		"query 1 Value":  func(r *api.Reply) *api.Value { return &r.Queries[1].Value },
		"update 0 Value": func(r *api.Reply) *api.Value { return &r.Updates[0].Value },
		"update 2 Value": func(r *api.Reply) *api.Value { return &r.Updates[2].Value },
		"Input":          func(r *api.Reply) *api.Value { return &r.State.Input },
	}
	for name, field := range inReplies {
		for i, v := range goodValues() {
			tellsWell(t, fmt.Sprint(name, " ", i), answered(func(r *api.Reply) { *field(r) = v }))
		}
		for i, v := range badValues() {
			noReply(t, fmt.Sprint(name, " ", i), answered(func(r *api.Reply) { *field(r) = v }))
		}
	}
}

// requestLists set how many a list of a request has.
func requestLists() []struct {
	name string
	most int
	set  func(r *api.Request, n int)
} {
	return []struct {
		name string
		most int
		set  func(r *api.Request, n int)
	}{
		{"Commands", mostCommands, func(r *api.Request, n int) { r.Commands = make([]api.Command, n) }},
		{"Answers", mostAnswers, func(r *api.Request, n int) { r.Answers = make([]api.Answer, n) }},
	}
}

// replyLists set how many a list of a reply has.
func replyLists() []struct {
	name string
	most int
	set  func(r *api.Reply, n int)
} {
	return []struct {
		name string
		most int
		set  func(r *api.Reply, n int)
	}{
		{"Events", mostEvents, func(r *api.Reply, n int) {
			r.Events = nil
			for i := range n {
				r.Events = append(r.Events, api.Event{Kind: api.EvDone, Time: i})
			}
		}},
		{"Queries", mostAsked, func(r *api.Reply, n int) { r.Queries = make([]api.Ask, n) }},
		{"Updates", mostAsked, func(r *api.Reply, n int) { r.Updates = make([]api.Ask, n) }},
	}
}

func TestLists(t *testing.T) {
	for _, c := range requestLists() {
		for _, n := range []int{0, 1, 2, 7, c.most - 1, c.most} {
			asksWell(t, fmt.Sprint(n, " ", c.name), asked(func(r *api.Request) { c.set(r, n) }))
		}
		for _, n := range []int{c.most + 1, c.most + 2, 256, 1000} {
			noRequest(t, fmt.Sprint(n, " ", c.name), asked(func(r *api.Request) { c.set(r, n) }), api.ErrArg)
		}
	}
	for _, c := range replyLists() {
		for _, n := range []int{0, 1, 2, 7, c.most - 1, c.most} {
			tellsWell(t, fmt.Sprint(n, " ", c.name), answered(func(r *api.Reply) { c.set(r, n) }))
		}
		for _, n := range []int{c.most + 1, c.most + 2, 256, 1000} {
			noReply(t, fmt.Sprint(n, " ", c.name), answered(func(r *api.Reply) { c.set(r, n) }))
		}
	}
	tellsWell(t, "all lists full", answered(func(r *api.Reply) {
		for _, c := range replyLists() {
			c.set(r, c.most)
		}
	}))
	asksWell(t, "both lists full", asked(func(r *api.Request) {
		for _, c := range requestLists() {
			c.set(r, c.most)
		}
	}))
}

// TestEmptyListsAreAsNone: wherever a list may be nil, an empty one is written as that.
func TestEmptyListsAreAsNone(t *testing.T) {
	r := api.Request{Kind: api.OpFire, Flow: "a", Value: api.Value{List: []api.Value{}}, Commands: []api.Command{}, Answers: []api.Answer{}}
	asksWell(t, "a request", r)
	x := api.Reply{Value: api.Value{List: []api.Value{}}, State: emptyState(), Events: []api.Event{}, Queries: []api.Ask{}, Updates: []api.Ask{}}
	if b, e := Reply(x); e != api.OK || !bytes.Equal(b, make([]byte, 8)) {
		t.Errorf("%x, %d", b, e)
	}
}

// emptyState gives the zero state, but its lists are empty ones.
func emptyState() api.State {
	none := api.Value{List: []api.Value{}}
	return api.State{Input: none, Result: none, Timers: []api.Timer{}, Updates: []api.Update{}}
}

// goodStates are states that can be.
func goodStates() []api.State {
	little := api.State{Run: 1, Status: api.StRunning, Count: 1, Type: "t"}
	waits := running()
	waits.Task = api.Task{State: api.TaskWaits, Attempt: 1}
	bare := running()
	bare.Timers, bare.Updates = []api.Timer{}, nil
	out := []api.State{little, running(), waits, bare}
	for status := api.StCompleted; status <= api.StTimedOut; status++ {
		out = append(out, ended(status))
	}
	return out
}

// badStates are states that are neither zero nor such that can be.
func badStates() []api.State {
	out := []api.State{
		{Run: 1}, {Run: -1}, {Status: api.StRunning}, {Count: 1}, {Time: 1}, {Deadline: 1}, {From: 1}, {Signals: 1}, {Type: "t"},
		{Input: text("")}, {Policy: api.Policy{Coef: minus0}}, {Policy: api.Policy{First: 1}}, {Task: api.Task{Due: 1}}, {Task: api.Task{Seen: 1}},
		{Fresh: true}, {Cancel: true}, {Timers: make([]api.Timer, 1)}, {Updates: make([]api.Update, 1)}, {Result: text("")}, {Reason: "w"},
	}
	for _, change := range []func(s *api.State){
		func(s *api.State) { s.Run = 11 }, func(s *api.State) { s.Run = 0 }, func(s *api.State) { s.Status = 7 },
		func(s *api.State) { s.Count = 121 }, func(s *api.State) { s.Signals = 21 }, func(s *api.State) { s.Type = "" },
		func(s *api.State) { s.Task.Seen = 17 }, func(s *api.State) { s.Policy.Coef = theNaN }, func(s *api.State) { s.Reason = "w" },
		func(s *api.State) { s.Timers[1].Name = "a" }, func(s *api.State) { s.Updates[1].Stage = 3 },
	} {
		s := running()
		change(&s)
		out = append(out, s)
	}
	return out
}

func TestStates(t *testing.T) {
	for i, s := range goodStates() {
		tellsWell(t, fmt.Sprint("state ", i), answered(func(r *api.Reply) { r.State = s }))
		tellsWell(t, fmt.Sprint("state alone ", i), api.Reply{State: s})
	}
	for _, s := range []api.State{{}, emptyState()} {
		tellsWell(t, "no state", answered(func(r *api.Reply) { r.State = s }))
	}
	for i, s := range badStates() {
		noReply(t, fmt.Sprint("bad state ", i), answered(func(r *api.Reply) { r.State = s }))
		noReply(t, fmt.Sprint("bad state alone ", i), api.Reply{State: s})
	}
}

// badEvents are events that may not be.
func badEvents() []api.Event {
	return []api.Event{
		{}, {Kind: -1}, {Kind: 20}, {Kind: math.MaxInt}, {Kind: api.EvDone, Time: -1}, {Kind: api.EvDone, Time: 1<<40 + 1},
		{Kind: api.EvDone, Num: 1}, {Kind: api.EvDone, Due: 1}, {Kind: api.EvDone, Name: "x"}, {Kind: api.EvDone, Value: text("")},
		{Kind: api.EvScheduled}, {Kind: api.EvScheduled, Num: 1<<31 + 1}, {Kind: api.EvTaskFailed, Num: 11},
		{Kind: api.EvFired}, {Kind: api.EvFired, Name: "a/b"}, {Kind: api.EvFailed, Name: long(201)},
		{Kind: api.EvTaken, Due: 1<<41 + 1}, {Kind: api.EvMarker, Value: nested(5)},
		{Kind: api.EvStarted, Name: "t", Policy: api.Policy{Coef: theNaN}}, {Kind: api.EvDone, Policy: api.Policy{Most: 1}},
	}
}

func TestEvents(t *testing.T) {
	tellsWell(t, "all kinds", answered(func(r *api.Reply) { r.Events = eventsOfAllKinds() }))
	for _, e := range eventsOfAllKinds() {
		tellsWell(t, event.Name(e.Kind), api.Reply{Events: []api.Event{e}})
	}
	for i, e := range badEvents() {
		noReply(t, fmt.Sprint("bad event ", i), api.Reply{Events: []api.Event{e}})
		noReply(t, fmt.Sprint("bad event behind others ", i), answered(func(r *api.Reply) { r.Events = append(r.Events, e) }))
	}
}

// padded gives a request of just so many bytes, some below 2^14 or a few above it, of fields that may be.
func padded(t *testing.T, n int) api.Request {
	t.Helper()
	r := api.Request{Kind: api.OpComplete, Flow: "f", Run: 1, Num: 3}
	for range mostCommands {
		r.Commands = append(r.Commands, api.Command{Kind: api.CmOutcome, Name: "u", Value: bigValue()})
	}
	for range 4 {
		r.Answers = append(r.Answers, api.Answer{Op: 1, Value: sized(900)})
	}
	missing := n - len(requestBook(r).joined())
	for i := 0; missing > 0 && i < len(r.Commands); i++ {
		more := min(missing, 199) // the length of a text of 200 is a byte still
		r.Commands[i].Name += long(more)
		missing -= more
	}
	if got := len(requestBook(r).joined()); got != n {
		t.Fatalf("%d bytes, not %d", got, n)
	}
	return r
}

func TestRequestsOfMostBytes(t *testing.T) {
	for _, n := range []int{mostBytes - 2, mostBytes - 1, mostBytes} {
		asksWell(t, fmt.Sprint(n, " bytes"), padded(t, n))
	}
	for _, n := range []int{mostBytes + 1, mostBytes + 2, mostBytes + 100} {
		r := padded(t, n)
		noRequest(t, fmt.Sprint(n, " bytes"), r, api.ErrLong)
		noAsking(t, fmt.Sprint(n, " bytes"), requestBook(r).joined(), api.ErrLong)
	}
}

// TestWhatMayNotBeIsToldAheadOfTooLong: wherever it stands.
func TestWhatMayNotBeIsToldAheadOfTooLong(t *testing.T) {
	for i, change := range []func(r *api.Request){
		func(r *api.Request) { r.Kind = 256 },
		func(r *api.Request) { r.Run = -1 },
		func(r *api.Request) { r.Flow = long(201) },
		func(r *api.Request) { r.Value = nested(5) },
		func(r *api.Request) { r.Policy.Most = -1 },
		func(r *api.Request) { r.Commands[11].Delay = -1 },
		func(r *api.Request) { r.Commands = append(r.Commands, api.Command{}) },
		func(r *api.Request) { r.Answers[3].Op = mostNum + 1 },
		func(r *api.Request) { r.Answers[3].Value.Kind = 9 },
		func(r *api.Request) { r.Answers = append(r.Answers, make([]api.Answer, 5)...) },
	} {
		r := padded(t, mostBytes+50)
		change(&r)
		noRequest(t, fmt.Sprint("change ", i), r, api.ErrArg)
	}
}

// TestRepliesHaveNoLimitOfBytes: there are more than a request may have.
func TestRepliesHaveNoLimitOfBytes(t *testing.T) {
	r := answered(func(r *api.Reply) {
		r.Events = slices.Repeat([]api.Event{{Kind: api.EvMarker, Value: bigValue()}}, mostEvents)
		r.Queries = slices.Repeat([]api.Ask{{Op: mostNum, Name: long(200), Value: bigValue()}}, mostAsked)
		r.Updates = slices.Clone(r.Queries)
	})
	tellsWell(t, "all as great as can be", r)
	if b, _ := Reply(r); len(b) < 10*mostBytes {
		t.Error(len(b))
	}
	for _, n := range []int{17, 18, 19} {
		r := api.Reply{Events: slices.Repeat([]api.Event{{Kind: api.EvMarker, Value: sized(905)}}, n)}
		tellsWell(t, fmt.Sprint(n, " events"), r)
	}
}

// TestNothingIsChanged: what is handed in stays as it was, and what is told is new memory.
func TestNothingIsChanged(t *testing.T) {
	r, x := usual(), told()
	b, _ := Request(r)
	c, _ := Reply(x)
	kept, keptReply := bytes.Clone(b), bytes.Clone(c)
	SameRequest(r, r)
	SameReply(x, x)
	clear(b[:cap(b)])
	clear(c[:cap(c)])
	if !reflect.DeepEqual(r, usual()) || !reflect.DeepEqual(x, told()) {
		t.Error("what was handed in is changed")
	}
	if again, _ := Request(r); !bytes.Equal(again, kept) {
		t.Error("the bytes of a request are shared")
	}
	if again, _ := Reply(x); !bytes.Equal(again, keptReply) {
		t.Error("the bytes of a reply are shared")
	}
}

// TestWhatIsRefusedIsUnchanged: giving up leaves nothing behind for the next one.
func TestWhatIsRefusedIsUnchanged(t *testing.T) {
	bad := asked(func(r *api.Request) { r.Answers[1].Op = -1 })
	noRequest(t, "a bad one", bad, api.ErrArg)
	if !reflect.DeepEqual(bad, asked(func(r *api.Request) { r.Answers[1].Op = -1 })) {
		t.Error("what was handed in is changed")
	}
	asksWell(t, "behind a bad one", usual())
	noReply(t, "a bad one", answered(func(r *api.Reply) { r.Updates[2].Op = -1 }))
	tellsWell(t, "behind a bad one", told())
}
