package reqcode

import (
	"bytes"
	"fmt"
	"math"
	"math/rand"
	"reflect"
	"slices"
	"strings"
	"testing"

	"usher/api"
	"usher/event"
	"usher/pack"
	"usher/rowcode"
)

// noAsking complains unless b is told that error, and nothing else.
func noAsking(t *testing.T, why string, b []byte, want api.Errno) {
	t.Helper()
	if r, e := ReadRequest(b); e != want || !reflect.DeepEqual(r, api.Request{}) {
		t.Errorf("%s: %+v, %d, not %d", why, r, e, want)
	}
}

// noTelling complains unless b is told that error, and nothing else.
func noTelling(t *testing.T, why string, b []byte, want api.Errno) {
	t.Helper()
	if r, e := ReadReply(b); e != want || !reflect.DeepEqual(r, api.Reply{}) {
		t.Errorf("%s: %+v, %d, not %d", why, r, e, want)
	}
}

// swapped gives the bytes of l with other ones in the place of some parts'.
func swapped(t *testing.T, l book, swaps map[string][]byte) []byte {
	t.Helper()
	var out []byte
	found := 0
	for _, p := range l {
		b, ok := swaps[p.name]
		if !ok {
			b = p.bytes
		} else {
			found++
		}
		out = append(out, b...)
	}
	if found != len(swaps) {
		t.Fatalf("%d of %d parts found", found, len(swaps))
	}
	return out
}

func TestEachKindThereAndBack(t *testing.T) {
	v := listOf("v")
	policy := api.Policy{First: 10, Coef: two, Most: 35}
	for _, r := range []api.Request{
		{Kind: api.OpStart, Flow: "f", Request: "r", Name: "t", Value: v, Num: 30, Policy: policy},
		{Kind: api.OpSignal, Flow: "f", Request: "r", Name: "s", Value: v},
		{Kind: api.OpSignalStart, Flow: "f", Request: "r", Name: "s", Value: v, Num: 30, Policy: policy},
		{Kind: api.OpQuery, Flow: "f", Name: "q", Value: v, Wait: 7},
		{Kind: api.OpUpdate, Flow: "f", Request: "u", Value: v, Num: 2, Wait: 7},
		{Kind: api.OpCancel, Flow: "f", Request: "r"},
		{Kind: api.OpTerminate, Flow: "f", Request: "r", Name: "why"},
		{Kind: api.OpReset, Flow: "f", Request: "r", Num: 4},
		{Kind: api.OpDescribe, Flow: "f"},
		{Kind: api.OpPoll, Flow: "f", Num: 9},
		{Kind: api.OpComplete, Flow: "f", Run: 2, Num: 3, Commands: usual().Commands, Answers: usual().Answers},
		{Kind: api.OpFail, Flow: "f", Run: 2, Num: 3, Name: "why"},
		{Kind: api.OpFire, Flow: "f"},
	} {
		asksWell(t, fmt.Sprint("Kind ", r.Kind), r)
	}
	for code := api.OK; code <= api.ErrOrder; code++ {
		tellsWell(t, fmt.Sprint("Code ", code), api.Reply{Code: code})
		tellsWell(t, fmt.Sprint("Code ", code), answered(func(r *api.Reply) { r.Code = code }))
	}
	for _, r := range []api.Reply{
		{Run: 1}, {Run: 2, Num: 3}, {Run: 1, State: running()}, {Run: 1, Num: 2, Value: v},
		{Run: 1, Num: 3, Events: eventsOfAllKinds(), Queries: told().Queries, Updates: told().Updates},
		{Code: api.ErrReject, Run: 1, Value: v}, {Code: api.ErrWaits, Run: 1, Num: 20},
	} {
		tellsWell(t, fmt.Sprintf("%+v", r), r)
	}
}

func TestEachBeginningIsShort(t *testing.T) {
	for _, r := range []api.Request{usual(), {}, {Kind: api.OpFire, Flow: "a"}, {Kind: mostKind, Run: mostNum, Value: bigValue()}} {
		b := requestBook(r).joined()
		for i := range b {
			noAsking(t, fmt.Sprint(i, " bytes"), b[:i], api.ErrShort)
		}
		for c := range 256 {
			noAsking(t, fmt.Sprint("a byte ", c, " behind it"), append(b[:len(b):len(b)], byte(c)), api.ErrForm)
		}
		noAsking(t, "twice", slices.Concat(b, b), api.ErrForm)
	}
	for _, r := range []api.Reply{told(), {}, {State: ended(api.StFailed)}, {Events: eventsOfAllKinds()}} {
		b := replyBook(r).joined()
		for i := range b {
			noTelling(t, fmt.Sprint(i, " bytes"), b[:i], api.ErrShort)
		}
		for c := range 256 {
			noTelling(t, fmt.Sprint("a byte ", c, " behind it"), append(b[:len(b):len(b)], byte(c)), api.ErrForm)
		}
		noTelling(t, "twice", slices.Concat(b, b), api.ErrForm)
	}
}

func TestNoBytes(t *testing.T) {
	for _, b := range [][]byte{nil, {}} {
		noAsking(t, "no bytes", b, api.ErrShort)
		noTelling(t, "no bytes", b, api.ErrShort)
	}
}

// TestReadNumbers: one above its bound is too long, however great it is.
func TestReadNumbers(t *testing.T) {
	for _, c := range requestNumbers() {
		for _, n := range []int{c.most + 1, c.most + 2, math.MaxInt - 1, math.MaxInt} {
			noAsking(t, fmt.Sprint(c.name, " ", n), swapped(t, requestBook(usual()), map[string][]byte{c.name: pack.Num(nil, n)}), api.ErrLong)
		}
	}
	for _, c := range replyNumbers() {
		for _, n := range []int{c.most + 1, c.most + 2, math.MaxInt - 1, math.MaxInt} {
			noTelling(t, fmt.Sprint(c.name, " ", n), swapped(t, replyBook(told()), map[string][]byte{c.name: pack.Num(nil, n)}), api.ErrLong)
		}
	}
}

// otherForms are numbers that are not written in the one form.
var otherForms = [][]byte{{0xf0, 5}, {0xf0, 239}, {0xf1, 0, 240}, {0xf2, 0, 1, 0}, {0xf7, 0, 1, 2, 3, 4, 5, 6, 7}, {0xf7, 0x80, 0, 0, 0, 0, 0, 0, 0}, {0xf8, 1, 1, 1, 1, 1, 1, 1, 1, 1}, {0xff}}

func TestNumbersInAnotherForm(t *testing.T) {
	var inRequests, inReplies []string
	for _, c := range requestNumbers() {
		inRequests = append(inRequests, c.name)
	}
	for _, c := range requestLists() {
		inRequests = append(inRequests, c.name)
	}
	for name := range requestTexts() {
		inRequests = append(inRequests, name)
	}
	for _, c := range replyNumbers() {
		inReplies = append(inReplies, c.name)
	}
	for _, c := range replyLists() {
		inReplies = append(inReplies, c.name)
	}
	for name := range replyTexts() {
		inReplies = append(inReplies, name)
	}
	for _, form := range otherForms {
		for _, name := range inRequests {
			noAsking(t, fmt.Sprintf("%s %x", name, form), swapped(t, requestBook(usual()), map[string][]byte{name: form}), api.ErrForm)
		}
		for _, name := range inReplies {
			noTelling(t, fmt.Sprintf("%s %x", name, form), swapped(t, replyBook(told()), map[string][]byte{name: form}), api.ErrForm)
		}
	}
}

func TestReadTexts(t *testing.T) {
	for name := range requestTexts() {
		for _, n := range []int{mostText + 1, 239, 240, 1000} {
			noAsking(t, fmt.Sprint(name, " of ", n), swapped(t, requestBook(usual()), map[string][]byte{name: pack.Text(nil, long(n))}), api.ErrLong)
		}
		noAsking(t, name+" that is said to be too long", swapped(t, requestBook(usual()), map[string][]byte{name: {201}}), api.ErrLong)
	}
	for name := range replyTexts() {
		for _, n := range []int{mostText + 1, 239, 240, 1000} {
			noTelling(t, fmt.Sprint(name, " of ", n), swapped(t, replyBook(told()), map[string][]byte{name: pack.Text(nil, long(n))}), api.ErrLong)
		}
		noTelling(t, name+" that is said to be too long", swapped(t, replyBook(told()), map[string][]byte{name: {201}}), api.ErrLong)
	}
}

// TestReadLists: a list with more than may be is too long as soon as that is read, whatever stands behind.
func TestReadLists(t *testing.T) {
	for _, c := range requestLists() {
		for _, n := range []int{c.most + 1, 200, mostNum, math.MaxInt} {
			noAsking(t, fmt.Sprint(n, " ", c.name), swapped(t, requestBook(usual()), map[string][]byte{c.name: pack.Num(nil, n)}), api.ErrLong)
		}
		many := asked(func(r *api.Request) { c.set(r, c.most+1) })
		noAsking(t, fmt.Sprint("really more ", c.name), requestBook(many).joined(), api.ErrLong)
	}
	for _, c := range replyLists() {
		for _, n := range []int{c.most + 1, 200, mostNum, math.MaxInt} {
			noTelling(t, fmt.Sprint(n, " ", c.name), swapped(t, replyBook(told()), map[string][]byte{c.name: pack.Num(nil, n)}), api.ErrLong)
		}
		many := answered(func(r *api.Reply) { c.set(r, c.most+1) })
		noTelling(t, fmt.Sprint("really more ", c.name), replyBook(many).joined(), api.ErrLong)
	}
	noAsking(t, "answers that are missing", append(make([]byte, 19), 8), api.ErrShort)
	noTelling(t, "updates that are missing", append(make([]byte, 7), 64), api.ErrShort)
}

// valueFaults are bytes that no value is, and what is told of them.
func valueFaults() []struct {
	bytes []byte
	want  api.Errno
} {
	deep := slices.Concat(bytes.Repeat([]byte{4, 1}, 5), []byte{0})
	great := []byte{4, 5}
	for _, n := range []int{200, 200, 200, 200, 189} {
		great = slices.Concat(great, []byte{3}, pack.Text(nil, long(n)))
	}
	return []struct {
		bytes []byte
		want  api.Errno
	}{
		{[]byte{5}, api.ErrLong}, {[]byte{0xf0, 1}, api.ErrForm}, {[]byte{255}, api.ErrForm},
		{pack.Bits([]byte{2}, otherNaN), api.ErrForm}, {pack.Bits([]byte{2}, theNaN|minus0), api.ErrForm},
		{pack.Text([]byte{3}, long(201)), api.ErrLong}, {append([]byte{4, 13}, make([]byte, 13)...), api.ErrLong},
		{deep, api.ErrLong}, {great, api.ErrLong},
	}
}

func TestReadValues(t *testing.T) {
	for i, c := range valueFaults() {
		for _, name := range []string{"Value", "command 0 Value", "command 1 Value", "answer 0 Value", "answer 1 Value"} {
			noAsking(t, fmt.Sprint(name, " ", i), swapped(t, requestBook(usual()), map[string][]byte{name: c.bytes}), c.want)
		}
		for _, name := range []string{"Value", "query 0 Value", "query 1 Value", "update 0 Value", "update 2 Value"} {
			noTelling(t, fmt.Sprint(name, " ", i), swapped(t, replyBook(told()), map[string][]byte{name: c.bytes}), c.want)
		}
		noTelling(t, fmt.Sprint("an event's value ", i), swapped(t, replyBook(told()), map[string][]byte{"event 0": slices.Concat([]byte{api.EvMarker, 5}, c.bytes)}), c.want)
	}
}

func TestReadStates(t *testing.T) {
	for _, flag := range []byte{2, 3, 255} {
		noTelling(t, fmt.Sprint("flag ", flag), swapped(t, replyBook(told()), map[string][]byte{"there": {flag}}), api.ErrForm)
	}
	zeroSize := len(rowcode.PutState(nil, api.State{Run: 1, Status: 1, Count: 1, Type: "t"})) - len("t")
	state := rowcode.PutState(nil, running())
	change := func(at int, c byte) []byte {
		b := bytes.Clone(state)
		b[at] = c
		return b
	}
	for _, c := range []struct {
		why   string
		bytes []byte
		want  api.Errno
	}{
		{"Run 11", change(0, 11), api.ErrLong},
		{"Run 0", change(0, 0), api.ErrForm},
		{"Run in another form", change(0, 248), api.ErrForm},
		{"Status 7", change(1, 7), api.ErrLong},
		{"Status 0", change(1, 0), api.ErrForm},
		{"Count 121", change(2, 121), api.ErrLong},
		{"Count 17, of the event 18", change(2, 17), api.ErrForm},
		{"a reason", append(state[:len(state)-1:len(state)-1], 1, 'w'), api.ErrForm},
		{"a reason that is too long", append(state[:len(state)-1:len(state)-1], 201), api.ErrLong},
		{"the zero state", make([]byte, zeroSize), api.ErrForm},
	} {
		noTelling(t, c.why, swapped(t, replyBook(told()), map[string][]byte{"State": c.bytes}), c.want)
	}
	noTelling(t, "said to be there, and the bytes end", []byte{0, 0, 0, 0, 1}, api.ErrShort)
}

func TestReadEvents(t *testing.T) {
	for _, c := range []struct {
		why   string
		bytes []byte
		want  api.Errno
	}{
		{"Kind 0", []byte{0, 5}, api.ErrForm},
		{"Kind 20", []byte{20, 5}, api.ErrLong},
		{"Kind in another form", []byte{0xf0, 4, 5}, api.ErrForm},
		{"too late", slices.Concat([]byte{api.EvDone}, pack.Num(nil, 1<<40+1)), api.ErrLong},
		{"the attempt 0", []byte{api.EvScheduled, 5, 0, 0}, api.ErrForm},
		{"no name", []byte{api.EvFired, 5, 0}, api.ErrForm},
		{"no name that is one", []byte{api.EvFired, 5, 1, '/'}, api.ErrForm},
		{"a name of 25", slices.Concat([]byte{api.EvFired, 5}, pack.Text(nil, long(25))), api.ErrLong},
		{"a Coef that is another NaN", slices.Concat([]byte{api.EvStarted, 5, 0, 1, 't', 0, 0}, pack.Bits(nil, otherNaN), []byte{0}), api.ErrForm},
		{"a First that is too long", slices.Concat([]byte{api.EvStarted, 5, 0, 1, 't', 0}, pack.Num(nil, 1<<30+1), make([]byte, 9)), api.ErrLong},
	} {
		for _, name := range []string{"event 0", "event 1"} {
			noTelling(t, c.why, swapped(t, replyBook(told()), map[string][]byte{name: c.bytes}), c.want)
		}
	}
	for _, e := range eventsOfAllKinds() {
		b := event.Put([]byte{0, 0, 0, 0, 0, 1}, e)
		for i := 6; i < len(b); i++ {
			noTelling(t, fmt.Sprint(event.Name(e.Kind), ", ", i, " bytes"), b[:i], api.ErrShort)
		}
	}
}

// faulty gives two wrong ways in which a part may be written, one of another form and one that is too long; nothing of bits, which have none.
func faulty(name string) map[api.Errno][]byte {
	switch {
	case name == "Coef":
		return nil
	case name == "there":
		return map[api.Errno][]byte{api.ErrForm: {2}}
	}
	return map[api.Errno][]byte{api.ErrForm: {0xf0, 1}, api.ErrLong: pack.Num(nil, math.MaxInt)}
}

// TestFirstError: of two faults the left one is told, whatever the other one is, and whether bytes are missing or left at the end.
func TestFirstError(t *testing.T) {
	try := func(l book, refused func(t *testing.T, why string, b []byte, want api.Errno)) {
		for i, p := range l {
			for want, bad := range faulty(p.name) {
				for _, q := range l[i+1:] {
					for other, worse := range faulty(q.name) {
						b := swapped(t, l, map[string][]byte{p.name: bad, q.name: worse})
						refused(t, fmt.Sprint(p.name, " ", want, " ahead of ", q.name, " ", other), b, want)
					}
				}
				b := swapped(t, l, map[string][]byte{p.name: bad})
				refused(t, p.name+" and bytes left", append(b, 0), want)
				refused(t, p.name+" and bytes missing", b[:max(len(l[:i].joined())+len(bad), len(b)-3)], want)
			}
		}
	}
	try(requestBook(usual()), noAsking)
	try(replyBook(told()), noTelling)
}

// TestTooManyBytesAreToldFirst: of a request, whatever these are; of a reply there are never too many.
func TestTooManyBytesAreToldFirst(t *testing.T) {
	for _, c := range []byte{0, 1, 4, 0xf0, 0xf7, 0xf8, 255} {
		noAsking(t, fmt.Sprint("bytes ", c), bytes.Repeat([]byte{c}, mostBytes+1), api.ErrLong)
		noAsking(t, fmt.Sprint("many bytes ", c), bytes.Repeat([]byte{c}, 1<<20), api.ErrLong)
	}
	b := requestBook(usual()).joined()
	noAsking(t, "more behind it, too many", append(b, make([]byte, mostBytes+1-len(b))...), api.ErrLong)
	noAsking(t, "more behind it, as many as may be", append(b, make([]byte, mostBytes-len(b))...), api.ErrForm)
	noAsking(t, "zeros, as many as may be", make([]byte, mostBytes), api.ErrForm)
	noTelling(t, "zeros, too many for a request", make([]byte, mostBytes+1), api.ErrForm)
	noTelling(t, "many zeros", make([]byte, 1<<20), api.ErrForm)
}

// TestReadingKeepsNothing: what is read shares nothing with the bytes, nor with what is read again.
func TestReadingKeepsNothing(t *testing.T) {
	b := requestBook(usual()).joined()
	kept := bytes.Clone(b)
	r, _ := ReadRequest(b)
	if !bytes.Equal(b, kept) {
		t.Error("the bytes are changed")
	}
	clear(b)
	if !identical(r, usual()) {
		t.Errorf("shared with the bytes: %+v", r)
	}
	q, _ := ReadRequest(kept)
	r.Value.List[0].Text, r.Commands[1].Value.List[0].Text, r.Answers[0].Value.List[0].Text = "x", "x", "x"
	r.Commands[0].Name, r.Answers[1].Op = "x", 77
	if !identical(q, usual()) {
		t.Errorf("shared with what was read ahead: %+v", q)
	}

	b = replyBook(told()).joined()
	kept = bytes.Clone(b)
	x, _ := ReadReply(b)
	if !bytes.Equal(b, kept) {
		t.Error("the bytes are changed")
	}
	clear(b)
	if !identical(x, told()) {
		t.Errorf("shared with the bytes: %+v", x)
	}
	y, _ := ReadReply(kept)
	x.Value.List[0].Text, x.State.Input.List[0].Text, x.Events[1].Value.List[0].Text = "x", "x", "x"
	x.Queries[0].Value.List[0].Text, x.Updates[0].Value.List[0].Text, x.State.Timers[0].Name = "x", "x", "x"
	x.Queries = append(x.Queries, api.Ask{})
	if !identical(y, told()) {
		t.Errorf("shared with what was read ahead: %+v", y)
	}
}

// anyNumber gives one that may be, of any length.
func anyNumber(r *rand.Rand, most int) int {
	return min(r.Intn(most)>>r.Intn(62), most)
}

func anyText(r *rand.Rand) string {
	b := make([]byte, []int{0, 1, 5, 24, 200, r.Intn(201)}[r.Intn(6)])
	r.Read(b)
	return string(b)
}

func anyValue(r *rand.Rand, deep int) api.Value {
	switch kind := r.Intn(5); kind {
	case api.VInt:
		return api.Value{Kind: kind, Int: int(r.Uint64())}
	case api.VFloat:
		return api.Value{Kind: kind, Bits: []uint64{minus0, theNaN, two, r.Uint64() >> 12}[r.Intn(4)]}
	case api.VText:
		return text(strings.Repeat("t", r.Intn(40)))
	case api.VList:
		v := api.Value{Kind: kind}
		for range r.Intn(4) {
			if deep > 1 {
				v.List = append(v.List, anyValue(r, deep-1))
			}
		}
		return v
	}
	return api.Value{}
}

func anyRequest(r *rand.Rand) api.Request {
	q := api.Request{
		Kind: r.Intn(256), Flow: anyText(r), Request: anyText(r), Name: anyText(r), Value: anyValue(r, 3),
		Run: anyNumber(r, mostNum), Num: anyNumber(r, mostNum), Wait: anyNumber(r, mostNum),
		Policy: api.Policy{First: anyNumber(r, mostNum), Coef: r.Uint64(), Most: anyNumber(r, mostNum)},
	}
	for range r.Intn(mostCommands + 1) {
		q.Commands = append(q.Commands, api.Command{Kind: r.Intn(256), Name: anyText(r), Value: anyValue(r, 3), Delay: anyNumber(r, mostNum)})
	}
	for range r.Intn(mostAnswers + 1) {
		q.Answers = append(q.Answers, api.Answer{Op: anyNumber(r, mostNum), Value: anyValue(r, 3)})
	}
	return q
}

func anyReply(r *rand.Rand) api.Reply {
	x := api.Reply{Code: api.Errno(r.Intn(256)), Run: anyNumber(r, mostNum), Num: anyNumber(r, mostNum), Value: anyValue(r, 3)}
	if states := goodStates(); r.Intn(2) == 0 {
		x.State = states[r.Intn(len(states))]
	}
	all := eventsOfAllKinds()
	for range r.Intn(6) {
		x.Events = append(x.Events, all[r.Intn(len(all))])
	}
	for range r.Intn(4) {
		x.Queries = append(x.Queries, api.Ask{Op: anyNumber(r, mostNum), Name: anyText(r), Value: anyValue(r, 3)})
	}
	for range r.Intn(4) {
		x.Updates = append(x.Updates, api.Ask{Op: anyNumber(r, mostNum), Name: anyText(r), Value: anyValue(r, 3)})
	}
	return x
}

func TestAnyThereAndBack(t *testing.T) {
	r := rand.New(rand.NewSource(29))
	for i := range 2000 {
		asksWell(t, fmt.Sprint("request ", i), anyRequest(r))
		tellsWell(t, fmt.Sprint("reply ", i), anyReply(r))
	}
}

// spoilt gives b with one byte or several of it changed, taken away, or put in.
func spoilt(r *rand.Rand, b []byte) []byte {
	b = bytes.Clone(b)
	for range 1 + r.Intn(2) {
		if len(b) == 0 {
			break
		}
		at := r.Intn(len(b))
		switch r.Intn(4) {
		case 0:
			b[at] = byte(r.Intn(256))
		case 1:
			b[at] += byte(r.Intn(3) - 1)
		case 2:
			b = slices.Delete(b, at, at+1)
		case 3:
			b = slices.Insert(b, at, byte(r.Intn(8)))
		}
	}
	return b
}

// TestWhatIsReadHasThoseBytes: bytes that are nearly right are read as what has just those bytes, or refused with nothing else.
func TestWhatIsReadHasThoseBytes(t *testing.T) {
	r := rand.New(rand.NewSource(290))
	read := 0
	for range 20000 {
		b := spoilt(r, requestBook(anyRequest(r)).joined())
		q, e := ReadRequest(b)
		if again, f := Request(q); e == api.OK && (f != api.OK || !bytes.Equal(again, b)) {
			t.Fatalf("%x is read as %+v, whose bytes are %x, %d", b, q, again, f)
		} else if e == api.OK {
			read++
		} else if !reflect.DeepEqual(q, api.Request{}) {
			t.Fatalf("%x: %+v, %d", b, q, e)
		}
		b = spoilt(r, replyBook(anyReply(r)).joined())
		x, e := ReadReply(b)
		if again, f := Reply(x); e == api.OK && (f != api.OK || !bytes.Equal(again, b)) {
			t.Fatalf("%x is read as %+v, whose bytes are %x, %d", b, x, again, f)
		} else if e == api.OK {
			read++
		} else if !reflect.DeepEqual(x, api.Reply{}) {
			t.Fatalf("%x: %+v, %d", b, x, e)
		}
	}
	if read < 5000 {
		t.Error("only", read, "were read")
	}
}
