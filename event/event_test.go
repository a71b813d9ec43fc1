package event

import (
	"bytes"
	"fmt"
	"math"
	"math/rand"
	"slices"
	"strings"
	"testing"

	"usher/api"
	"usher/pack"
	"usher/value"
)

const (
	theNaN   uint64 = 0x7ff8000000000000
	otherNaN uint64 = 0x7ff0000000000001
	infinity uint64 = 0x7ff0000000000000
	minus0   uint64 = 1 << 63
	two      uint64 = 1 << 62
)

// The limits, as the document has them.
const (
	latest  = 1 << 40
	lastDue = 1 << 41
	lastTry = 1 << 31
)

// book: each kind's word, and what it has, in the order of its bytes; the place is the kind.
var book = []struct{ word, has string }{
	{"", ""},
	{"started", "due name value policy"},
	{"scheduled", "try due"},
	{"taken", "due"},
	{"done", ""},
	{"taskFailed", "run text"},
	{"taskTimed", ""},
	{"signaled", "name value"},
	{"cancel", ""},
	{"timer", "due name"},
	{"fired", "name"},
	{"timerOff", "name"},
	{"accepted", "name value"},
	{"outcome", "name value"},
	{"marker", "value"},
	{"completed", "value"},
	{"failed", "text"},
	{"canceled", ""},
	{"terminated", "text"},
	{"timedOut", ""},
}

// hasOf gives what a kind has; none of what is no kind.
func hasOf(kind int) []string {
	if kind < 0 || kind >= len(book) {
		return nil
	}
	return strings.Fields(book[kind].has)
}

func isText(s string) api.Value {
	return api.Value{Kind: api.VText, Text: s}
}

func listOf(l ...api.Value) api.Value {
	return api.Value{Kind: api.VList, List: l}
}

func long(n int) string {
	return strings.Repeat("x", n)
}

// sized gives a list of texts whose bytes are n, 812 to 1012.
func sized(n int) api.Value {
	t := isText(long(200))
	return listOf(t, t, t, t, isText(long(n-812)))
}

// nested gives a number within so many lists.
func nested(lists int) api.Value {
	v := api.Value{Kind: api.VInt, Int: 1}
	for range lists {
		v = listOf(v)
	}
	return v
}

// usual gives an event of that kind whose every field, of those that it has, is another one and not zero.
func usual(kind int) api.Event {
	e := api.Event{Kind: kind, Time: 1000}
	for _, field := range hasOf(kind) {
		switch field {
		case "try", "run":
			e.Num = 7
		case "due":
			e.Due = 300
		case "name":
			e.Name = "a.b-C_9"
		case "text":
			e.Name = "why? \xff\x00"
		case "value":
			e.Value = listOf(isText("v"), api.Value{Kind: api.VFloat, Bits: minus0})
		case "policy":
			e.Policy = api.Policy{First: 10, Coef: two, Most: 350}
		}
	}
	return e
}

// edge is an event that may be, or not, and why; code is what its bytes are told, where it has any.
type edge struct {
	why  string
	e    api.Event
	code api.Errno
}

// unwritten: there are no bytes by which such an event could be told.
const unwritten api.Errno = -1

// edges gives the usual event of a kind with one field after the other at its edges; of a code OK those that may be.
func edges(kind int) []edge {
	out := []edge{{"usual", usual(kind), api.OK}}
	add := func(code api.Errno, why any, change func(e *api.Event)) {
		e := usual(kind)
		change(&e)
		out = append(out, edge{fmt.Sprint(why), e, code})
	}
	number := func(name string, field func(e *api.Event) *int, least, most int) {
		for n, code := range map[int]api.Errno{
			least: api.OK, least + 1: api.OK, most - 1: api.OK, most: api.OK,
			most + 1: api.ErrLong, 2*most + 1: api.ErrLong, math.MaxInt: api.ErrLong,
			-1: unwritten, math.MinInt: unwritten,
		} {
			add(code, fmt.Sprint(name, " ", n), func(e *api.Event) { *field(e) = n })
		}
		if least == 1 {
			add(api.ErrForm, name+" 0", func(e *api.Event) { *field(e) = 0 })
		}
	}
	number("Time", func(e *api.Event) *int { return &e.Time }, 0, latest)
	for _, field := range hasOf(kind) {
		switch field {
		case "try":
			number("Num", func(e *api.Event) *int { return &e.Num }, 1, lastTry)
		case "run":
			number("Num", func(e *api.Event) *int { return &e.Num }, 0, 10)
		case "due":
			number("Due", func(e *api.Event) *int { return &e.Due }, 0, lastDue)
		case "name":
			for s, code := range nameEdges() {
				add(code, "Name "+s, func(e *api.Event) { e.Name = s })
			}
		case "text":
			for s, code := range textEdges() {
				add(code, "Name "+s, func(e *api.Event) { e.Name = s })
			}
		case "value":
			for _, v := range valueEdges() {
				add(v.code, v.value, func(e *api.Event) { e.Value = v.value })
			}
		case "policy":
			for p, code := range policyEdges() {
				add(code, p, func(e *api.Event) { e.Policy = p })
			}
		}
	}
	return out
}

func nameEdges() map[string]api.Errno {
	return map[string]api.Errno{
		"a": api.OK, "_": api.OK, "0": api.OK, "Z.-_": api.OK, long(23): api.OK, long(24): api.OK,
		"": api.ErrForm, ".": api.ErrForm, "-a": api.ErrForm, "a/b": api.ErrForm, "a b": api.ErrForm, "a\x00": api.ErrForm, "\xff": api.ErrForm, "\u00e9": api.ErrForm, long(23) + "?": api.ErrForm,
		long(25): api.ErrLong, long(24) + "?": api.ErrLong, long(200): api.ErrLong, long(300): api.ErrLong,
	}
}

func textEdges() map[string]api.Errno {
	return map[string]api.Errno{
		"": api.OK, "a": api.OK, "no name?": api.OK, "\x00\xff": api.OK, long(24): api.OK, long(25): api.OK, long(199): api.OK, long(200): api.OK,
		long(201): api.ErrLong, long(300): api.ErrLong,
	}
}

// valueEdge is a value, and what its bytes are told.
type valueEdge struct {
	value api.Value
	code  api.Errno
}

func valueEdges() []valueEdge {
	var out []valueEdge
	add := func(code api.Errno, l ...api.Value) {
		for _, v := range l {
			out = append(out, valueEdge{v, code})
		}
	}
	add(api.OK, api.Value{}, api.Value{Kind: api.VInt}, api.Value{Kind: api.VInt, Int: math.MinInt}, api.Value{Kind: api.VInt, Int: math.MaxInt},
		api.Value{Kind: api.VFloat}, api.Value{Kind: api.VFloat, Bits: minus0}, api.Value{Kind: api.VFloat, Bits: theNaN}, api.Value{Kind: api.VFloat, Bits: infinity},
		isText(""), isText(long(200)), listOf(), listOf(api.Value{}), nested(4), sized(1000), listOf(make([]api.Value, 12)...))
	add(api.ErrForm, api.Value{Kind: api.VFloat, Bits: otherNaN})
	add(api.ErrLong, isText(long(201)), nested(5), sized(1001), listOf(make([]api.Value, 13)...), api.Value{Kind: 5})
	// What its Kind has not stands in no bytes.
	add(unwritten, api.Value{Kind: -1}, api.Value{Int: 1}, api.Value{Bits: minus0}, api.Value{Text: "a"}, api.Value{List: []api.Value{{}}}, api.Value{Kind: api.VInt, Text: "a"})
	return out
}

func policyEdges() map[api.Policy]api.Errno {
	return map[api.Policy]api.Errno{
		{}: api.OK,
		{First: 1 << 30, Coef: infinity, Most: 1 << 30}: api.OK,
		{Coef: minus0}:                  api.OK,
		{Coef: infinity | minus0}:       api.OK,
		{First: 1<<30 + 1, Coef: two}:   api.ErrLong,
		{Most: 1<<30 + 1, Coef: two}:    api.ErrLong,
		{First: math.MaxInt}:            api.ErrLong,
		{First: 1, Coef: theNaN}:        api.ErrForm,
		{First: 1, Coef: otherNaN}:      api.ErrForm,
		{Coef: math.MaxUint64, Most: 1}: api.ErrForm,
		{First: -1}:                     unwritten,
		{Most: -1, Coef: two}:           unwritten,
	}
}

// written gives an event's bytes by the book, also of one that may not be, as long as it has any.
func written(e api.Event) []byte {
	b := pack.Num(pack.Num(nil, e.Kind), e.Time)
	for _, field := range hasOf(e.Kind) {
		switch field {
		case "try", "run":
			b = pack.Num(b, e.Num)
		case "due":
			b = pack.Num(b, e.Due)
		case "name", "text":
			b = pack.Text(b, e.Name)
		case "value":
			b = writtenValue(b, e.Value)
		case "policy":
			b = pack.Num(pack.Bits(pack.Num(b, e.Policy.First), e.Policy.Coef), e.Policy.Most)
		}
	}
	return b
}

func writtenValue(b []byte, v api.Value) []byte {
	b = pack.Num(b, v.Kind)
	switch v.Kind {
	case api.VInt:
		b = pack.Int(b, v.Int)
	case api.VFloat:
		b = pack.Bits(b, v.Bits)
	case api.VText:
		b = pack.Text(b, v.Text)
	case api.VList:
		b = pack.Num(b, len(v.List))
		for _, w := range v.List {
			b = writtenValue(b, w)
		}
	}
	return b
}

// identical holds two events against each other by how they are told, so that Same is not asked about itself.
func identical(a, b api.Event) bool {
	return fmt.Sprintf("%+v", a) == fmt.Sprintf("%+v", b)
}

func isZero(e api.Event) bool {
	return identical(e, api.Event{}) && e.Value.List == nil
}

// shown gives all of an event that is small.
func shown(e api.Event) string {
	s := fmt.Sprintf("%+v", e)
	if len(s) > 200 {
		return s[:200] + ".."
	}
	return s
}

// kinds that there are not.
func noKinds() []int {
	return []int{math.MinInt, -19, -1, 0, 20, 21, 256 + 3, 1 << 32, math.MaxInt}
}

func TestTheExample(t *testing.T) {
	e := api.Event{Kind: api.EvTaken, Time: 5, Due: 9}
	b, code := Encode(e)
	if code != api.OK || !bytes.Equal(b, []byte{3, 5, 9}) {
		t.Errorf("%x, %d", b, code)
	}
	if got, code := Decode([]byte{3, 5, 9}); code != api.OK || !identical(got, e) {
		t.Errorf("%+v, %d", got, code)
	}
}

func TestBytesOfSome(t *testing.T) {
	for _, c := range []struct {
		e    api.Event
		want string
	}{
		{api.Event{Kind: api.EvStarted, Time: 1, Due: 2, Name: "t", Value: api.Value{Kind: api.VInt, Int: 3}, Policy: api.Policy{First: 4, Coef: two, Most: 5}},
			"0101" + "02" + "0174" + "018000000000000003" + "04400000000000000005"},
		{api.Event{Kind: api.EvScheduled, Time: 1 << 40, Num: 1 << 31, Due: 1 << 41}, "02" + "f5010000000000" + "f380000000" + "f5020000000000"},
		{api.Event{Kind: api.EvDone}, "0400"},
		{api.Event{Kind: api.EvTaskFailed, Time: 239, Num: 10}, "05ef0a00"},
		{api.Event{Kind: api.EvTimer, Time: 240, Due: 256, Name: "a"}, "09f0f0" + "f10100" + "0161"},
		{api.Event{Kind: api.EvMarker, Time: 1}, "0e0100"},
		{api.Event{Kind: api.EvTerminated, Time: 1, Name: "why?"}, "1201" + "047768793f"},
		{api.Event{Kind: api.EvTimedOut, Time: 1}, "1301"},
	} {
		if b, code := Encode(c.e); code != api.OK || fmt.Sprintf("%x", b) != c.want {
			t.Errorf("%s: %x, %d, want %s", shown(c.e), b, code, c.want)
		}
	}
}

func TestKindsAreNumbered(t *testing.T) {
	if api.EvStarted != 1 || api.EvTimedOut != 19 || len(book) != 20 {
		t.Error("other kinds than the document's")
	}
}

func TestName(t *testing.T) {
	for kind := range book {
		if got := Name(kind); got != book[kind].word {
			t.Errorf("Name(%d) = %q, want %q", kind, got, book[kind].word)
		}
	}
	for _, kind := range noKinds() {
		if got := Name(kind); got != "" {
			t.Errorf("Name(%d) = %q", kind, got)
		}
	}
}

func TestCloses(t *testing.T) {
	last := []int{api.EvCompleted, api.EvFailed, api.EvCanceled, api.EvTerminated, api.EvTimedOut}
	for kind := range book {
		if got := Closes(kind); got != slices.Contains(last, kind) {
			t.Errorf("Closes(%d) = %v", kind, got)
		}
	}
	for _, kind := range noKinds() {
		if Closes(kind) {
			t.Errorf("Closes(%d)", kind)
		}
	}
}

// mayBe complains unless e is taken everywhere, and has those bytes.
func mayBe(t *testing.T, why string, e api.Event) {
	t.Helper()
	if code := Check(e); code != api.OK {
		t.Errorf("%s: Check(%s) = %d", why, shown(e), code)
	}
	want := written(e)
	b, code := Encode(e)
	if code != api.OK || !bytes.Equal(b, want) {
		t.Errorf("%s: Encode(%s) = %x, %d, want %x", why, shown(e), b, code, want)
	}
	if got := Put([]byte{8, 9}, e); !bytes.Equal(got, append([]byte{8, 9}, want...)) {
		t.Errorf("%s: Put(%s) = %x", why, shown(e), got)
	}
	got, code := Decode(want)
	if code != api.OK || !identical(got, e) || !Same(got, e) || !Same(e, got) {
		t.Errorf("%s: Decode gives %s, %d", why, shown(got), code)
	}
	for _, behind := range [][]byte{{0}, {255}, want} {
		r := pack.Open(slices.Concat([]byte{1}, want, behind))
		r.Flag()
		if got := Read(r); !identical(got, e) || r.Err() != api.OK || r.Left() != len(behind) {
			t.Errorf("%s: Read gives %s, error %d, %d left", why, shown(got), r.Err(), r.Left())
		}
		if got, code := Decode(slices.Concat(want, behind)); code != api.ErrForm || !isZero(got) {
			t.Errorf("%s: Decode with bytes behind it: %s, %d", why, shown(got), code)
		}
	}
}

// mayNotBe complains unless e is refused, with no bytes of its own.
func mayNotBe(t *testing.T, why string, e api.Event) {
	t.Helper()
	if code := Check(e); code != api.ErrArg {
		t.Errorf("%s: Check(%s) = %d", why, shown(e), code)
	}
	if b, code := Encode(e); code != api.ErrArg || b != nil {
		t.Errorf("%s: Encode(%s) = %x, %d", why, shown(e), b, code)
	}
	given := []byte{8, 9, 7}[:2]
	got := Put(given, e)
	if !bytes.Equal(got, []byte{8, 9}) {
		t.Errorf("%s: Put(%s) = %x", why, shown(e), got)
		return
	}
	given[0] = 0
	if got[0] != 8 {
		t.Errorf("%s: Put gives what it was given", why)
	}
	if got := Put(nil, e); len(got) != 0 {
		t.Errorf("%s: Put(nil, %s) = %x", why, shown(e), got)
	}
}

// refused complains unless b is told that error, by Decode and by Read.
func refused(t *testing.T, why string, b []byte, want api.Errno) {
	t.Helper()
	if got, code := Decode(b); code != want || !isZero(got) {
		t.Errorf("%s: Decode(%x) = %s, %d, want %d", why, b, shown(got), code, want)
	}
	r := pack.Open(b)
	if got := Read(r); r.Err() != want || !isZero(got) || r.Left() != 0 {
		t.Errorf("%s: Read of %x = %s, error %d, want %d, %d left", why, b, shown(got), r.Err(), want, r.Left())
	}
}

func TestEachKindAtItsEdges(t *testing.T) {
	for kind := 1; kind < len(book); kind++ {
		for _, c := range edges(kind) {
			why := book[kind].word + ", " + c.why
			if c.code == api.OK {
				mayBe(t, why, c.e)
				continue
			}
			mayNotBe(t, why, c.e)
			if c.code != unwritten {
				refused(t, why, written(c.e), c.code)
			}
		}
	}
}

// strangers: fields, by name, that are not zero.
func strangers() map[string][]func(e *api.Event) {
	changes := map[string][]func(e *api.Event){
		"due": {func(e *api.Event) { e.Due = 1 }, func(e *api.Event) { e.Due = -1 }, func(e *api.Event) { e.Due = lastDue }},
		"policy": {
			func(e *api.Event) { e.Policy.First = 1 },
			func(e *api.Event) { e.Policy.Coef = minus0 },
			func(e *api.Event) { e.Policy.Coef = two },
			func(e *api.Event) { e.Policy.Most = 1 },
			func(e *api.Event) { e.Policy.Coef = theNaN },
		},
	}
	for _, n := range []int{1, -1, 10, lastTry} {
		changes["try run"] = append(changes["try run"], func(e *api.Event) { e.Num = n })
	}
	for _, s := range []string{"a", "?", "\x00", long(24)} {
		changes["name text"] = append(changes["name text"], func(e *api.Event) { e.Name = s })
	}
	for _, v := range []api.Value{{Kind: api.VInt}, {Kind: api.VText}, {Kind: api.VList}, {Kind: 9}, {Int: 1}, {Bits: minus0}, {Text: "a"}, {List: []api.Value{{}}}} {
		changes["value"] = append(changes["value"], func(e *api.Event) { e.Value = v })
	}
	return changes
}

func TestFieldsThatAKindHasNot(t *testing.T) {
	tried := 0
	for kind := 1; kind < len(book); kind++ {
		for fields, changes := range strangers() {
			if slices.ContainsFunc(strings.Fields(fields), func(f string) bool { return slices.Contains(hasOf(kind), f) }) {
				continue
			}
			for i, change := range changes {
				e := usual(kind)
				change(&e)
				mayNotBe(t, fmt.Sprint(book[kind].word, " with a ", fields, " ", i), e)
				tried++
			}
		}
	}
	if tried < 19*8 {
		t.Error("too few were tried:", tried)
	}
}

func TestAnEmptyListIsAsNone(t *testing.T) {
	for kind := 1; kind < len(book); kind++ {
		e := usual(kind)
		e.Value = api.Value{List: []api.Value{}}
		b, code := Encode(e)
		if Check(e) != api.OK || code != api.OK || !bytes.Equal(b, written(e)) {
			t.Errorf("%s: %d, %x, %d", book[kind].word, Check(e), b, code)
		}
		if got, code := Decode(b); code != api.OK || !Same(got, e) {
			t.Errorf("%s: %s, %d", book[kind].word, shown(got), code)
		}
	}
}

func TestWhatIsNoKind(t *testing.T) {
	for _, kind := range noKinds() {
		for _, e := range []api.Event{{Kind: kind}, {Kind: kind, Time: 5}, {Kind: kind, Time: 5, Num: 1, Due: 1, Name: "a", Value: isText("a")}} {
			mayNotBe(t, fmt.Sprint("kind ", kind), e)
		}
	}
	for _, behind := range [][]byte{{0}, {5}, {5, 9, 9}} {
		refused(t, "kind 0, told when all of it is read", append([]byte{0}, behind...), api.ErrForm)
	}
	refused(t, "kind 0, no Time", []byte{0}, api.ErrShort)
	refused(t, "kind 0, Time too great", pack.Num([]byte{0}, latest+1), api.ErrLong)
	for _, kind := range []int{20, 21, 239, 240, math.MaxInt} {
		refused(t, "too great a kind", append(pack.Num(nil, kind), 5), api.ErrLong)
		refused(t, "too great a kind, no Time", pack.Num(nil, kind), api.ErrLong)
	}
	if e, code := Decode([]byte{19, 5}); code != api.OK || e.Kind != api.EvTimedOut || e.Time != 5 {
		t.Error("kind 19:", shown(e), code)
	}
}

func TestEachBeginningIsShort(t *testing.T) {
	for kind := 1; kind < len(book); kind++ {
		b := written(usual(kind))
		for i := range b {
			refused(t, fmt.Sprint(book[kind].word, ", ", i, " bytes"), b[:i], api.ErrShort)
		}
		for c := range 256 {
			if e, code := Decode(append(b[:len(b):len(b)], byte(c))); code != api.ErrForm || !isZero(e) {
				t.Errorf("%s, a byte %d behind it: %s, %d", book[kind].word, c, shown(e), code)
			}
		}
	}
}

// TestWhichErrorIsTold: what may not be is told when all is read, so that an error of bytes further on goes ahead of it.
func TestWhichErrorIsTold(t *testing.T) {
	value5, nan := []byte{5}, pack.Bits(nil, theNaN)
	coef := pack.Bits(nil, two)
	for _, c := range []struct {
		why   string
		parts [][]byte
		want  api.Errno
	}{
		{"no name, and no value", [][]byte{{7, 1}, {0}}, api.ErrShort},
		{"no name, and a value of a kind 5", [][]byte{{7, 1}, {0}, value5}, api.ErrLong},
		{"no name, and a value of another NaN", [][]byte{{7, 1}, {0}, {2}, pack.Bits(nil, otherNaN)}, api.ErrForm},
		{"no name, and a value", [][]byte{{7, 1}, {0}, {0}}, api.ErrForm},
		{"a byte that no name has, and a value of a kind 5", [][]byte{{12, 1}, pack.Text(nil, "?"), value5}, api.ErrLong},
		{"a byte that no name has, and a policy of too great a First", [][]byte{{1, 1, 1}, pack.Text(nil, "?"), {0}, pack.Num(nil, 1<<30+1), coef, {1}}, api.ErrLong},
		{"a byte that no name has, and a policy without Most", [][]byte{{1, 1, 1}, pack.Text(nil, "?"), {0}, {1}, coef}, api.ErrShort},
		{"a byte that no name has, and a policy", [][]byte{{1, 1, 1}, pack.Text(nil, "?"), {0}, {1}, coef, {1}}, api.ErrForm},
		{"a name too long, and a value of a kind 5", [][]byte{{7, 1}, pack.Text(nil, long(25)), value5}, api.ErrLong},
		{"a name too long, and nothing behind it", [][]byte{{7, 1}, {25}}, api.ErrLong},
		{"a policy of a NaN", [][]byte{{1, 1, 1}, {1, 'a'}, {0}, {1}, nan, {1}}, api.ErrForm},
		{"a policy of a NaN, without Most", [][]byte{{1, 1, 1}, {1, 'a'}, {0}, {1}, nan}, api.ErrShort},
		{"a value of a kind 5, and no policy", [][]byte{{1, 1, 1}, {1, 'a'}, value5}, api.ErrLong},
		{"a value of another NaN, and no policy", [][]byte{{1, 1, 1}, {1, 'a'}, {2}, pack.Bits(nil, otherNaN)}, api.ErrForm},
		{"Num 0, and Due too great", [][]byte{{2, 1, 0}, pack.Num(nil, lastDue+1)}, api.ErrLong},
		{"Num 0, and no Due", [][]byte{{2, 1, 0}}, api.ErrShort},
		{"Num 0, and Due", [][]byte{{2, 1, 0, 9}}, api.ErrForm},
		{"Num too great, and no Due", [][]byte{{2, 1}, pack.Num(nil, lastTry+1)}, api.ErrLong},
		{"Time too great, and no Due", [][]byte{{3}, pack.Num(nil, latest+1)}, api.ErrLong},
		{"Time in too many bytes", [][]byte{{4}, {240, 5}}, api.ErrForm},
		{"the kind in too many bytes", [][]byte{{240, 4}, {5}}, api.ErrForm},
		{"Num 11 of a task that failed, and no Name", [][]byte{{5, 1, 11}}, api.ErrLong},
		{"a text too long, and nothing behind it", [][]byte{{16, 1, 201}}, api.ErrLong},
		{"a text that ends too early", [][]byte{{16, 1, 200, 'x'}}, api.ErrShort},
		{"nothing", nil, api.ErrShort},
	} {
		refused(t, c.why, slices.Concat(c.parts...), c.want)
	}
}

func TestReadOfAReaderWithAnError(t *testing.T) {
	for kind := 1; kind < len(book); kind++ {
		r := pack.Open(written(usual(kind)))
		r.Fail(api.ErrVersion)
		if e := Read(r); !isZero(e) || r.Err() != api.ErrVersion || r.Left() != 0 {
			t.Errorf("%s: %s, error %d", book[kind].word, shown(e), r.Err())
		}
	}
	for _, r := range []*pack.Reader{nil, {}} {
		if e := Read(r); !isZero(e) || r.Err() != api.ErrNil {
			t.Errorf("a reader that no call made: %s, error %d", shown(e), r.Err())
		}
	}
}

func TestPutWritesBehindInNewMemory(t *testing.T) {
	for kind := 1; kind < len(book); kind++ {
		e := usual(kind)
		room := bytes.Repeat([]byte{9}, 200)
		before := slices.Clone(room)
		got := Put(room[:3], e)
		want := append([]byte{9, 9, 9}, written(e)...)
		if !bytes.Equal(got, want) || !bytes.Equal(room, before) {
			t.Errorf("%s: %x, want %x, what was given is %x", book[kind].word, got, want, room)
		}
		room[0], room[2] = 1, 1
		if !bytes.Equal(got, want) {
			t.Errorf("%s: Put shares memory with what it was given", book[kind].word)
		}
		if !bytes.Equal(Put(nil, e), Put([]byte{}, e)) {
			t.Errorf("%s: nil and empty differ", book[kind].word)
		}
	}
}

func TestDecodedIsNewMemory(t *testing.T) {
	e := usual(api.EvStarted)
	b := written(e)
	got, code := Decode(b)
	for i := range b {
		b[i] = 255
	}
	if code != api.OK || !identical(got, e) {
		t.Error(shown(got), code)
	}
}

func TestClone(t *testing.T) {
	e := usual(api.EvStarted)
	e.Value = listOf(listOf(isText("deep")), isText("a"))
	c := Clone(e)
	want := fmt.Sprintf("%+v", e)
	if got := fmt.Sprintf("%+v", c); got != want {
		t.Errorf("%s, want %s", got, want)
	}
	e.Value.List[0].List[0] = isText("changed")
	e.Value.List[1] = isText("changed")
	if got := fmt.Sprintf("%+v", c); got != want {
		t.Errorf("it changed with what was handed in: %s, was %s", got, want)
	}
	c.Value.List[1] = isText("own")
	if e.Value.List[1].Text != "changed" {
		t.Error("what was handed in changed")
	}
	for kind := range 22 {
		e := api.Event{Kind: kind, Time: -1, Num: 2, Due: 3, Name: "?", Value: api.Value{Kind: 9, Int: 1, List: []api.Value{{Kind: 8}}}, Policy: api.Policy{First: -1, Coef: otherNaN, Most: 4}}
		if c := Clone(e); !identical(c, e) {
			t.Errorf("Clone(%s) = %s", shown(e), shown(c))
		}
	}
}

func TestSame(t *testing.T) {
	all := []api.Event{
		{},
		{Kind: 1}, {Time: 1}, {Num: 1}, {Due: 1}, {Name: "a"}, {Name: "A"},
		{Value: api.Value{Kind: 1}}, {Value: api.Value{Int: 1}}, {Value: api.Value{Bits: minus0}}, {Value: api.Value{Text: "a"}}, {Value: api.Value{List: []api.Value{{}}}}, {Value: api.Value{List: []api.Value{{Int: 1}}}},
		{Policy: api.Policy{First: 1}}, {Policy: api.Policy{Coef: 1}}, {Policy: api.Policy{Coef: minus0}}, {Policy: api.Policy{Coef: theNaN}}, {Policy: api.Policy{Most: 1}},
		{Kind: -1}, {Time: -1}, {Num: 2}, {Due: 2},
	}
	for kind := 1; kind < len(book); kind++ {
		all = append(all, usual(kind))
	}
	for i, a := range all {
		for j, b := range all {
			if got := Same(a, Clone(b)); got != (i == j) {
				t.Errorf("Same(%s, %s) = %v", shown(a), shown(b), got)
			}
		}
	}
	empty := api.Event{Value: api.Value{List: []api.Value{}}}
	if !Same(empty, api.Event{}) || !Same(api.Event{}, empty) {
		t.Error("an empty list is as none")
	}
}

// readByTheBook reads an event another way than the program does: field by field of the book, each asked on its own behind all reading.
func readByTheBook(b []byte) (api.Event, api.Errno) {
	r := pack.Open(b)
	e := api.Event{Kind: r.Num(19), Time: r.Num(latest)}
	right := e.Kind > 0
	for _, field := range hasOf(e.Kind) {
		switch field {
		case "try":
			e.Num = r.Num(lastTry)
			right = right && e.Num > 0
		case "run":
			e.Num = r.Num(10)
		case "due":
			e.Due = r.Num(lastDue)
		case "name":
			e.Name = r.Text(24)
			right = right && e.Name != "" && strings.Trim(e.Name, "abcdefghijklmnopqrstuvwxyzABCDEFGHIJKLMNOPQRSTUVWXYZ0123456789-_.") == "" && !strings.ContainsAny(e.Name[:1], ".-")
		case "text":
			e.Name = r.Text(200)
		case "value":
			e.Value = value.Read(r)
		case "policy":
			e.Policy = api.Policy{First: r.Num(1 << 30), Coef: r.Bits(), Most: r.Num(1 << 30)}
			right = right && !math.IsNaN(math.Float64frombits(e.Policy.Coef))
		}
	}
	switch {
	case r.Err() != api.OK:
		return api.Event{}, r.Err()
	case !right || r.Left() > 0:
		return api.Event{}, api.ErrForm
	}
	return e, api.OK
}

// changed gives b with some bytes changed, left out, or put in; of bytes that stand in names, in numbers, and at edges.
func changed(r *rand.Rand, b []byte) []byte {
	marks := []byte{0, 1, 2, 5, 10, 11, 20, 24, 25, 200, 201, 239, 240, 241, 243, 245, 247, 248, 255, 'a', '?', '/', '.', '-'}
	b = slices.Clone(b)
	for range r.Intn(4) {
		if len(b) == 0 {
			break
		}
		at := r.Intn(len(b))
		switch mark := marks[r.Intn(len(marks))]; r.Intn(4) {
		case 0:
			b = slices.Delete(b, at, at+1)
		case 1:
			b = slices.Insert(b, at, mark)
		default:
			b[at] = mark
		}
	}
	return b
}

func TestAnyBytesByTheBook(t *testing.T) {
	var seeds [][]byte
	for kind := range len(book) {
		if kind == 0 {
			seeds = append(seeds, []byte{0, 5})
			continue
		}
		for _, c := range edges(kind) {
			if b := written(c.e); c.code != unwritten && len(b) < 300 {
				seeds = append(seeds, b)
			}
		}
	}
	slices.SortFunc(seeds, bytes.Compare) // edges come in no order
	r := rand.New(rand.NewSource(14))
	told := map[api.Errno]int{}
	for range 100000 {
		b := changed(r, seeds[r.Intn(len(seeds))])
		want, code := readByTheBook(b)
		got, e := Decode(b)
		if e != code || !identical(got, want) {
			t.Fatalf("Decode(%x) = %s, %d, want %s, %d", b, shown(got), e, shown(want), code)
		}
		told[e]++
		if e != api.OK {
			continue
		}
		if own, e := Encode(got); e != api.OK || !bytes.Equal(own, b) || Check(got) != api.OK {
			t.Fatalf("%x is decoded as %s, whose bytes are %x, %d", b, shown(got), own, e)
		}
	}
	for _, e := range []api.Errno{api.OK, api.ErrForm, api.ErrShort, api.ErrLong} {
		if told[e] < 1000 {
			t.Errorf("error %d was told %d times alone", e, told[e])
		}
	}
}

func TestShortBytesByTheBook(t *testing.T) {
	var all func(b []byte)
	all = func(b []byte) {
		want, code := readByTheBook(b)
		if got, e := Decode(b); e != code || !identical(got, want) {
			t.Fatalf("Decode(%x) = %s, %d, want %s, %d", b, shown(got), e, shown(want), code)
		}
		if len(b) == 4 {
			return
		}
		for c := range 26 {
			all(append(b[:len(b):len(b)], byte(c)))
		}
		all(append(b[:len(b):len(b)], 240))
		all(append(b[:len(b):len(b)], 'a'))
	}
	all(nil)
}
