package limits

import (
	"fmt"
	"math"
	"reflect"
	"strings"
	"testing"

	"usher/api"
)

const delay = 1 << 30

// listOf gives a value that has memory of its own.
func listOf(s string) api.Value {
	return api.Value{Kind: api.VList, List: []api.Value{{Kind: api.VText, Text: s}}}
}

// good gives a request of that kind that may be asked, with each field that it has filled.
func good(kind int) api.Request {
	r := api.Request{Kind: kind, Flow: "f"}
	policy := api.Policy{First: 10, Coef: 1 << 62, Most: 35}
	switch kind {
	case api.OpStart, api.OpSignalStart:
		r.Request, r.Name, r.Value, r.Num, r.Policy = "r", "n", listOf("v"), 30, policy
	case api.OpSignal:
		r.Request, r.Name, r.Value = "r", "n", listOf("v")
	case api.OpQuery:
		r.Name, r.Value, r.Wait = "n", listOf("v"), 7
	case api.OpUpdate:
		r.Request, r.Value, r.Num, r.Wait = "r", listOf("v"), 2, 7
	case api.OpCancel:
		r.Request = "r"
	case api.OpTerminate:
		r.Request, r.Name = "r", "n"
	case api.OpReset:
		r.Request, r.Num = "r", 4
	case api.OpPoll:
		r.Num = 9
	case api.OpComplete:
		r.Run, r.Num = 2, 3
		r.Commands = []api.Command{{Kind: api.CmTimer, Name: "t", Delay: 4}, {Kind: api.CmMarker, Value: listOf("m")}}
		r.Answers = []api.Answer{{Op: 1, Value: listOf("a")}, {Op: 7}}
	case api.OpFail:
		r.Run, r.Num, r.Name = 2, 3, "n"
	}
	return r
}

// kinds are all that there are.
func kinds() []int {
	var out []int
	for kind := api.OpStart; kind <= api.OpFire; kind++ {
		out = append(out, kind)
	}
	return out
}

// noKinds are numbers that are none.
var noKinds = []int{math.MinInt, math.MinInt + 1, -256, -14, -13, -1, 0, 14, 15, 16, 32, 256 + 1, 1<<32 + 1, math.MaxInt - 1, math.MaxInt}

// with gives a request of that kind, changed.
func with(kind int, change func(r *api.Request)) api.Request {
	r := good(kind)
	change(&r)
	return r
}

// checks complains unless a request of that kind, changed, is answered so.
func checks(t *testing.T, why string, kind int, want api.Errno, change func(r *api.Request)) {
	t.Helper()
	if e := Check(with(kind, change)); e != want {
		t.Errorf("%s, kind %d: %d, not %d", why, kind, e, want)
	}
}

func TestFields(t *testing.T) {
	want := map[int]int{
		api.OpStart:       1 + 2 + 4 + 8 + 32 + 128,
		api.OpSignal:      1 + 2 + 4 + 8,
		api.OpSignalStart: 1 + 2 + 4 + 8 + 32 + 128,
		api.OpQuery:       1 + 4 + 8 + 64,
		api.OpUpdate:      1 + 2 + 8 + 32 + 64,
		api.OpCancel:      1 + 2,
		api.OpTerminate:   1 + 2 + 4,
		api.OpReset:       1 + 2 + 32,
		api.OpDescribe:    1,
		api.OpPoll:        1 + 32,
		api.OpComplete:    1 + 16 + 32 + 256,
		api.OpFail:        1 + 4 + 16 + 32,
		api.OpFire:        1,
	}
	if len(want) != 13 || api.OpFire != 13 {
		t.Fatal("not all kinds")
	}
	for kind := -300; kind <= 300; kind++ { // 0 of those that want does not have
		if n := Fields(kind); n != want[kind] {
			t.Errorf("kind %d: %d, not %d", kind, n, want[kind])
		}
	}
	for _, kind := range noKinds {
		if n := Fields(kind); n != 0 {
			t.Errorf("kind %d: %d", kind, n)
		}
	}
}

func TestWhatMayBeAsked(t *testing.T) {
	for _, kind := range kinds() {
		checks(t, "each field filled", kind, api.OK, func(r *api.Request) {})
		checks(t, "a long name", kind, api.OK, func(r *api.Request) { r.Flow = strings.Repeat("x", 24) })
		checks(t, "empty lists", kind, api.OK, func(r *api.Request) { r.Commands, r.Answers = []api.Command{}, []api.Answer{} })
		checks(t, "an empty list of nothing", kind, api.OK, func(r *api.Request) { r.Value = api.Value{List: []api.Value{}} })
		if Fields(kind)&8 != 0 {
			checks(t, "no value", kind, api.OK, func(r *api.Request) { r.Value = api.Value{} })
		}
		if Fields(kind)&128 != 0 {
			checks(t, "no policy", kind, api.OK, func(r *api.Request) { r.Policy = api.Policy{} })
		}
	}
	if e := Check(api.Request{Kind: api.OpComplete, Flow: "f", Run: 1}); e != api.OK {
		t.Error("nothing but what must be:", e)
	}
	if e := Check(api.Request{Kind: api.OpComplete, Flow: "f", Run: 1, Answers: []api.Answer{{Op: 1}}}); e != api.OK {
		t.Error("answers without a task:", e)
	}
}

func TestKindsThatAreNone(t *testing.T) {
	if e := Check(api.Request{}); e != api.ErrArg {
		t.Error("the zero request:", e)
	}
	for _, kind := range noKinds {
		if e := Check(api.Request{Kind: kind}); e != api.ErrArg {
			t.Error(kind, e)
		}
		for _, of := range kinds() {
			checks(t, fmt.Sprint("as ", kind), of, api.ErrArg, func(r *api.Request) { r.Kind = kind })
		}
		checks(t, fmt.Sprint("too many, as ", kind), api.OpComplete, api.ErrArg, func(r *api.Request) {
			r.Kind, r.Commands = kind, make([]api.Command, 13)
		})
	}
}

// fillings fill one field each, by its bit in Fields, in several ways.
func fillings() map[int][]func(r *api.Request) {
	return map[int][]func(r *api.Request){
		2: {func(r *api.Request) { r.Request = "r" }, func(r *api.Request) { r.Request = "\x00" }},
		4: {func(r *api.Request) { r.Name = "n" }, func(r *api.Request) { r.Name = " " }},
		8: {
			func(r *api.Request) { r.Value = api.Value{Kind: api.VInt} },
			func(r *api.Request) { r.Value = listOf("v") },
			func(r *api.Request) { r.Value = api.Value{Kind: api.VList} },
			func(r *api.Request) { r.Value = api.Value{Int: 1} },
			func(r *api.Request) { r.Value = api.Value{Bits: 1 << 63} },
			func(r *api.Request) { r.Value = api.Value{Text: "x"} },
			func(r *api.Request) { r.Value = api.Value{List: []api.Value{{}}} },
			func(r *api.Request) { r.Value = api.Value{Kind: -1} },
		},
		16: {func(r *api.Request) { r.Run = 1 }, func(r *api.Request) { r.Run = -1 }, func(r *api.Request) { r.Run = math.MinInt }},
		32: {func(r *api.Request) { r.Num = 1 }, func(r *api.Request) { r.Num = -1 }, func(r *api.Request) { r.Num = math.MaxInt }},
		64: {func(r *api.Request) { r.Wait = 1 }, func(r *api.Request) { r.Wait = -1 }, func(r *api.Request) { r.Wait = math.MaxInt }},
		128: {
			func(r *api.Request) { r.Policy.First = 1 },
			func(r *api.Request) { r.Policy.Coef = 1 << 63 },
			func(r *api.Request) { r.Policy.Most = 1 },
			func(r *api.Request) { r.Policy.Most = -1 },
		},
		256: {
			func(r *api.Request) { r.Commands = []api.Command{{Kind: api.CmTimerOff, Name: "t"}} },
			func(r *api.Request) { r.Answers = []api.Answer{{Op: 1}} },
			func(r *api.Request) { r.Commands = make([]api.Command, 13) }, // ErrLong comes behind
			func(r *api.Request) { r.Answers = make([]api.Answer, 9) },
		},
	}
}

func TestFieldsThatAKindDoesNotHave(t *testing.T) {
	for _, kind := range kinds() {
		for bit, l := range fillings() {
			if Fields(kind)&bit != 0 {
				continue
			}
			for i, fill := range l {
				checks(t, fmt.Sprint("filled ", bit, ", ", i), kind, api.ErrArg, fill)
			}
		}
	}
}

// TestFieldsThatAKindHas: each kind's fields may be filled with what may be, whatever was there.
func TestFieldsThatAKindHas(t *testing.T) {
	for _, kind := range kinds() {
		for bit, l := range fillings() {
			if Fields(kind)&bit != 0 {
				checks(t, fmt.Sprint("filled ", bit), kind, api.OK, l[0])
			}
		}
	}
	checks(t, "answers", api.OpComplete, api.OK, fillings()[256][1])
}

var (
	goodNames = []string{"a", "Z", "0", "_", "a.b-c_D9", strings.Repeat("x", 24)}
	badNames  = []string{"", ".", "-a", ".a", "a b", "a/b", "é", "\xff", "a\n", strings.Repeat("x", 25), strings.Repeat("x", 2000)}
)

func TestNames(t *testing.T) {
	for _, kind := range kinds() {
		has := Fields(kind)
		text := kind == api.OpTerminate || kind == api.OpFail
		for _, s := range goodNames {
			checks(t, "Flow "+s, kind, api.OK, func(r *api.Request) { r.Flow = s })
			if has&2 != 0 {
				checks(t, "Request "+s, kind, api.OK, func(r *api.Request) { r.Request = s })
			}
			if has&4 != 0 {
				checks(t, "Name "+s, kind, api.OK, func(r *api.Request) { r.Name = s })
			}
		}
		for _, s := range badNames {
			checks(t, "Flow "+s, kind, api.ErrArg, func(r *api.Request) { r.Flow = s })
			if has&2 != 0 {
				checks(t, "Request "+s, kind, api.ErrArg, func(r *api.Request) { r.Request = s })
			}
			if has&4 != 0 && !text {
				checks(t, "Name "+s, kind, api.ErrArg, func(r *api.Request) { r.Name = s })
			}
		}
		if !text {
			continue
		}
		for _, s := range []string{"", ".", "why not", "\xff\x00", strings.Repeat("x", 199), strings.Repeat("x", 200)} {
			checks(t, "why: "+s, kind, api.OK, func(r *api.Request) { r.Name = s })
		}
		for _, n := range []int{201, 202, 5000} {
			checks(t, fmt.Sprint("why of ", n), kind, api.ErrArg, func(r *api.Request) { r.Name = strings.Repeat("x", n) })
		}
	}
}

func deep(n int) api.Value {
	v := api.Value{Kind: api.VList}
	for range n - 1 {
		v = api.Value{Kind: api.VList, List: []api.Value{v}}
	}
	return v
}

func badValues() []api.Value {
	nan := math.Float64bits(math.NaN())
	cyclic := api.Value{Kind: api.VList, List: make([]api.Value, 1)}
	cyclic.List[0] = cyclic
	return []api.Value{
		{Kind: -1}, {Kind: 5}, {Kind: math.MaxInt}, {Int: 1}, {Kind: api.VInt, Text: "x"}, {Kind: api.VText, Int: 1},
		{Kind: api.VFloat, Bits: nan + 1}, {Kind: api.VFloat, Bits: 1<<63 | nan}, {Kind: api.VText, Text: strings.Repeat("x", 201)},
		{Kind: api.VList, List: make([]api.Value, 13)}, {Kind: api.VList, List: []api.Value{{Kind: 9}}}, deep(5), cyclic,
		{Kind: api.VList, List: []api.Value{wide(), wide(), wide(), wide(), wide()}},
	}
}

// wide is a value of some 200 bytes, five of which are too many.
func wide() api.Value {
	return api.Value{Kind: api.VText, Text: strings.Repeat("x", 200)}
}

func goodValues() []api.Value {
	return []api.Value{
		{}, {Kind: api.VInt, Int: math.MinInt}, {Kind: api.VFloat, Bits: 1 << 63}, wide(), deep(4),
		{Kind: api.VList, List: make([]api.Value, 12)}, {Kind: api.VList, List: []api.Value{wide(), wide(), wide(), wide()}},
	}
}

func TestValues(t *testing.T) {
	for _, kind := range kinds() {
		if Fields(kind)&8 == 0 {
			continue
		}
		for i, v := range badValues() {
			checks(t, fmt.Sprint("value ", i), kind, api.ErrArg, func(r *api.Request) { r.Value = v })
		}
		for i, v := range goodValues() {
			checks(t, fmt.Sprint("value ", i), kind, api.OK, func(r *api.Request) { r.Value = v })
		}
	}
}

func TestNum(t *testing.T) {
	for kind, b := range map[int][2]int{
		api.OpStart:       {0, delay},
		api.OpSignalStart: {0, delay},
		api.OpUpdate:      {1, 2},
		api.OpReset:       {1, 120},
		api.OpPoll:        {1, delay},
		api.OpComplete:    {0, 120},
		api.OpFail:        {1, 120},
	} {
		for _, n := range []int{math.MinInt, -1, 0, 1, 2, 3, 119, 120, 121, delay - 1, delay, delay + 1, 1 << 41, math.MaxInt} {
			want := api.ErrArg
			if b[0] <= n && n <= b[1] {
				want = api.OK
			}
			checks(t, fmt.Sprint("Num ", n), kind, want, func(r *api.Request) { r.Num, r.Commands = n, nil })
		}
	}
}

func TestRun(t *testing.T) {
	for _, kind := range []int{api.OpComplete, api.OpFail} {
		for _, n := range []int{math.MinInt, -1, 0, 1, 2, 9, 10, 11, 1<<32 + 1, math.MaxInt} {
			want := api.ErrArg
			if 1 <= n && n <= 10 {
				want = api.OK
			}
			checks(t, fmt.Sprint("Run ", n), kind, want, func(r *api.Request) { r.Run = n })
		}
	}
}

func TestWait(t *testing.T) {
	for _, kind := range []int{api.OpQuery, api.OpUpdate} {
		for _, n := range []int{math.MinInt, -1, 0, 1, delay - 1, delay, delay + 1, math.MaxInt} {
			want := api.ErrArg
			if 0 <= n && n <= delay {
				want = api.OK
			}
			checks(t, fmt.Sprint("Wait ", n), kind, want, func(r *api.Request) { r.Wait = n })
		}
	}
}

func TestPolicy(t *testing.T) {
	nan, inf := math.Float64bits(math.NaN()), math.Float64bits(math.Inf(-1))
	for _, kind := range []int{api.OpStart, api.OpSignalStart} {
		for _, p := range []api.Policy{{}, {First: delay, Most: delay}, {Coef: 1 << 63}, {Coef: inf}, {First: delay, Coef: 1, Most: 0}} {
			checks(t, fmt.Sprint(p), kind, api.OK, func(r *api.Request) { r.Policy = p })
		}
		for _, p := range []api.Policy{{First: -1}, {Most: -1}, {First: delay + 1}, {Most: delay + 1}, {Coef: nan}, {Coef: nan + 1}, {First: math.MinInt}, {Most: math.MaxInt}} {
			checks(t, fmt.Sprint(p), kind, api.ErrArg, func(r *api.Request) { r.Policy = p })
		}
	}
}

func commandsOf(n int) []api.Command {
	var out []api.Command
	for i := range n {
		out = append(out, api.Command{Kind: api.CmTimer, Name: fmt.Sprint("t", i), Delay: i})
	}
	return out
}

func answersOf(n int) []api.Answer {
	var out []api.Answer
	for i := range n {
		out = append(out, api.Answer{Op: i + 1, Value: listOf("a")})
	}
	return out
}

func TestLengthsOfLists(t *testing.T) {
	for _, n := range []int{0, 1, 7, 8, 9, 11, 12, 13, 14, 500} {
		for _, m := range []int{0, 1, 7, 8, 9, 12, 13, 500} {
			want := api.OK
			if n > 12 || m > 8 {
				want = api.ErrLong
			}
			checks(t, fmt.Sprint(n, " and ", m), api.OpComplete, want, func(r *api.Request) { r.Commands, r.Answers = commandsOf(n), answersOf(m) })
		}
	}
}

func TestCommands(t *testing.T) {
	for _, c := range []api.Command{
		{Kind: api.CmTimer, Name: "t"}, {Kind: api.CmTimer, Name: "t", Delay: delay}, {Kind: api.CmTimerOff, Name: "t"}, {Kind: api.CmMarker},
		{Kind: api.CmMarker, Value: listOf("m")}, {Kind: api.CmAccept, Name: "u"}, {Kind: api.CmReject, Name: "u", Value: listOf("no")},
		{Kind: api.CmOutcome, Name: "u"}, {Kind: api.CmComplete, Value: listOf("v")}, {Kind: api.CmFail, Name: "why not"}, {Kind: api.CmFail}, {Kind: api.CmCancel},
	} {
		checks(t, fmt.Sprint(c), api.OpComplete, api.OK, func(r *api.Request) { r.Commands = append(r.Commands, c) })
	}
	for _, c := range []api.Command{
		{}, {Kind: -1}, {Kind: 10}, {Kind: math.MaxInt}, {Kind: api.CmTimer}, {Kind: api.CmTimer, Name: "t", Delay: -1}, {Kind: api.CmTimer, Name: "t", Delay: delay + 1},
		{Kind: api.CmTimerOff, Name: "t", Delay: 1}, {Kind: api.CmMarker, Name: "n"}, {Kind: api.CmAccept, Name: "u", Value: listOf("x")}, {Kind: api.CmReject, Name: "."},
		{Kind: api.CmOutcome, Name: "u", Value: api.Value{Kind: 9}}, {Kind: api.CmFail, Name: strings.Repeat("x", 201)}, {Kind: api.CmCancel, Name: "n"},
	} {
		for place := range 3 { // each one counts
			checks(t, fmt.Sprint(c, " at ", place), api.OpComplete, api.ErrArg, func(r *api.Request) {
				r.Commands = commandsOf(3)
				r.Commands[place] = c
			})
		}
	}
}

func TestAnswers(t *testing.T) {
	good := []api.Answer{{Op: 1}, {Op: 1, Value: listOf("a")}, {Op: math.MaxInt}}
	for _, v := range goodValues() {
		good = append(good, api.Answer{Op: 3, Value: v})
	}
	bad := []api.Answer{{}, {Value: listOf("a")}, {Op: -1}, {Op: math.MinInt}}
	for _, v := range badValues() {
		bad = append(bad, api.Answer{Op: 3, Value: v})
	}
	for place := range 8 {
		for i, x := range good {
			checks(t, fmt.Sprint("good ", i, " at ", place), api.OpComplete, api.OK, func(r *api.Request) {
				r.Answers = answersOf(8)
				r.Answers[place] = x
			})
		}
		for i, x := range bad {
			checks(t, fmt.Sprint("bad ", i, " at ", place), api.OpComplete, api.ErrArg, func(r *api.Request) {
				r.Answers = answersOf(8)
				r.Answers[place] = x
			})
		}
	}
	// One operation may be answered twice.
	checks(t, "twice", api.OpComplete, api.OK, func(r *api.Request) { r.Answers = []api.Answer{{Op: 2}, {Op: 2}} })
}

func TestCommandsWithoutATask(t *testing.T) {
	for n := 1; n <= 12; n++ {
		checks(t, fmt.Sprint(n), api.OpComplete, api.ErrArg, func(r *api.Request) { r.Num, r.Commands = 0, commandsOf(n) })
	}
	checks(t, "answers alone", api.OpComplete, api.OK, func(r *api.Request) { r.Num, r.Commands = 0, nil })
	checks(t, "no commands", api.OpComplete, api.OK, func(r *api.Request) { r.Num, r.Commands, r.Answers = 0, []api.Command{}, nil })
}

// TestTheFirstError: where ErrLong and another one apply, the one that stands ahead is told.
func TestTheFirstError(t *testing.T) {
	for why, bend := range map[string]func(r *api.Request){
		"a Kind":       func(r *api.Request) { r.Kind = 14 },
		"another Kind": func(r *api.Request) { r.Kind = api.OpPoll },
		"a Request":    func(r *api.Request) { r.Request = "r" },
		"a Name":       func(r *api.Request) { r.Name = "n" },
		"a Value":      func(r *api.Request) { r.Value = listOf("v") },
		"a Wait":       func(r *api.Request) { r.Wait = 1 },
		"a Policy":     func(r *api.Request) { r.Policy.First = 1 },
		"no Flow":      func(r *api.Request) { r.Flow = "" },
		"Num":          func(r *api.Request) { r.Num = 121 },
		"Num below":    func(r *api.Request) { r.Num = -1 },
		"Run":          func(r *api.Request) { r.Run = 11 },
		"no Run":       func(r *api.Request) { r.Run = 0 },
	} {
		checks(t, why+" ahead of too many commands", api.OpComplete, api.ErrArg, func(r *api.Request) {
			r.Commands = commandsOf(13)
			bend(r)
		})
		checks(t, why+" ahead of too many answers", api.OpComplete, api.ErrArg, func(r *api.Request) {
			r.Answers = answersOf(9)
			bend(r)
		})
	}
	for why, bend := range map[string]func(r *api.Request){
		"a command":         func(r *api.Request) { r.Commands[0] = api.Command{} },
		"an answer's Op":    func(r *api.Request) { r.Answers[0].Op = 0 },
		"an answer's Value": func(r *api.Request) { r.Answers[0].Value.Kind = 9 },
		"no task":           func(r *api.Request) { r.Num = 0 },
	} {
		checks(t, why+" behind too many commands", api.OpComplete, api.ErrLong, func(r *api.Request) {
			r.Commands, r.Answers = commandsOf(13), answersOf(1)
			bend(r)
		})
		checks(t, why+" behind too many answers", api.OpComplete, api.ErrLong, func(r *api.Request) {
			r.Commands, r.Answers = commandsOf(1), answersOf(9)
			bend(r)
		})
	}
}

func TestTheExample(t *testing.T) {
	if e := Check(api.Request{Kind: api.OpDescribe, Flow: "a", Name: "n"}); e != api.ErrArg {
		t.Error(e)
	}
	if e := Check(api.Request{Kind: api.OpDescribe, Flow: "a"}); e != api.OK {
		t.Error(e)
	}
}

// TestNothingIsChanged: what was handed in stays, in the room behind it, too.
func TestNothingIsChanged(t *testing.T) {
	made := func(kind int) api.Request {
		r := good(kind)
		r.Commands = append(make([]api.Command, 0, 20), r.Commands...)
		r.Answers = append(make([]api.Answer, 0, 20), r.Answers...)
		return r
	}
	for _, kind := range kinds() {
		r := made(kind)
		Check(r)
		r.Commands, r.Answers = r.Commands[:20], r.Answers[:20]
		want := made(kind)
		want.Commands, want.Answers = want.Commands[:20], want.Answers[:20]
		if !reflect.DeepEqual(r, want) {
			t.Errorf("kind %d: %+v", kind, r)
		}
	}
}
