package rowcode

import (
	"bytes"
	"fmt"
	"math"
	"math/rand"
	"slices"
	"strings"
	"testing"

	"usher/api"
	"usher/pack"
)

// decoded complains unless b is told as f.
func decoded(t *testing.T, why string, b []byte, f api.Flow) {
	t.Helper()
	g, e := Decode(b)
	if e != api.OK || !identical(g, f) || !Same(g, f) {
		t.Errorf("%s: %+v, %d", why, g, e)
	}
}

// refused complains unless b is told that error, and nothing else.
func refused(t *testing.T, why string, b []byte, want api.Errno) {
	t.Helper()
	if f, e := Decode(b); e != want || !identical(f, api.Flow{}) || f.State.Timers != nil || f.State.Updates != nil || f.Table != nil {
		t.Errorf("%s: %+v, %d, not %d", why, f, e, want)
	}
}

// noState complains unless the state that comes next in b is refused with that error.
func noState(t *testing.T, why string, b []byte, want api.Errno) {
	t.Helper()
	r := pack.Open(b)
	s := ReadState(r)
	if r.Err() != want || r.Left() != 0 || !identical(s, api.State{}) || s.Timers != nil || s.Updates != nil {
		t.Errorf("%s: %+v, %d, not %d", why, s, r.Err(), want)
	}
}

func TestThereAndBack(t *testing.T) {
	for _, c := range good() {
		b, e := Encode(c.f)
		if e != api.OK {
			t.Errorf("%s: %d", c.why, e)
			continue
		}
		decoded(t, c.why, b, c.f)
		for _, behind := range [][]byte{nil, {0}, {255}, {1, 2, 3}, b} {
			r := pack.Open(slices.Concat([]byte{1}, PutState(nil, c.f.State), behind))
			r.Flag()
			if s := ReadState(r); !identical(s, c.f.State) || r.Err() != api.OK || r.Left() != len(behind) {
				t.Errorf("%s: ReadState: %+v, %d, %d left", c.why, s, r.Err(), r.Left())
			}
			if len(behind) > 0 {
				refused(t, c.why+" with more behind it", slices.Concat(b, behind), api.ErrForm)
			}
		}
	}
}

// TestStatesOneBehindTheOther: one reader reads as many as there are.
func TestStatesOneBehindTheOther(t *testing.T) {
	var b []byte
	for _, c := range good() {
		b = PutState(b, c.f.State)
	}
	r := pack.Open(b)
	for _, c := range good() {
		if s := ReadState(r); !identical(s, c.f.State) {
			t.Errorf("%s: %+v", c.why, s)
		}
	}
	if r.End() != api.OK {
		t.Error(r.End())
	}
	if s := ReadState(r); !identical(s, api.State{}) || r.Err() != api.ErrShort {
		t.Error("behind the last one", s, r.Err())
	}
}

func TestEachBeginningIsShort(t *testing.T) {
	for _, f := range []api.Flow{usual(), little(), of(end(api.StCompleted)), of(end(api.StFailed))} {
		b := flowBook(f).joined()
		for i := range b {
			refused(t, fmt.Sprint(i, " bytes"), b[:i], api.ErrShort)
		}
		s := stateBook(f.State).joined()
		for i := range s {
			noState(t, fmt.Sprint(i, " bytes"), s[:i], api.ErrShort)
		}
		for c := range 256 {
			refused(t, fmt.Sprint("a byte ", c, " behind it"), append(b[:len(b):len(b)], byte(c)), api.ErrForm)
		}
	}
	refused(t, "no bytes", nil, api.ErrShort)
	refused(t, "no bytes", []byte{}, api.ErrShort)
	noState(t, "no bytes", nil, api.ErrShort)
}

// swapped gives the bytes of l with other ones in the place of some parts'.
func swapped(t *testing.T, l book, swaps map[string][]byte) []byte {
	t.Helper()
	var out []byte
	found := 0
	for _, p := range l {
		b, ok := swaps[p.name]
		if !ok {
			b = p.bytes
		} else {
			found++
		}
		out = append(out, b...)
	}
	if found != len(swaps) {
		t.Fatalf("%d of %d parts found", found, len(swaps))
	}
	return out
}

// number is a part that is a number: the greatest that it may be, and what is told of the usual workflow with that, with 0, and with some others.
type number struct {
	name   string
	most   int
	at     api.Errno
	zero   api.Errno
	others map[int]api.Errno
}

// usualNumbers are those of the usual workflow: where one at its limit, or 0, does not go with the others, the workflow may not be.
func usualNumbers() []number {
	ok, form, longer := api.OK, api.ErrForm, api.ErrLong
	return []number{
		{"Runs", 10, form, form, map[int]api.Errno{2: form, 3: ok, 4: form}},
		{"Run", 10, form, form, map[int]api.Errno{2: form, 3: ok, 4: form}},
		{"Status", 6, form, form, map[int]api.Errno{1: ok, 2: form, 5: form}},
		{"Count", 120, ok, longer, map[int]api.Errno{3: longer, 4: form, 17: form, 18: ok, 119: ok}}, // 4 signals, the event 18
		{"Time", latest, ok, ok, map[int]api.Errno{latest - 1: ok}},
		{"Deadline", lastDue, ok, ok, map[int]api.Errno{lastDue - 1: ok, latest + 1: ok}},
		{"From", 10, ok, ok, map[int]api.Errno{1: ok, 9: ok}},
		{"Signals", 20, ok, ok, map[int]api.Errno{1: ok, 19: ok, 22: longer, 120: longer}},
		{"First", 1 << 30, ok, ok, nil},
		{"Most", 1 << 30, ok, ok, nil},
		{"State", 2, ok, form, map[int]api.Errno{1: form}},
		{"Attempt", lastTry, ok, form, map[int]api.Errno{1: ok, lastTry - 1: ok}},
		{"Due", lastDue, ok, ok, map[int]api.Errno{latest + 1: ok}},
		{"Event", 120, form, form, map[int]api.Errno{17: form, 18: ok, 19: form, 21: form}},
		{"Seen", 120, form, form, map[int]api.Errno{17: form, 18: ok, 19: form, 21: form}},
		{"timer 0 Due", lastDue, ok, ok, map[int]api.Errno{latest + 1: ok}},
		{"timer 1 Due", lastDue, ok, ok, map[int]api.Errno{latest + 1: ok}},
		{"update 0 Stage", 2, ok, form, map[int]api.Errno{1: ok}},
		{"update 1 Stage", 2, ok, form, map[int]api.Errno{1: form}},
		{"done 0 Kind", 13, ok, form, map[int]api.Errno{1: ok, 12: ok}},
		{"done 1 Kind", 13, ok, form, map[int]api.Errno{1: ok, 12: ok}},
		{"done 0 Run", 10, form, form, map[int]api.Errno{1: ok, 3: ok, 4: form}},
		{"done 1 Run", 10, form, form, map[int]api.Errno{1: ok, 3: ok, 4: form}},
	}
}

// told complains unless Decode tells that code, and of a workflow that may be its bytes again.
func told(t *testing.T, why string, b []byte, want api.Errno) {
	t.Helper()
	if want != api.OK {
		refused(t, why, b, want)
		return
	}
	f, e := Decode(b)
	if e != api.OK {
		t.Errorf("%s: %d", why, e)
		return
	}
	if again, e := Encode(f); e != api.OK || !bytes.Equal(again, b) {
		t.Errorf("%s: its bytes are %x, %d, not %x", why, again, e, b)
	}
}

func TestEachNumberAtItsLimit(t *testing.T) {
	l := flowBook(usual())
	for _, c := range usualNumbers() {
		tell := func(n int, want api.Errno) {
			t.Helper()
			told(t, fmt.Sprint(c.name, " ", n), swapped(t, l, map[string][]byte{c.name: pack.Num(nil, n)}), want)
		}
		tell(0, c.zero)
		tell(c.most, c.at)
		for n, want := range c.others {
			tell(n, want)
		}
		for _, n := range []int{c.most + 1, 2*c.most + 1, math.MaxInt} {
			tell(n, api.ErrLong)
		}
		for why, b := range map[string][]byte{"in too many bytes": {240, 1}, "in nine bytes": {248, 1}, "below 0": {247, 255, 255, 255, 255, 255, 255, 255, 255}} {
			told(t, c.name+" "+why, swapped(t, l, map[string][]byte{c.name: b}), api.ErrForm)
		}
	}
}

// TestEachNumberOfAState is asked of ReadState, too: what a workflow asks of it beside that does not count there.
func TestEachNumberOfAState(t *testing.T) {
	l := stateBook(usual().State)
	for _, c := range usualNumbers() {
		if !slices.ContainsFunc(l, func(p part) bool { return p.name == c.name }) {
			continue
		}
		tell := func(n int, want api.Errno) {
			t.Helper()
			b := swapped(t, l, map[string][]byte{c.name: pack.Num(nil, n)})
			if want != api.OK {
				noState(t, fmt.Sprint(c.name, " ", n), b, want)
				return
			}
			r := pack.Open(b)
			if s := ReadState(r); r.End() != api.OK || !bytes.Equal(PutState(nil, s), b) {
				t.Errorf("%s %d: %+v, %d", c.name, n, s, r.Err())
			}
		}
		tell(c.most+1, api.ErrLong)
		tell(math.MaxInt, api.ErrLong)
		tell(0, c.zero)
		if c.name == "Run" {
			for n := 1; n <= 10; n++ {
				tell(n, api.OK)
			}
			continue
		}
		tell(c.most, c.at)
		for n, want := range c.others {
			tell(n, want)
		}
	}
}

func TestLimitsOfRuns(t *testing.T) {
	for n := 1; n <= 10; n++ {
		for run := 1; run <= 10; run++ {
			want := api.OK
			if run != n {
				want = api.ErrForm
			}
			l := flowBook(of(requests()))
			told(t, fmt.Sprint("Runs ", n, ", Run ", run), swapped(t, l, map[string][]byte{"Runs": {byte(n)}, "Run": {byte(run)}}), want)
		}
	}
}

func TestLimitsOfTexts(t *testing.T) {
	ended := of(end(api.StFailed))
	for _, c := range []struct {
		name string
		f    api.Flow
		most int
		last string // a text that is long, and stands where it may
	}{
		{"Name", usual(), 24, long(24)},
		{"Type", usual(), 24, long(24)},
		{"timer 0 Name", usual(), 24, "a" + long(23)},
		{"timer 1 Name", usual(), 24, long(24)},
		{"update 0 Name", usual(), 24, "a" + long(23)},
		{"update 1 Name", usual(), 24, long(24)},
		{"done 0 Request", usual(), 24, "a" + long(23)},
		{"done 1 Request", usual(), 24, long(24)},
		{"done 0 Key", usual(), 4096, long(4096)},
		{"done 1 Key", usual(), 4096, long(4096)},
		{"Reason", ended, 200, long(200)},
	} {
		l := flowBook(c.f)
		tell := func(b []byte, want api.Errno) {
			t.Helper()
			told(t, fmt.Sprintf("%s %.40q", c.name, b), swapped(t, l, map[string][]byte{c.name: b}), want)
		}
		tell(pack.Text(nil, c.last), api.OK)
		tell(pack.Text(nil, c.last+"x"), api.ErrLong)
		tell(pack.Num(nil, math.MaxInt), api.ErrLong)
		if c.most > 24 {
			tell(pack.Text(nil, ""), api.OK)
			tell(pack.Text(nil, "a ?\xff\x00"), api.OK)
			continue
		}
		for _, s := range []string{"", ".", "-", "?", "e ", "e/e", "e\x00", "e\xff", c.last[:23] + "?"} {
			tell(pack.Text(nil, s), api.ErrForm)
		}
	}
	told(t, "a reason of one that runs", swapped(t, flowBook(usual()), map[string][]byte{"Reason": {1, 'a'}}), api.ErrForm)
	told(t, "too long a reason of one that runs", swapped(t, flowBook(usual()), map[string][]byte{"Reason": pack.Text(nil, long(201))}), api.ErrLong)
}

func TestLimitsOfLists(t *testing.T) {
	for name, list := range map[string]struct {
		most int
		make func(names ...string) func(f *api.Flow)
	}{"Timers": {10, timers}, "Updates": {10, updates}, "Table": {30, requests}} {
		for _, n := range []int{0, 1, list.most - 1, list.most} {
			f := of(list.make(many(n)...))
			decoded(t, fmt.Sprint(name, " ", n), flowBook(f).joined(), f)
		}
		for _, n := range []int{list.most + 1, list.most + 2, 100} {
			refused(t, fmt.Sprint(name, " ", n), flowBook(of(list.make(many(n)...))).joined(), api.ErrLong)
		}
		// The number is refused by itself, whatever stands behind it.
		refused(t, name, swapped(t, flowBook(usual()), map[string][]byte{name: pack.Num(nil, math.MaxInt)}), api.ErrLong)
	}
}

func TestListsThatDoNotRise(t *testing.T) {
	for _, names := range []string{"b a", "a a", "a b b", "a c b", "b c a", "a A", "aa a"} {
		l := strings.Fields(names)
		for name, change := range map[string]func(f *api.Flow){"timers": timers(l...), "updates": updates(l...), "requests": requests(l...)} {
			refused(t, name+" "+names, flowBook(of(change)).joined(), api.ErrForm)
			if name != "requests" {
				noState(t, name+" "+names, stateBook(of(change).State).joined(), api.ErrForm)
			}
		}
	}
}

func TestFlagsAboveOne(t *testing.T) {
	for _, name := range []string{"Fresh", "Cancel"} {
		for c := range 256 {
			want := api.OK
			if c > 1 {
				want = api.ErrForm
			}
			told(t, fmt.Sprint(name, " ", c), swapped(t, flowBook(usual()), map[string][]byte{name: {byte(c)}}), want)
		}
	}
}

func TestValuesAndPolicies(t *testing.T) {
	wide := api.Value{Kind: api.VList, List: make([]api.Value, 13)}
	big := api.Value{Kind: api.VList, List: []api.Value{text(long(200)), text(long(200)), text(long(200)), text(long(200)), text(long(189))}}
	values := []struct {
		v    api.Value
		want api.Errno
	}{
		{api.Value{Kind: api.VInt, Int: math.MinInt}, api.OK}, {nested(4), api.OK}, {text(long(200)), api.OK}, {api.Value{Kind: api.VFloat, Bits: theNaN}, api.OK},
		{api.Value{Kind: api.VFloat, Bits: otherNaN}, api.ErrForm}, {api.Value{Kind: 5}, api.ErrLong}, {nested(5), api.ErrLong}, {text(long(201)), api.ErrLong}, {wide, api.ErrLong}, {big, api.ErrLong},
	}
	for _, name := range []string{"Input", "update 0 Value", "update 1 Value", "update 1 Outcome", "Result"} {
		f := usual()
		if name == "Result" {
			f = of(end(api.StCompleted))
		}
		for _, c := range values {
			told(t, fmt.Sprintf("%s %.60v", name, c.v), swapped(t, flowBook(f), map[string][]byte{name: valueBytes(c.v)}), c.want)
		}
	}
	// What an update at stage 1, and a run that goes on, has not may not be; bytes that are no value are told as such.
	for _, name := range []string{"update 0 Outcome", "Result"} {
		for _, c := range values {
			want := c.want
			if want == api.OK {
				want = api.ErrForm
			}
			told(t, fmt.Sprintf("%s %.60v", name, c.v), swapped(t, flowBook(usual()), map[string][]byte{name: valueBytes(c.v)}), want)
		}
	}
	for bits, want := range map[uint64]api.Errno{0: api.OK, minus0: api.OK, infinity: api.OK, infinity | minus0: api.OK, theNaN: api.ErrForm, otherNaN: api.ErrForm} {
		told(t, fmt.Sprintf("Coef %x", bits), swapped(t, flowBook(usual()), map[string][]byte{"Coef": pack.Bits(nil, bits)}), want)
	}
}

// TestTwoErrors: the first one from left to right is told; what may not be is told when all is read.
func TestTwoErrors(t *testing.T) {
	num := func(n int) []byte { return pack.Num(nil, n) }
	txt := func(n int) []byte { return pack.Text(nil, long(n)) }
	for _, c := range []struct {
		why   string
		swaps map[string][]byte
		want  api.Errno
	}{
		{"Name too long, a flag of 2", map[string][]byte{"Name": txt(25), "Fresh": {2}}, api.ErrLong},
		{"Runs in too many bytes, Run 11", map[string][]byte{"Runs": {240, 3}, "Run": num(11)}, api.ErrForm},
		{"Runs 11, Run in too many bytes", map[string][]byte{"Runs": num(11), "Run": {240, 3}}, api.ErrLong},
		{"Status 7, Type in too many bytes", map[string][]byte{"Status": num(7), "Type": {240, 1, 'a'}}, api.ErrLong},
		{"a value of another NaN, Table 31", map[string][]byte{"Input": append([]byte{2}, pack.Bits(nil, otherNaN)...), "Table": num(31)}, api.ErrForm},
		{"a value of a kind 5, a flag of 2", map[string][]byte{"Input": {5}, "Fresh": {2}}, api.ErrLong},
		{"a policy of a NaN, Attempt too great", map[string][]byte{"Coef": pack.Bits(nil, theNaN), "Attempt": num(lastTry + 1)}, api.ErrForm},
		{"First too great, a policy of a NaN", map[string][]byte{"First": num(1<<30 + 1), "Coef": pack.Bits(nil, theNaN)}, api.ErrLong},
		{"a flag of 2, Timers 11", map[string][]byte{"Fresh": {2}, "Timers": num(11)}, api.ErrForm},
		{"Seen 121, a flag of 2", map[string][]byte{"Seen": num(121), "Cancel": {2}}, api.ErrLong},
		{"Timers 11, Updates in too many bytes", map[string][]byte{"Timers": num(11), "Updates": {240, 2}}, api.ErrLong},
		{"Stage 3, a Kind in too many bytes", map[string][]byte{"update 1 Stage": num(3), "done 0 Kind": {240, 2}}, api.ErrLong},
		{"a Kind in too many bytes, a Run of 11", map[string][]byte{"done 0 Kind": {240, 2}, "done 1 Run": num(11)}, api.ErrForm},
		{"a Run of 11, a Kind in too many bytes", map[string][]byte{"done 0 Run": num(11), "done 1 Kind": {240, 2}}, api.ErrLong},
		{"no name, Runs 11", map[string][]byte{"Name": {1, '?'}, "Runs": num(11)}, api.ErrLong},
		{"no name, a Run of 11", map[string][]byte{"Name": {1, '?'}, "done 1 Run": num(11)}, api.ErrLong},
		{"no name, bytes that end too early", map[string][]byte{"Name": {1, '?'}, "done 1 Run": nil}, api.ErrShort},
		{"no Status, Reason too long", map[string][]byte{"Status": num(0), "Reason": txt(201)}, api.ErrLong},
		{"no Status, Table 31", map[string][]byte{"Status": num(0), "Table": num(31)}, api.ErrLong},
		{"no Status, bytes that end too early", map[string][]byte{"Status": num(0), "done 1 Run": nil}, api.ErrShort},
		{"timers that fall, a Kind of 14", map[string][]byte{"timer 0 Name": {1, 'z'}, "done 0 Kind": num(14)}, api.ErrLong},
		{"updates that fall, a Run of 11", map[string][]byte{"update 0 Name": {1, 'z'}, "done 0 Run": num(11)}, api.ErrLong},
		{"Requests that fall, bytes that end too early", map[string][]byte{"done 0 Request": {1, 'z'}, "done 1 Run": nil}, api.ErrShort},
		{"no Status, one byte more", map[string][]byte{"Status": num(0), "done 1 Run": {3, 0}}, api.ErrForm},
		{"Runs 11, one byte more", map[string][]byte{"Runs": num(11), "done 1 Run": {3, 0}}, api.ErrLong},
		{"Name too long, nothing behind it", map[string][]byte{"Name": {25}}, api.ErrLong},
	} {
		refused(t, c.why, swapped(t, flowBook(usual()), c.swaps), c.want)
	}
	refused(t, "Name too long, and then nothing", []byte{25}, api.ErrLong)
	refused(t, "a Name that ends too early", []byte{24, 'a'}, api.ErrShort)
	refused(t, "Runs too great, and then nothing", []byte{1, 'a', 11}, api.ErrLong)
}

// TestTwoErrorsOfAState: what stands behind a state is none of it.
func TestTwoErrorsOfAState(t *testing.T) {
	for _, c := range []struct {
		why   string
		swaps map[string][]byte
		want  api.Errno
	}{
		{"no Status, Reason too long", map[string][]byte{"Status": {0}, "Reason": pack.Text(nil, long(201))}, api.ErrLong},
		{"no Status, no Reason", map[string][]byte{"Status": {0}, "Reason": nil}, api.ErrShort},
		{"no Status, a flag of 2", map[string][]byte{"Status": {0}, "Fresh": {2}}, api.ErrForm},
		{"no Status", map[string][]byte{"Status": {0}}, api.ErrForm},
		{"Run 11, a flag of 2", map[string][]byte{"Run": {11}, "Fresh": {2}}, api.ErrLong},
		{"a flag of 2, Timers 11", map[string][]byte{"Fresh": {2}, "Timers": {11}}, api.ErrForm},
		{"timers that fall, Updates 11", map[string][]byte{"timer 0 Name": {1, 'z'}, "Updates": {11}}, api.ErrLong},
	} {
		b := swapped(t, stateBook(usual().State), c.swaps)
		noState(t, c.why, b, c.want)
		if c.want == api.ErrForm {
			noState(t, c.why+", and more behind it", append(b, 255, 255), c.want)
		}
	}
}

func TestReadStateOfAReaderWithAnError(t *testing.T) {
	for _, code := range []api.Errno{api.ErrArg, api.ErrForm, api.ErrShort, api.ErrVersion} {
		r := pack.Open(stateBook(usual().State).joined())
		r.Fail(code)
		if s := ReadState(r); !identical(s, api.State{}) || r.Err() != code || r.Left() != 0 {
			t.Errorf("%+v, %d, not %d", s, r.Err(), code)
		}
	}
	for _, r := range []*pack.Reader{nil, {}} {
		if s := ReadState(r); !identical(s, api.State{}) || r.Err() != api.ErrNil {
			t.Errorf("a reader that no call made: %+v, %d", s, r.Err())
		}
	}
}

// whole complains unless b is refused with nothing else, or is just the bytes of what it is told as; it says whether it was taken.
func whole(t *testing.T, b []byte) bool {
	t.Helper()
	f, e := Decode(b)
	switch e {
	case api.OK:
		again, e := Encode(f)
		if e != api.OK || !bytes.Equal(again, b) || !Can(f) {
			t.Errorf("%x is told as %+v, whose bytes are %x", b, f, again)
		}
		return true
	case api.ErrForm, api.ErrShort, api.ErrLong:
		if !identical(f, api.Flow{}) {
			t.Errorf("%x: %d, and %+v", b, e, f)
		}
	default:
		t.Errorf("%x: %d", b, e)
	}
	return false
}

func TestOneByteChanged(t *testing.T) {
	taken, refusedOnes := 0, 0
	for _, f := range []api.Flow{usual(), little(), of(end(api.StCompleted)), of(end(api.StTerminated)), of(task(api.Task{State: api.TaskWaits, Attempt: 300}))} {
		b := flowBook(f).joined()
		for i := range b {
			for x := 1; x < 256; x++ {
				c := slices.Clone(b)
				c[i] ^= byte(x)
				if whole(t, c) {
					taken++
				} else {
					refusedOnes++
				}
			}
		}
	}
	if taken == 0 || refusedOnes == 0 {
		t.Error(taken, refusedOnes)
	}
}

// TestDecodeSharesNothing: neither with the bytes, nor with another answer.
func TestDecodeSharesNothing(t *testing.T) {
	b := flowBook(usual()).joined()
	f, _ := Decode(b)
	g, _ := Decode(b)
	clear(b)
	f.Table[0].Key[0], f.State.Timers[0].Due, f.State.Input.List[0].Text = 1, -1, "spoilt"
	f.Table[1].Key = append(f.Table[1].Key[:0], "spoilt"...)
	if !identical(g, usual()) {
		t.Errorf("%+v", g)
	}
}

// anyFlow gives a workflow that may be.
func anyFlow(r *rand.Rand) api.Flow {
	value := func() api.Value {
		return []api.Value{{}, {Kind: api.VInt, Int: r.Int() - r.Int()}, {Kind: api.VFloat, Bits: two ^ uint64(r.Int63n(1<<40))}, text(long(r.Intn(201))), listOf("l"), nested(4)}[r.Intn(6)]
	}
	f := of(runs(1+r.Intn(10)), timers(many(r.Intn(11))...), updates(many(r.Intn(11))...), requests(many(r.Intn(31))...))
	s := &f.State
	f.Name, s.Type = "f"+long(r.Intn(24)), "_"+long(r.Intn(24))
	s.Count = 1 + r.Intn(120)
	s.Signals, s.Time, s.Deadline, s.From = r.Intn(s.Count+1), r.Intn(latest+1), r.Intn(lastDue+1), r.Intn(11)
	s.Input, s.Policy = value(), api.Policy{First: r.Intn(1<<30 + 1), Coef: uint64(r.Int63n(1 << 62)), Most: r.Intn(1000)}
	s.Fresh, s.Cancel = r.Intn(2) == 0, r.Intn(2) == 0
	switch n := 1 + r.Intn(s.Count); r.Intn(3) {
	case 0:
		s.Task = api.Task{}
	case 1:
		s.Task = api.Task{State: api.TaskWaits, Attempt: 1 + r.Intn(lastTry), Due: r.Intn(lastDue + 1)}
	case 2:
		s.Task = api.Task{State: api.TaskTaken, Attempt: 1 + r.Intn(lastTry), Due: r.Intn(lastDue + 1), Event: n, Seen: n}
	}
	for i := range s.Updates {
		s.Updates[i].Value = value()
		if s.Updates[i].Stage == 2 {
			s.Updates[i].Outcome = value()
		}
	}
	if status := 1 + r.Intn(6); status > 1 {
		end(status)(&f)
	}
	return f
}

func TestAnyThereAndBack(t *testing.T) {
	r := rand.New(rand.NewSource(20))
	for range 500 {
		f := anyFlow(r)
		b, e := Encode(f)
		if e != api.OK || !bytes.Equal(b, flowBook(f).joined()) {
			t.Fatalf("%+v: %x, %d", f, b, e)
		}
		decoded(t, "any", b, f)
		for range 20 { // some bytes changed, taken out, or put in
			c := slices.Clone(b)
			for range 1 + r.Intn(3) {
				at := r.Intn(min(len(c), 120))
				switch r.Intn(3) {
				case 0:
					c[at] = byte(r.Intn(256))
				case 1:
					c = slices.Delete(c, at, at+1)
				case 2:
					c = slices.Insert(c, at, byte(r.Intn(4)))
				}
			}
			whole(t, c)
		}
	}
	for range 5000 { // bytes of nothing
		c := make([]byte, r.Intn(80))
		for i := range c {
			c[i] = byte(r.Intn(6))
		}
		whole(t, c)
	}
}
