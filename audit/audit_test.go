package audit

import (
	"bytes"
	"fmt"
	"math"
	"reflect"
	"slices"
	"strings"
	"testing"

	"usher/api"
	"usher/branch"
	"usher/fold"
	"usher/names"
	"usher/rowcode"
	"usher/rows"
)

func listOf(s string) api.Value {
	return api.Value{Kind: api.VList, List: []api.Value{{Kind: api.VText, Text: s}}}
}

// begun is how a run begins.
func begun(l ...api.Event) []api.Event {
	return append([]api.Event{{Kind: api.EvStarted, Name: "t", Value: listOf("in")}, {Kind: api.EvScheduled, Num: 1}}, l...)
}

// full gives the events of a run that is going on, in whose state all is something.
func full() []api.Event {
	return []api.Event{
		{Kind: api.EvStarted, Time: 1, Name: "t", Value: listOf("in"), Due: 100, Policy: api.Policy{First: 1, Coef: 2, Most: 3}},
		{Kind: api.EvScheduled, Time: 1, Num: 1, Due: 1},
		{Kind: api.EvTaken, Time: 2, Due: 9},
		{Kind: api.EvTaskFailed, Time: 3, Num: 1, Name: "reset"},
		{Kind: api.EvSignaled, Time: 4, Name: "s", Value: listOf("s")},
		{Kind: api.EvCancel, Time: 4},
		{Kind: api.EvTimer, Time: 4, Name: "c", Due: 50},
		{Kind: api.EvAccepted, Time: 4, Name: "u", Value: listOf("u")},
		{Kind: api.EvOutcome, Time: 4, Name: "u", Value: listOf("o")},
		{Kind: api.EvScheduled, Time: 5, Num: 1, Due: 5},
	}
}

// ends are the runs that have come to an end, by what they are then.
func ends() map[string][]api.Event {
	return map[string][]api.Event{
		"completed":  begun(api.Event{Kind: api.EvTaken}, api.Event{Kind: api.EvDone}, api.Event{Kind: api.EvCompleted, Value: listOf("out")}),
		"failed":     begun(api.Event{Kind: api.EvTaken}, api.Event{Kind: api.EvDone}, api.Event{Kind: api.EvFailed, Name: "why"}),
		"canceled":   begun(api.Event{Kind: api.EvCancel}, api.Event{Kind: api.EvTaken}, api.Event{Kind: api.EvDone}, api.Event{Kind: api.EvCanceled}),
		"terminated": begun(api.Event{Kind: api.EvTerminated, Name: "why"}),
		"timedOut":   {{Kind: api.EvStarted, Name: "t", Due: 5}, {Kind: api.EvTimedOut, Time: 5}},
	}
}

// stored is a store's rows, which are made and bent.
type stored struct {
	*testing.T
	api.Rows
}

// of gives the rows of these workflows.
func of(t *testing.T, l ...func(s *stored)) *stored {
	t.Helper()
	s := &stored{T: t}
	for _, put := range l {
		put(s)
	}
	return s
}

// flow puts a workflow there, whose runs have these histories.
func flow(name string, runs ...[]api.Event) func(s *stored) {
	return func(s *stored) {
		s.Helper()
		last, n, e := fold.Build(len(runs), runs[len(runs)-1])
		if e != api.OK || n == 0 {
			s.Fatal("no history:", n, e)
		}
		s.row(names.Row(name), api.Flow{Name: name, Runs: len(runs), State: last, Table: []api.Done{{Request: "x", Kind: 1, Key: []byte("k"), Run: 1}}})
		for i, h := range runs {
			s.branch(names.Branch(name, i+1), h)
		}
	}
}

func (s *stored) row(key string, f api.Flow) {
	s.Helper()
	b, e := rowcode.Encode(f)
	if e != api.OK {
		s.Fatalf("%+v: %d", f, e)
	}
	s.Rows.Rows = append(s.Rows.Rows, api.Row{Key: key, Version: 1, Bytes: b})
}

func (s *stored) branch(key string, h []api.Event) {
	s.Branches = append(s.Branches, api.Branch{Key: key, Events: branch.Bytes(h)})
}

// setRow changes the bytes of a key's row.
func (s *stored) setRow(key string, b []byte) {
	at := slices.IndexFunc(s.Rows.Rows, func(r api.Row) bool { return r.Key == key })
	s.Rows.Rows[at].Bytes = b
}

// setFlow changes the workflow that a key's row is.
func (s *stored) setFlow(key string, change func(f *api.Flow)) {
	s.Helper()
	row, _ := rows.Get(s.Rows, key)
	f, _ := rowcode.Decode(row.Bytes)
	change(&f)
	b, e := rowcode.Encode(f)
	if e != api.OK {
		s.Fatalf("%+v: %d", f, e)
	}
	s.setRow(key, b)
}

// at gives the place of a key's branch.
func (s *stored) at(key string) int {
	return slices.IndexFunc(s.Branches, func(b api.Branch) bool { return b.Key == key })
}

func (s *stored) setBranch(key string, l [][]byte) {
	s.Branches[s.at(key)].Events = l
}

func (s *stored) drop(key string) {
	s.Branches = slices.Delete(s.Branches, s.at(key), s.at(key)+1)
}

// says complains unless Row of a key, and All with that key, say that, and leave the rows as they were.
func (s *stored) says(why, key string, code api.Errno) {
	s.Helper()
	before := fmt.Sprintf("%+v", s.Rows)
	if got := Row(s.Rows, key); got != code {
		s.Errorf("%s: Row(%q) = %d, not %d", why, key, got, code)
	}
	if code == api.OK {
		key = ""
	}
	if got, e := All(s.Rows); got != key || e != code {
		s.Errorf("%s: All = %q, %d, not %q, %d", why, got, e, key, code)
	}
	if fmt.Sprintf("%+v", s.Rows) != before {
		s.Errorf("%s: what was handed in has changed", why)
	}
}

// allSays complains unless All, and Image, say that.
func (s *stored) allSays(why, key string, code api.Errno) {
	s.Helper()
	if got, e := All(s.Rows); got != key || e != code {
		s.Errorf("%s: All = %q, %d, not %q, %d", why, got, e, key, code)
	}
	if b := rows.Encode(s.Rows); reflect.DeepEqual(decoded(b), s.Rows) {
		if got, e := Image(b); got != key || e != code {
			s.Errorf("%s: Image = %q, %d, not %q, %d", why, got, e, key, code)
		}
	}
}

func decoded(b []byte) api.Rows {
	r, _ := rows.Decode(b)
	return r
}

func TestExample(t *testing.T) {
	s := of(t, flow("a", begun()))
	if got := Text(s.Rows); got != "a 1 running 2\n" {
		t.Errorf("%q", got)
	}
	s.says("just started", "w/a", api.OK)
	if key, e := Image(rows.Encode(s.Rows)); key != "" || e != api.OK {
		t.Error(key, e)
	}
}

// TestRowOfOtherKeys: a key that is no row's, and one that is, but of no row.
func TestRowOfOtherKeys(t *testing.T) {
	s := of(t, flow("a", begun()))
	long := strings.Repeat("n", 25)
	for _, key := range []string{"", "w", "w/", "a", "w/b", "w/aa", "W/a", "w/a/", "w/a/1", "w//a", "h/a/1", "h/a", "w/.a", "w/-", "w/" + long, "w/\xff", " w/a"} {
		if e := Row(s.Rows, key); e != api.ErrArg {
			t.Errorf("Row(%q) = %d", key, e)
		}
		if e := Row(api.Rows{}, key); e != api.ErrArg {
			t.Errorf("Row(%q) of nothing = %d", key, e)
		}
	}
	for _, key := range []string{"", "w", "w/", "a", "w/-", "w/" + long, "h/a/1"} { // rows that are there, of keys that are none
		s := of(t, flow("a", begun()))
		f, _ := rowcode.Decode(s.Rows.Rows[0].Bytes)
		s.row(key, f)
		s.says("another key", key, api.ErrArg)
	}
	if key, e := All(api.Rows{}); key != "" || e != api.OK {
		t.Error(key, e)
	}
	if key, e := All(api.Rows{Rows: []api.Row{}, Branches: []api.Branch{}}); key != "" || e != api.OK {
		t.Error(key, e)
	}
}

// TestRowOfBadBytes: bytes that no workflow is, and one of another name.
func TestRowOfBadBytes(t *testing.T) {
	good := of(t, flow("a", begun()), flow("b", begun()))
	b := good.Rows.Rows[0].Bytes
	for why, bad := range map[string][]byte{"none": nil, "empty": {}, "a byte": {1}, "one less": b[:len(b)-1], "one more": append(bytes.Clone(b), 0), "a text": []byte("a workflow"), "b's": good.Rows.Rows[1].Bytes} {
		s := of(t, flow("a", begun()), flow("b", begun()))
		s.setRow("w/a", bad)
		s.says(why, "w/a", api.ErrForm)
		if e := Row(s.Rows, "w/b"); e != api.OK {
			t.Errorf("%s: Row of another one: %d", why, e)
		}
	}
}

// three are runs of which the first two have come to an end.
func three() [][]api.Event {
	l := ends()
	return [][]api.Event{l["completed"], l["terminated"], full()}
}

// TestRowOfRuns: what each run's branch may have, and which run is told of first.
func TestRowOfRuns(t *testing.T) {
	of(t, flow("a", three()...), flow("b", begun())).says("as it should be", "w/a", api.OK)
	good := branch.Bytes(begun())
	many := make([][]byte, 121)
	for i := range many {
		many[i] = good[0]
	}
	for run := 1; run <= 3; run++ {
		key := names.Branch("a", run)
		for why, x := range map[string]struct {
			l    [][]byte
			code api.Errno
		}{
			"an event of no bytes":        {append(slices.Clone(good), nil), api.ErrForm},
			"an event of other bytes":     {append(slices.Clone(good), []byte{99}), api.ErrForm},
			"an event of a byte more":     {[][]byte{append(slices.Clone(good[0]), 0)}, api.ErrForm},
			"too many events":             {many, api.ErrForm},
			"no events":                   {nil, api.ErrEvent},
			"an empty list":               {[][]byte{}, api.ErrEvent},
			"no start":                    {good[1:], api.ErrEvent},
			"two starts":                  {[][]byte{good[0], good[0]}, api.ErrEvent},
			"an event that may not be":    {branch.Bytes(begun(api.Event{Kind: api.EvDone})), api.ErrEvent},
			"an event behind the end":     {branch.Bytes(append(ends()["terminated"], api.Event{Kind: api.EvMarker})), api.ErrEvent},
			"time that goes back":         {branch.Bytes(begun(api.Event{Kind: api.EvMarker, Time: 3}, api.Event{Kind: api.EvMarker, Time: 2})), api.ErrEvent},
			"a running one that isn't it": {good, api.ErrEvent},
		} {
			s := of(t, flow("a", three()...), flow("b", begun()))
			s.setBranch(key, x.l)
			s.says(fmt.Sprint(why, " in ", run), "w/a", x.code)
			for later := run + 1; later <= 3; later++ { // a later run's trouble is not told of
				s.setBranch(names.Branch("a", later), [][]byte{{99}})
			}
			s.says(fmt.Sprint(why, " in ", run, ", and later ones"), "w/a", x.code)
		}
		s := of(t, flow("a", three()...))
		s.drop(key)
		s.says(fmt.Sprint("no branch of ", run), "w/a", api.ErrForm)
		for later := run + 1; later <= 3; later++ {
			s.setBranch(names.Branch("a", later), nil)
		}
		s.says(fmt.Sprint("no branch of ", run, ", and later ones"), "w/a", api.ErrForm)
	}
}

// TestLastRun: its state is the workflow's, each field of it.
func TestLastRun(t *testing.T) {
	for why, change := range map[string]func(s *api.State){
		"Status":       func(s *api.State) { s.Status, s.Task, s.Timers = api.StCanceled, api.Task{}, nil },
		"Count":        func(s *api.State) { s.Count++ },
		"Time":         func(s *api.State) { s.Time++ },
		"Deadline":     func(s *api.State) { s.Deadline = 0 },
		"From":         func(s *api.State) { s.From = 2 },
		"Signals":      func(s *api.State) { s.Signals = 0 },
		"Type":         func(s *api.State) { s.Type = "u" },
		"Input":        func(s *api.State) { s.Input = api.Value{} },
		"Input's text": func(s *api.State) { s.Input = listOf("other") },
		"Policy":       func(s *api.State) { s.Policy.Coef++ },
		"Task":         func(s *api.State) { s.Task = api.Task{} },
		"Task's Due":   func(s *api.State) { s.Task.Due++ },
		"Fresh":        func(s *api.State) { s.Fresh = !s.Fresh },
		"Cancel":       func(s *api.State) { s.Cancel = !s.Cancel },
		"Timers":       func(s *api.State) { s.Timers = nil },
		"Updates":      func(s *api.State) { s.Updates[0].Stage, s.Updates[0].Outcome = 1, api.Value{} },
	} {
		s := of(t, flow("a", three()...))
		s.setFlow("w/a", func(f *api.Flow) { change(&f.State) })
		s.says(why, "w/a", api.ErrEvent)
	}
	for why, h := range ends() {
		s := of(t, flow("a", h))
		s.says(why, "w/a", api.OK)
		s.setBranch("h/a/1", branch.Bytes(h[:len(h)-1]))
		s.says(why+", without its end", "w/a", api.ErrEvent)
		s.setBranch("h/a/1", branch.Bytes(append(slices.Clone(h[:len(h)-1]), api.Event{Kind: api.EvTerminated, Time: h[len(h)-1].Time, Name: "otherwise"})))
		s.says(why+", of another end", "w/a", api.ErrEvent)
	}
	s := of(t, flow("a", begun()))
	s.setFlow("w/a", func(f *api.Flow) { f.Table = nil }) // what has had its effect stands in no history
	s.says("another table", "w/a", api.OK)
}

// TestRunIsBuiltAsItself: the number of the run is part of its state.
func TestRunIsBuiltAsItself(t *testing.T) {
	l := three()
	s := of(t, flow("a", l...))
	s.setFlow("w/a", func(f *api.Flow) { f.Runs, f.State.Run = 2, 2 })
	s.drop("h/a/3")
	s.says("another number", "w/a", api.ErrEvent)
	s.setBranch("h/a/2", branch.Bytes(l[2]))
	s.says("the history too", "w/a", api.OK)
}

// TestEarlierRuns: each has come to an end, whichever; MaxRuns of them.
func TestEarlierRuns(t *testing.T) {
	var l [][]api.Event
	for _, h := range ends() {
		l = append(l, h, h)
	}
	of(t, flow("a", l...)).says("all ends", "w/a", api.OK)
	for run := 1; run <= 10; run++ {
		s := of(t, flow("a", l...))
		s.setBranch(names.Branch("a", run), branch.Bytes(begun()))
		s.says(fmt.Sprint("a running run ", run), "w/a", api.ErrEvent)
	}
}

// TestFirstOfAKey: of rows, and of branches, of one key the first one counts; keys need not rise.
func TestFirstOfAKey(t *testing.T) {
	s := of(t, flow("b", begun()), flow("a", three()...))
	slices.Reverse(s.Branches)
	s.says("keys that fall", "w/b", api.OK)
	s.Rows.Rows = append(s.Rows.Rows, api.Row{Key: "w/a", Bytes: []byte("no workflow")})
	s.branch("h/a/1", begun())
	s.says("second ones that are bad", "w/a", api.OK)
	slices.Reverse(s.Rows.Rows)
	s.says("a first row that is bad", "w/a", api.ErrForm)
	slices.Reverse(s.Rows.Rows)
	slices.Reverse(s.Branches)
	s.says("a first branch that is bad", "w/a", api.ErrEvent)
}

// TestAllTakesTheFirst: rows ahead of branches, each in order.
func TestAllTakesTheFirst(t *testing.T) {
	s := of(t, flow("a", begun()), flow("b", begun()), flow("c", three()...))
	s.allSays("as it should be", "", api.OK)
	s.branch("h/z/1", begun())
	s.allSays("a branch of no row", "h/z/1", api.ErrArg)
	s.setRow("w/c", nil)
	s.allSays("a later row", "w/c", api.ErrForm)
	s.setBranch("h/b/1", nil)
	s.allSays("a row", "w/b", api.ErrEvent)
	s.drop("h/a/1")
	s.allSays("the first row", "w/a", api.ErrForm)
	slices.Reverse(s.Rows.Rows)
	s.allSays("by order, not by key", "w/c", api.ErrForm)
	s.Rows.Rows = append([]api.Row{{Key: "x", Version: 1}}, s.Rows.Rows...)
	s.allSays("a row that is none", "x", api.ErrArg)
}

// TestBranches: which of them are no row's.
func TestBranches(t *testing.T) {
	for _, key := range []string{"", "h", "h/", "h/a", "h/a/", "h/a/0", "h/a/01", "h/a/+1", "h/a/11", "h/a/1/", "h/a/x", "h//1", "h/-/1", "w/a", "H/a/1", "a", "h/a/3", "h/a/10", "h/b/1", "h/aa/1", "h/" + strings.Repeat("n", 25) + "/1"} {
		for _, ahead := range []bool{false, true} {
			s := of(t, flow("a", ends()["failed"], begun()), flow("c", begun()))
			if ahead {
				s.Branches = slices.Insert(s.Branches, 0, api.Branch{Key: key})
				s.branch("bad", nil)
			} else {
				s.branch(key, nil)
			}
			s.allSays("a branch", key, api.ErrArg)
			for _, row := range []string{"w/a", "w/c"} {
				if e := Row(s.Rows, row); e != api.OK {
					t.Errorf("%q: Row(%q) = %d", key, row, e)
				}
			}
		}
	}
	s := of(t, flow("a", ends()["failed"], begun()))
	s.branch("h/a/2", begun())
	s.allSays("a branch twice", "", api.OK)
	s = of(t)
	s.branch("h/a/1", begun())
	s.allSays("branches without rows", "h/a/1", api.ErrArg)
}

// TestImage: the error of bytes that no rows are, else what All says.
func TestImage(t *testing.T) {
	s := of(t, flow("a", begun()))
	b := rows.Encode(s.Rows)
	for _, bad := range [][]byte{nil, {}, {0}, {255}, {0, 0, 0}, b[:len(b)-1], append(bytes.Clone(b), 0), []byte("rows")} {
		_, want := rows.Decode(bad)
		if key, e := Image(bad); key != "" || e != want || e == api.OK {
			t.Errorf("Image(%x) = %q, %d, not %d", bad, key, e, want)
		}
	}
	if key, e := Image([]byte{0, 0}); key != "" || e != api.OK {
		t.Error("of no rows:", key, e)
	}
	was := bytes.Clone(b)
	if key, e := Image(b); key != "" || e != api.OK || !bytes.Equal(b, was) {
		t.Error(key, e)
	}
	twice := of(t, flow("b", begun()), flow("a", begun()))
	if key, e := Image(rows.Encode(twice.Rows)); key != "" || e != api.ErrForm {
		t.Error("of keys that fall:", key, e)
	}
	s.Branches = nil
	if key, e := Image(rows.Encode(s.Rows)); key != "w/a" || e != api.ErrForm {
		t.Error("of a row without its branch:", key, e)
	}
}

// TestText: a line of each status, none of what is no workflow.
func TestText(t *testing.T) {
	if got := Text(api.Rows{}); got != "" {
		t.Errorf("of no row: %q", got)
	}
	l := ends()
	s := of(t, flow("z", begun()), flow("e.-_9", three()...), flow("b", l["completed"]), flow("c", l["failed"]), flow("d", l["canceled"]), flow("f", l["terminated"], l["terminated"]), flow("g", l["timedOut"]))
	s.Rows.Rows = slices.Insert(s.Rows.Rows, 1, api.Row{Key: "w/x"}, api.Row{Key: "w/y", Bytes: []byte("no workflow")})
	s.Branches = nil // a line hangs on the row alone
	want := "z 1 running 2\ne.-_9 3 running 10\nb 1 completed 5\nc 1 failed 5\nd 1 canceled 6\nf 2 terminated 3\ng 1 timedOut 2\n"
	before := fmt.Sprintf("%+v", s.Rows)
	if got := Text(s.Rows); got != want {
		t.Errorf("%q, not %q", got, want)
	}
	if fmt.Sprintf("%+v", s.Rows) != before {
		t.Error("what was handed in has changed")
	}
	s = of(t, flow("a", begun()))
	s.row("under another key", api.Flow{Name: "b", Runs: 10, State: api.State{Run: 10, Status: api.StTimedOut, Count: 120, Type: "t"}})
	if got := Text(s.Rows); got != "a 1 running 2\nb 10 timedOut 120\n" {
		t.Errorf("%q", got)
	}
}

// TestNumbers: rows of versions at the ends of the range of int, of which nothing here speaks.
func TestNumbers(t *testing.T) {
	for _, n := range []int{math.MinInt, -1, 0, 1 << 31, math.MaxInt} {
		s := of(t, flow("a", begun()))
		s.Rows.Rows[0].Version = n
		s.says("a version", "w/a", api.OK)
	}
}

// TestTrouble: as an error it says where it is, and which.
func TestTrouble(t *testing.T) {
	var e error = trouble{"w/a", api.ErrForm}
	if e.Error() != "w/a: 3" {
		t.Error(e.Error())
	}
	if key, code := told(e); key != "w/a" || code != api.ErrForm {
		t.Error(key, code)
	}
	if key, code := told(nil); key != "" || code != api.OK {
		t.Error(key, code)
	}
}
