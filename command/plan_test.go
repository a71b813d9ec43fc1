package command

import (
	"fmt"
	"math"
	"math/rand"
	"reflect"
	"slices"
	"testing"

	"usher/api"
	"usher/state"
)

const now = 200 // the time at which the usual state's task was done

// usual gives a state behind EvDone, with two timers, an update that was accepted and one that has its outcome.
func usual() api.State {
	return api.State{
		Run: 3, Status: api.StRunning, Count: 20, Time: 100, Deadline: 500, From: 2, Signals: 4,
		Type: "t", Input: listOf("in"), Policy: api.Policy{First: 10, Coef: 1 << 62, Most: 350},
		Timers:  []api.Timer{{Name: "b", Due: 90}, {Name: "d", Due: 301}},
		Updates: []api.Update{{Name: "u", Value: listOf("u"), Stage: 1}, {Name: "w", Value: listOf("w"), Stage: 2, Outcome: listOf("done")}},
	}
}

// of gives the usual state, changed.
func of(changes ...func(s *api.State)) api.State {
	s := usual()
	for _, c := range changes {
		c(&s)
	}
	return s
}

func fresh(s *api.State)    { s.Fresh = true }
func canceled(s *api.State) { s.Cancel = true }

func counted(n int) func(s *api.State) {
	return func(s *api.State) { s.Count = n }
}

// waiting gives updates that wait: of x there are two, and one is named as the state's.
func waiting() []api.Ask {
	return []api.Ask{{Op: 7, Name: "x", Value: listOf("first")}, {Op: 8, Name: "y", Value: listOf("y")}, {Op: 9, Name: "x", Value: listOf("second")}, {Op: 10, Name: "u", Value: listOf("again")}, {Op: 11, Name: "w"}, {Op: 12, Name: "z"}}
}

// commandOf gives a command of that kind and name, with what it has beside.
func commandOf(kind int, name string) api.Command {
	c := full(kind)
	c.Name = name
	return c
}

func timer(name string) api.Command    { return commandOf(api.CmTimer, name) }
func timerOff(name string) api.Command { return commandOf(api.CmTimerOff, name) }
func marker() api.Command              { return full(api.CmMarker) }
func accept(name string) api.Command   { return commandOf(api.CmAccept, name) }
func reject(name string) api.Command   { return commandOf(api.CmReject, name) }
func outcome(name string) api.Command  { return commandOf(api.CmOutcome, name) }
func complete() api.Command            { return full(api.CmComplete) }
func fail(why string) api.Command      { return commandOf(api.CmFail, why) }
func cancel() api.Command              { return full(api.CmCancel) }

func set(name string) api.Event {
	return api.Event{Kind: api.EvTimer, Time: now, Name: name, Due: now + 3}
}

func unset(name string) api.Event {
	return api.Event{Kind: api.EvTimerOff, Time: now, Name: name}
}

func marked() api.Event {
	return api.Event{Kind: api.EvMarker, Time: now, Value: listOf("v")}
}

func accepted(name string, v api.Value) api.Event {
	return api.Event{Kind: api.EvAccepted, Time: now, Name: name, Value: v}
}

func outcomeOf(name string) api.Event {
	return api.Event{Kind: api.EvOutcome, Time: now, Name: name, Value: listOf("v")}
}

func completed() api.Event {
	return api.Event{Kind: api.EvCompleted, Time: now, Value: listOf("v")}
}

func failed(why string) api.Event {
	return api.Event{Kind: api.EvFailed, Time: now, Name: why}
}

func isCanceled() api.Event {
	return api.Event{Kind: api.EvCanceled, Time: now}
}

func refused(names ...string) []api.Ask {
	var out []api.Ask
	for _, n := range names {
		out = append(out, api.Ask{Name: n, Value: listOf("v")})
	}
	return out
}

func commands(l ...api.Command) []api.Command { return l }
func events(l ...api.Event) []api.Event       { return l }

// comes complains unless Plan tells these events and refusals.
func comes(t *testing.T, why string, s api.State, l []api.Command, want []api.Event, no []api.Ask) {
	t.Helper()
	got, asks, e := Plan(s, waiting(), l, now)
	if e != api.OK {
		t.Errorf("%s: %d", why, e)
	}
	if !slices.EqualFunc(got, want, func(a, b api.Event) bool { return reflect.DeepEqual(a, b) }) {
		t.Errorf("%s: the events\n%+v, not\n%+v", why, got, want)
	}
	if !slices.EqualFunc(asks, no, func(a, b api.Ask) bool { return reflect.DeepEqual(a, b) }) {
		t.Errorf("%s: refused are\n%+v, not\n%+v", why, asks, no)
	}
}

// stops complains unless Plan tells that error, and nothing else.
func stops(t *testing.T, why string, s api.State, l []api.Command, code api.Errno) {
	t.Helper()
	stopsAt(t, why, s, waiting(), l, now, code)
}

func stopsAt(t *testing.T, why string, s api.State, asks []api.Ask, l []api.Command, at int, code api.Errno) {
	t.Helper()
	got, no, e := Plan(s, asks, l, at)
	if e != code || len(got) != 0 || len(no) != 0 {
		t.Errorf("%s: %v, %v, %d, not %d", why, got, no, e, code)
	}
}

func TestEachKindAlone(t *testing.T) {
	comes(t, "nothing", usual(), nil, nil, nil)
	comes(t, "an empty list", usual(), commands(), nil, nil)
	comes(t, "CmTimer", usual(), commands(timer("a")), events(set("a")), nil)
	comes(t, "CmTimerOff", usual(), commands(timerOff("b")), events(unset("b")), nil)
	comes(t, "CmMarker", usual(), commands(marker()), events(marked()), nil)
	comes(t, "CmAccept", usual(), commands(accept("y")), events(accepted("y", listOf("y"))), nil)
	comes(t, "CmReject", usual(), commands(reject("y")), nil, refused("y"))
	comes(t, "CmOutcome", usual(), commands(outcome("u")), events(outcomeOf("u")), nil)
	comes(t, "CmComplete", usual(), commands(complete()), events(completed()), nil)
	comes(t, "CmFail", usual(), commands(fail("why? \xff")), events(failed("why? \xff")), nil)
	comes(t, "CmFail of no text", usual(), commands(fail("")), events(failed("")), nil)
	comes(t, "CmFail of 200", usual(), commands(fail(long(200))), events(failed(long(200))), nil)
	comes(t, "CmCancel", of(canceled), commands(cancel()), events(isCanceled()), nil)
}

func TestZeroValues(t *testing.T) {
	comes(t, "CmMarker", usual(), commands(api.Command{Kind: api.CmMarker}), events(api.Event{Kind: api.EvMarker, Time: now}), nil)
	comes(t, "CmComplete", usual(), commands(api.Command{Kind: api.CmComplete}), events(api.Event{Kind: api.EvCompleted, Time: now}), nil)
	comes(t, "CmOutcome", usual(), commands(api.Command{Kind: api.CmOutcome, Name: "u"}), events(api.Event{Kind: api.EvOutcome, Time: now, Name: "u"}), nil)
	comes(t, "CmReject", usual(), commands(api.Command{Kind: api.CmReject, Name: "y"}), nil, []api.Ask{{Name: "y"}})
	comes(t, "CmAccept of nothing said", usual(), commands(accept("z")), events(accepted("z", api.Value{})), nil)
	comes(t, "a Delay of 0", usual(), commands(api.Command{Kind: api.CmTimer, Name: "a"}), events(api.Event{Kind: api.EvTimer, Time: now, Name: "a", Due: now}), nil)
	comes(t, "the longest Delay", usual(), commands(api.Command{Kind: api.CmTimer, Name: "a", Delay: 1 << 30}), events(api.Event{Kind: api.EvTimer, Time: now, Name: "a", Due: now + 1<<30}), nil)
}

// TestInOrder: events and refusals stand in the order of their commands, each behind what those ahead made.
func TestInOrder(t *testing.T) {
	comes(t, "many", usual(),
		commands(marker(), reject("z"), timerOff("d"), accept("x"), timer("d"), reject("y"), outcome("x"), outcome("u"), timerOff("d"), timer("d"), fail("f")),
		events(marked(), unset("d"), accepted("x", listOf("first")), set("d"), outcomeOf("x"), outcomeOf("u"), unset("d"), set("d"), failed("f")),
		refused("z", "y"))
}

// TestTheExample is the document's.
func TestTheExample(t *testing.T) {
	stops(t, "a timer, and an end, with something fresh", of(fresh), commands(timer("a"), complete()), api.ErrUnseen)
	comes(t, "with nothing fresh", usual(), commands(timer("a"), complete()), events(set("a"), completed()), nil)
}

func TestHowMany(t *testing.T) {
	for n := range 16 {
		l, want := slices.Repeat(commands(marker()), n), slices.Repeat(events(marked()), n)
		if n <= 12 {
			comes(t, fmt.Sprint(n), usual(), l, want, nil)
		} else {
			stops(t, fmt.Sprint(n), usual(), l, api.ErrLong)
		}
	}
	// Too many are refused whatever they are, those that come to no event too.
	stops(t, "13 that may not be", usual(), make([]api.Command, 13), api.ErrLong)
	stops(t, "13, of which the first one ends the run", of(fresh), append(commands(complete()), slices.Repeat(commands(marker()), 12)...), api.ErrLong)
	stops(t, "13 in a full history", of(counted(120)), slices.Repeat(commands(marker()), 13), api.ErrLong)
	stops(t, "12 that may not be", usual(), make([]api.Command, 12), api.ErrCommand)
	stops(t, "many", usual(), slices.Repeat(commands(marker()), 1000), api.ErrLong)
	comes(t, "12, the last one ends the run", usual(), append(slices.Repeat(commands(marker()), 11), complete()), append(slices.Repeat(events(marked()), 11), completed()), nil)
}

func TestCommandsThatMayNotBe(t *testing.T) {
	_, bad := values()
	wrong := commands(api.Command{}, full(-1), full(10), full(math.MinInt), full(math.MaxInt), timer(""), timer("a b"), timerOff(".b"), accept(""), reject(""), outcome(""),
		fail(long(201)),
		api.Command{Kind: api.CmTimer, Name: "a", Delay: -1}, api.Command{Kind: api.CmTimer, Name: "a", Delay: 1<<30 + 1}, api.Command{Kind: api.CmTimer, Name: "a", Delay: math.MaxInt},
		api.Command{Kind: api.CmTimerOff, Name: "b", Delay: 1}, api.Command{Kind: api.CmAccept, Name: "y", Value: text("a")}, api.Command{Kind: api.CmCancel, Name: "a"},
		api.Command{Kind: api.CmReject, Name: "y", Delay: 1})
	for _, v := range bad {
		wrong = append(wrong, api.Command{Kind: api.CmMarker, Value: v}, api.Command{Kind: api.CmReject, Name: "y", Value: v}, api.Command{Kind: api.CmComplete, Value: v}, api.Command{Kind: api.CmOutcome, Name: "u", Value: v})
	}
	for _, c := range wrong {
		for n := range 3 {
			l := append(slices.Repeat(commands(marker()), n), c)
			stops(t, fmt.Sprint(c, " behind ", n), of(canceled), l, api.ErrCommand)
			stops(t, fmt.Sprint(c, " in the middle"), of(canceled), append(l, marker()), api.ErrCommand)
			// Whether a command may be is asked ahead of what stands against its event.
			stops(t, fmt.Sprint(c, " in a full history"), of(canceled, fresh, counted(120+n)), commands(c), api.ErrCommand)
		}
	}
}

func TestTheFirstErrorIsTold(t *testing.T) {
	s := of(func(s *api.State) { s.Timers = timersOf("abcdefghij") })
	full, bad := timer("k"), timer("")
	stops(t, "no room, then what may not be", s, commands(full, bad), api.ErrFull)
	stops(t, "what may not be, then no room", s, commands(bad, full), api.ErrCommand)
	stops(t, "no room, then an end with something fresh", of(fresh, func(s *api.State) { s.Timers = timersOf("abcdefghij") }), commands(full, complete()), api.ErrFull)
	stops(t, "an end that is not the last one, then no room", s, commands(complete(), full), api.ErrCommand)
	stops(t, "good, no room, bad", s, commands(marker(), full, bad), api.ErrFull)
	stops(t, "good, bad, no room", s, commands(marker(), bad, full), api.ErrCommand)
	stops(t, "none such, then fresh", of(fresh), commands(timerOff("z"), complete()), api.ErrCommand)
}

func TestEnds(t *testing.T) {
	ends := map[string]api.Command{"CmComplete": complete(), "CmFail": fail("f"), "CmCancel": cancel()}
	for why, c := range ends {
		stops(t, why+" ahead of another one", of(canceled), commands(c, marker()), api.ErrCommand)
		stops(t, why+" ahead of a refusal", of(canceled), commands(c, reject("y")), api.ErrCommand)
		stops(t, why+" ahead of itself", of(canceled), commands(c, c), api.ErrCommand)
		stops(t, why+" in the middle", of(canceled), commands(marker(), c, marker()), api.ErrCommand)
		stops(t, why+" with something fresh", of(canceled, fresh), commands(c), api.ErrUnseen)
		stops(t, why+" with something fresh, behind others", of(canceled, fresh), commands(marker(), reject("y"), c), api.ErrUnseen)
		stops(t, why+" ahead of another one, with something fresh", of(canceled, fresh), commands(c, marker()), api.ErrCommand)
		stops(t, why+" that may not be, with something fresh", of(canceled, fresh), commands(api.Command{Kind: c.Kind, Delay: 1}), api.ErrCommand)
		stops(t, why+" with something fresh, and no room", of(canceled, fresh, counted(120)), commands(c), api.ErrUnseen)
		stops(t, why+" without room", of(canceled, counted(120)), commands(c), api.ErrFull)
		stops(t, why+" with a task that waits", of(canceled, func(s *api.State) { s.Task = api.Task{State: api.TaskWaits, Attempt: 1} }), commands(c), api.ErrCommand)
		stops(t, why+" with a task that is taken", of(canceled, func(s *api.State) { s.Task = api.Task{State: api.TaskTaken, Attempt: 1, Event: 19, Seen: 19} }), commands(c), api.ErrCommand)
	}
	stops(t, "CmCancel of a run that nobody asked to", usual(), commands(cancel()), api.ErrCommand)
	stops(t, "CmCancel of such a run, with something fresh", of(fresh), commands(cancel()), api.ErrUnseen)
	// What is fresh stops no other command.
	comes(t, "others with something fresh", of(fresh), commands(marker(), timer("a"), accept("y"), reject("z")), events(marked(), set("a"), accepted("y", listOf("y"))), refused("z"))
}

func timersOf(names string) (l []api.Timer) {
	for _, c := range names {
		l = append(l, api.Timer{Name: string(c), Due: 300})
	}
	return l
}

func updatesOf(names string) (l []api.Update) {
	for _, c := range names {
		l = append(l, api.Update{Name: string(c), Stage: 1})
	}
	return l
}

func TestTimers(t *testing.T) {
	all := "abcdefghijklm"
	for had := range 11 {
		s := of(func(s *api.State) { s.Timers = timersOf(all[:had]) })
		var l []api.Command
		var want []api.Event
		for _, c := range all[had:10] {
			l, want = append(l, timer(string(c))), append(want, set(string(c)))
		}
		comes(t, fmt.Sprint("up to 10, of ", had), s, l, want, nil)
		stops(t, fmt.Sprint("11, of ", had), s, append(l, timer("k")), api.ErrFull)
		if had > 0 {
			stops(t, "one more of a name that is there", s, append(slices.Clone(l), timer("a")), api.ErrCommand)
			comes(t, "one more, in the place of another one", s, append(slices.Clone(l), timerOff("a"), timer("k")), append(slices.Clone(want), unset("a"), set("k")), nil)
		}
	}
	stops(t, "a timer that is there", usual(), commands(timer("b")), api.ErrCommand)
	stops(t, "a timer twice", usual(), commands(timer("a"), timer("a")), api.ErrCommand)
	stops(t, "no such timer", usual(), commands(timerOff("a")), api.ErrCommand)
	stops(t, "a timer taken back twice", usual(), commands(timerOff("b"), timerOff("b")), api.ErrCommand)
	stops(t, "an update is no timer", usual(), commands(timerOff("u")), api.ErrCommand)
	comes(t, "set, taken back, set", usual(), commands(timer("a"), timerOff("a"), timer("a")), events(set("a"), unset("a"), set("a")), nil)
}

func TestUpdates(t *testing.T) {
	all := "abcdefghijklm"
	var asks []api.Ask
	for _, c := range all {
		asks = append(asks, api.Ask{Name: string(c), Value: text(string(c))})
	}
	for had := range 11 {
		s := of(func(s *api.State) { s.Updates = updatesOf(all[:had]) })
		var l []api.Command
		for _, c := range all[had:10] {
			l = append(l, accept(string(c)))
		}
		got, no, e := Plan(s, asks, l, now)
		if e != api.OK || len(no) != 0 || len(got) != 10-had {
			t.Fatalf("up to 10, of %d: %v, %v, %d", had, got, no, e)
		}
		for i, x := range got {
			if name := all[had+i : had+i+1]; !reflect.DeepEqual(x, accepted(name, text(name))) {
				t.Errorf("%d of %d: %+v", i, had, x)
			}
		}
		stopsAt(t, fmt.Sprint("11, of ", had), s, asks, append(slices.Clone(l), accept("k")), now, api.ErrFull)
		if had > 0 {
			stopsAt(t, "one more of a name that is there", s, asks, append(slices.Clone(l), accept("a")), now, api.ErrCommand)
		}
		// A refusal needs no room.
		if _, no, e := Plan(s, asks, append(slices.Clone(l), reject("k")), now); e != api.OK || !reflect.DeepEqual(no, refused("k")) {
			t.Errorf("a refusal beside 10: %v, %d", no, e)
		}
	}
}

func TestAccept(t *testing.T) {
	comes(t, "of two the first one", usual(), commands(accept("x")), events(accepted("x", listOf("first"))), nil)
	stops(t, "none that waits", usual(), commands(accept("v")), api.ErrCommand)
	stops(t, "a beginning of a name", usual(), commands(accept("xx")), api.ErrCommand)
	stopsAt(t, "none waits", usual(), nil, commands(accept("x")), now, api.ErrCommand)
	stopsAt(t, "none waits", usual(), []api.Ask{}, commands(accept("x")), now, api.ErrCommand)
	stops(t, "twice", usual(), commands(accept("x"), accept("x")), api.ErrCommand)
	stops(t, "refused ahead", usual(), commands(reject("x"), accept("x")), api.ErrCommand)
	stops(t, "refused ahead, others between", usual(), commands(reject("x"), reject("y"), marker(), accept("x")), api.ErrCommand)
	stops(t, "one that the state has", usual(), commands(accept("u")), api.ErrCommand)
	stops(t, "one that the state has with its outcome", usual(), commands(accept("w")), api.ErrCommand)
	stops(t, "accepted ahead, with its outcome", usual(), commands(accept("x"), outcome("x"), accept("x")), api.ErrCommand)
	comes(t, "another one was refused", usual(), commands(reject("y"), accept("x")), events(accepted("x", listOf("first"))), refused("y"))
	comes(t, "another one was accepted", usual(), commands(accept("y"), accept("x")), events(accepted("y", listOf("y")), accepted("x", listOf("first"))), nil)
	// One that the state has can't be accepted, whether it waits or not.
	stopsAt(t, "one that the state has, and that does not wait", usual(), nil, commands(accept("u")), now, api.ErrCommand)
}

func TestReject(t *testing.T) {
	comes(t, "of two", usual(), commands(reject("x")), nil, refused("x"))
	stops(t, "none that waits", usual(), commands(reject("v")), api.ErrCommand)
	stopsAt(t, "none waits", usual(), nil, commands(reject("x")), now, api.ErrCommand)
	stops(t, "twice", usual(), commands(reject("x"), reject("x")), api.ErrCommand)
	stops(t, "twice, others between", usual(), commands(reject("x"), marker(), reject("y"), reject("x")), api.ErrCommand)
	stops(t, "accepted ahead", usual(), commands(accept("x"), reject("x")), api.ErrCommand)
	stops(t, "accepted ahead, with its outcome", usual(), commands(accept("x"), outcome("x"), reject("x")), api.ErrCommand)
	stops(t, "one that the state has", usual(), commands(reject("u")), api.ErrCommand)
	stops(t, "one that the state has with its outcome", usual(), commands(reject("w")), api.ErrCommand)
	comes(t, "two", usual(), commands(reject("y"), reject("x")), nil, refused("y", "x"))
	comes(t, "each with its own value", usual(), commands(api.Command{Kind: api.CmReject, Name: "y", Value: text("1")}, api.Command{Kind: api.CmReject, Name: "x", Value: text("2")}), nil, []api.Ask{{Name: "y", Value: text("1")}, {Name: "x", Value: text("2")}})
	comes(t, "then the run ends", usual(), commands(reject("y"), complete()), events(completed()), refused("y"))
}

func TestOutcome(t *testing.T) {
	comes(t, "of one accepted ahead", usual(), commands(accept("x"), outcome("x")), events(accepted("x", listOf("first")), outcomeOf("x")), nil)
	stops(t, "of none", usual(), commands(outcome("v")), api.ErrCommand)
	stops(t, "of one that waits", usual(), commands(outcome("x")), api.ErrCommand)
	stops(t, "of one that has it", usual(), commands(outcome("w")), api.ErrCommand)
	stops(t, "twice", usual(), commands(outcome("u"), outcome("u")), api.ErrCommand)
	stops(t, "of one refused ahead", usual(), commands(reject("x"), outcome("x")), api.ErrCommand)
	stops(t, "ahead of being accepted", usual(), commands(outcome("x"), accept("x")), api.ErrCommand)
}

func TestFullHistory(t *testing.T) {
	for n, left := range map[int]int{108: 12, 109: 11, 118: 2, 119: 1, 120: 0, 121: 0, math.MaxInt: 0} {
		for many := range 13 {
			l := slices.Repeat(commands(marker()), many)
			if many <= left {
				comes(t, fmt.Sprint(many, " behind ", n), of(counted(n)), l, slices.Repeat(events(marked()), many), nil)
			} else {
				stops(t, fmt.Sprint(many, " behind ", n), of(counted(n)), l, api.ErrFull)
			}
		}
		// A refusal is no event.
		comes(t, "a refusal", of(counted(n)), commands(reject("x"), reject("y")), nil, refused("x", "y"))
	}
	// Of a full history that is told first, as state.Step does.
	stops(t, "none such", of(counted(120)), commands(timerOff("z")), api.ErrFull)
	stops(t, "an update that the state has", of(counted(120)), commands(accept("u")), api.ErrFull)
	stops(t, "an update that does not wait", of(counted(120)), commands(accept("v")), api.ErrCommand)
	stops(t, "a refusal of what the state has", of(counted(120)), commands(reject("u")), api.ErrCommand)
}

func TestTimes(t *testing.T) {
	each := map[string]api.Command{
		"CmTimer": timer("a"), "CmTimerOff": timerOff("b"), "CmMarker": marker(), "CmAccept": accept("y"),
		"CmOutcome": outcome("u"), "CmComplete": complete(), "CmFail": fail("f"), "CmCancel": cancel(),
	}
	for why, c := range each {
		for _, at := range []int{100, 101, 1<<40 - 1, 1 << 40} {
			got, _, e := Plan(of(canceled), waiting(), commands(c), at)
			if e != api.OK || len(got) != 1 || got[0].Time != at {
				t.Errorf("%s at %d: %v, %d", why, at, got, e)
			}
			if e == api.OK && c.Kind == api.CmTimer && got[0].Due != at+3 {
				t.Errorf("%s at %d: Due %d", why, at, got[0].Due)
			}
		}
		for _, at := range []int{math.MinInt, -1, 0, 99, 1<<40 + 1, 1 << 41, math.MaxInt - 3, math.MaxInt} {
			stopsAt(t, fmt.Sprint(why, " at ", at), of(canceled), waiting(), commands(c), at, api.ErrCommand)
		}
	}
	for _, at := range []int{math.MinInt, -1, 0, 99, 1<<40 + 1, math.MaxInt} { // no event, no time
		if l, no, e := Plan(usual(), waiting(), commands(reject("y")), at); e != api.OK || len(l) != 0 || !reflect.DeepEqual(no, refused("y")) {
			t.Errorf("a refusal at %d: %v, %v, %d", at, l, no, e)
		}
	}
	// The latest time, and the longest delay.
	c := api.Command{Kind: api.CmTimer, Name: "a", Delay: 1 << 30}
	if l, _, e := Plan(usual(), nil, commands(c), 1<<40); e != api.OK || l[0].Due != 1<<40+1<<30 {
		t.Error(l, e)
	}
}

func TestStatesThatAreNotRunning(t *testing.T) {
	for status := -1; status <= 8; status++ {
		s := of(canceled, func(s *api.State) { s.Status = status })
		for kind := 1; kind <= 9; kind++ {
			name := map[int]string{1: "a", 2: "b", 4: "y", 5: "y", 6: "u"}[kind]
			c := full(kind)
			if name != "" {
				c.Name = name
			}
			if status == api.StRunning || kind == api.CmReject {
				if _, _, e := Plan(s, waiting(), commands(c), now); e != api.OK {
					t.Errorf("Status %d, kind %d: %d", status, kind, e)
				}
			} else {
				stops(t, fmt.Sprint("Status ", status, " kind ", kind), s, commands(c), api.ErrCommand)
			}
		}
	}
	for kind := 1; kind <= 9; kind++ {
		if kind != api.CmReject {
			stops(t, fmt.Sprint("the zero state, kind ", kind), api.State{}, commands(commandOf(kind, full(kind).Name)), api.ErrCommand)
		}
	}
	comes(t, "the zero state, and nothing", api.State{}, nil, nil, nil)
	comes(t, "the zero state, and a refusal", api.State{}, commands(reject("y")), nil, refused("y"))
}

// TestAsksThatMayNotBe: what an update says becomes an event's, if it may be; a refusal does not look at it.
func TestAsksThatMayNotBe(t *testing.T) {
	good, bad := values()
	for i, v := range append(good, bad...) {
		asks := []api.Ask{{Name: "x", Value: v}, {Name: "x"}}
		if i >= len(good) {
			stopsAt(t, fmt.Sprint(v), usual(), asks, commands(accept("x")), now, api.ErrCommand)
		} else if l, no, e := Plan(usual(), asks, commands(accept("x")), now); e != api.OK || len(no) != 0 || len(l) != 1 || !reflect.DeepEqual(l[0], accepted("x", v)) {
			t.Errorf("%v: %v, %v, %d", v, l, no, e)
		}
		if _, no, e := Plan(usual(), asks, commands(reject("x")), now); e != api.OK || !reflect.DeepEqual(no, refused("x")) {
			t.Errorf("%v, refused: %v, %d", v, no, e)
		}
	}
	// A list within itself is refused, and ends.
	loop := []api.Value{{Kind: api.VList}}
	loop[0].List = loop
	stopsAt(t, "a list within itself", usual(), []api.Ask{{Name: "x", Value: loop[0]}}, commands(accept("x")), now, api.ErrCommand)
	stops(t, "a list within itself", usual(), commands(api.Command{Kind: api.CmMarker, Value: loop[0]}), api.ErrCommand)
	// Names that are none are asked for by no command.
	stopsAt(t, "no name", usual(), []api.Ask{{Name: ""}, {Name: "a b"}}, commands(accept("a b")), now, api.ErrCommand)
}

// all gives commands of every kind that may come in the usual state, and end it.
func all() []api.Command {
	return commands(marker(), timer("a"), timerOff("b"), accept("x"), reject("y"), outcome("x"), accept("z"), outcome("u"), complete())
}

func spoilValue(v api.Value) {
	l := v.List[:cap(v.List)]
	for i := range l {
		l[i].Text = "spoilt"
	}
}

func spoilEvents(l []api.Event) {
	for i := range l {
		spoilValue(l[i].Value)
	}
	clear(l[:cap(l)])
}

func spoilAsks(l []api.Ask) {
	for i := range l {
		spoilValue(l[i].Value)
	}
	clear(l[:cap(l)])
}

func spoilCommands(l []api.Command) {
	for i := range l {
		spoilValue(l[i].Value)
	}
	clear(l[:cap(l)])
}

func TestPlanIsNewMemory(t *testing.T) {
	want, no, e := Plan(usual(), waiting(), all(), now)
	if e != api.OK || len(want) != 8 || len(no) != 1 {
		t.Fatal(want, no, e)
	}
	s, asks, l := usual(), waiting(), all()
	got, refused, _ := Plan(s, asks, l, now)
	spoilEvents(got)
	spoilAsks(refused)
	if !reflect.DeepEqual(s, usual()) || !reflect.DeepEqual(asks, waiting()) || !reflect.DeepEqual(l, all()) {
		t.Error("what was handed in changed with what was told")
	}
	got, refused, _ = Plan(s, asks, l, now)
	spoilAsks(asks)
	spoilCommands(l)
	spoilValue(s.Input)
	if !reflect.DeepEqual(got, want) || !reflect.DeepEqual(refused, no) {
		t.Error("what was told changed with what was handed in")
	}
	// One value in two commands, and in two asks, becomes two.
	v := listOf("v")
	two, no2, _ := Plan(usual(), []api.Ask{{Name: "x", Value: v}, {Name: "y", Value: v}, {Name: "z", Value: v}}, commands(api.Command{Kind: api.CmMarker, Value: v}, accept("x"), accept("y"), api.Command{Kind: api.CmReject, Name: "z", Value: v}), now)
	spoilValue(two[0].Value)
	spoilValue(two[1].Value)
	spoilValue(no2[0].Value)
	if !reflect.DeepEqual(two[2].Value, listOf("v")) {
		t.Error("two events share a value")
	}
}

// TestRefusedPlansChangeNothing also hands in lists with room behind them.
func TestRefusedPlansChangeNothing(t *testing.T) {
	for _, c := range commands(timer("d"), accept("v"), reject("x"), complete(), api.Command{}) {
		s, asks := of(fresh), append(make([]api.Ask, 0, 32), waiting()...)
		l := append(make([]api.Command, 0, 32), marker(), timer("a"), accept("x"), c)
		want := slices.Clone(l)
		if _, _, e := Plan(s, asks, l, now); e == api.OK {
			t.Errorf("%v: OK", c)
		}
		if !reflect.DeepEqual(s, of(fresh)) || !reflect.DeepEqual(asks, waiting()) || !reflect.DeepEqual(l, want) || !reflect.DeepEqual(asks[:32][6:], make([]api.Ask, 26)) {
			t.Errorf("%v: what was handed in has changed", c)
		}
	}
}

// anyCommand gives a command of few names, which more often than not may be.
func anyCommand(r *rand.Rand) api.Command {
	c := full(r.Intn(11))
	if r.Intn(4) > 0 {
		c = full(1 + r.Intn(6))
	}
	if c.Name != "" {
		c.Name = string("abcdefuwxyz"[r.Intn(11)])
	}
	if r.Intn(30) == 0 {
		c.Delay--
	}
	return c
}

func anyState(r *rand.Rand) api.State {
	s := of(counted(100 + r.Intn(21)))
	s.Fresh, s.Cancel = r.Intn(3) == 0, r.Intn(2) == 0
	s.Timers = timersOf("cdefghijkl"[:r.Intn(11)])
	s.Updates = updatesOf("klmnopqrst"[:r.Intn(11)])
	return s
}

// namesOf gives the names of the events of that kind.
func namesOf(l []api.Event, kind int) []string {
	var out []string
	for _, e := range l {
		if e.Kind == kind {
			out = append(out, e.Name)
		}
	}
	return out
}

// mayCome complains unless events may come one behind the other, all of one time, and no update that was accepted is refused.
func mayCome(t *testing.T, s api.State, l []api.Event, no []api.Ask) {
	t.Helper()
	for i, x := range l {
		next, e := state.Step(s, x)
		if e != api.OK || x.Time != now {
			t.Fatalf("event %d of %v: %d", i, l, e)
		}
		s = next
	}
	for _, a := range no {
		if _, ok := state.Update(s, a.Name); ok || slices.Contains(namesOf(l, api.EvAccepted), a.Name) || a.Op != 0 {
			t.Fatalf("%v is refused, of %v", a, l)
		}
	}
}

// TestAnyCommands: what comes of commands may come; without its last command a plan is a beginning; an error is that of the first beginning that has one.
func TestAnyCommands(t *testing.T) {
	r := rand.New(rand.NewSource(21))
	seen := map[api.Errno]int{}
	for range 20000 {
		s := anyState(r)
		var l []api.Command
		for range r.Intn(14) {
			l = append(l, anyCommand(r))
		}
		got, no, e := Plan(s, waiting(), l, now)
		seen[e]++
		mayCome(t, s, got, no)
		switch {
		case e == api.ErrLong && len(l) <= 12 || e != api.ErrLong && len(l) > 12:
			t.Fatal(len(l), e)
		case e != api.OK && (len(got) > 0 || len(no) > 0):
			t.Fatal(got, no, e)
		case e == api.OK:
			beginning(t, s, l, got, no)
		case e != api.ErrLong:
			firstError(t, s, l, e)
		}
		again, no2, e2 := Plan(s, waiting(), l, now)
		if !reflect.DeepEqual(again, got) || !reflect.DeepEqual(no2, no) || e2 != e {
			t.Fatal("another answer")
		}
	}
	for _, e := range []api.Errno{api.OK, api.ErrLong, api.ErrFull, api.ErrUnseen, api.ErrCommand} {
		if seen[e] < 20 {
			t.Errorf("%d was told %d times", e, seen[e])
		}
	}
}

// beginning holds a plan against that of one command less.
func beginning(t *testing.T, s api.State, l []api.Command, got []api.Event, no []api.Ask) {
	t.Helper()
	if len(l) == 0 {
		return
	}
	last := l[len(l)-1]
	less, noLess, e := Plan(s, waiting(), l[:len(l)-1], now)
	events, asks := 1, 0
	if last.Kind == api.CmReject {
		events, asks = 0, 1
	}
	if e != api.OK || len(less)+events != len(got) || len(noLess)+asks != len(no) {
		t.Fatalf("%v: %v, then %v", l, less, got)
	}
	if !slices.EqualFunc(less, got[:len(less)], func(a, b api.Event) bool { return reflect.DeepEqual(a, b) }) {
		t.Fatalf("%v: %v, then %v", l, less, got)
	}
}

// firstError holds an error against that of the shortest beginning that has one; an end within the list is one, too.
func firstError(t *testing.T, s api.State, l []api.Command, want api.Errno) {
	t.Helper()
	for n := range l {
		_, _, e := Plan(s, waiting(), l[:n+1], now)
		if e == api.OK && n+1 < len(l) && Closes(l[:n+1]) || e == api.ErrUnseen && n+1 < len(l) || e == api.ErrFull && Closes(l[:n+1]) && n+1 < len(l) {
			e = api.ErrCommand
		}
		if e != api.OK {
			if e != want {
				t.Fatalf("%v: %d, not %d", l, want, e)
			}
			return
		}
	}
	t.Fatalf("%v: %d, but no beginning has an error", l, want)
}
