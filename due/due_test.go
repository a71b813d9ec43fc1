package due

import (
	"fmt"
	"math"
	"math/rand"
	"reflect"
	"slices"
	"testing"

	"usher/api"
	"usher/floats"
	"usher/policy"
	"usher/state"
)

// The limits, as the document has them.
const (
	latest  = 1 << 40
	lastDue = 1 << 41
	lastTry = 1 << 31
)

// usual gives a state that can be, at 100, of which nothing is due ever.
func usual() api.State {
	return api.State{
		Run: 3, Status: api.StRunning, Count: 20, Time: 100, From: 2, Signals: 4, Type: "t",
		Policy:  api.Policy{First: 10, Coef: floats.Of(2), Most: 350},
		Cancel:  true,
		Updates: []api.Update{{Name: "u", Stage: 1}},
	}
}

// of gives the usual state, changed.
func of(changes ...func(s *api.State)) api.State {
	s := usual()
	for _, c := range changes {
		c(&s)
	}
	return s
}

func deadline(at int) func(s *api.State) {
	return func(s *api.State) { s.Deadline = at }
}

func taken(attempt, at int) func(s *api.State) {
	return func(s *api.State) {
		s.Task = api.Task{State: api.TaskTaken, Attempt: attempt, Due: at, Event: 18, Seen: 18}
	}
}

func waits(at int) func(s *api.State) {
	return func(s *api.State) { s.Task = api.Task{State: api.TaskWaits, Attempt: 1, Due: at} }
}

func timers(l ...api.Timer) func(s *api.State) {
	return func(s *api.State) { s.Timers = l }
}

func timer(name string, at int) api.Timer {
	return api.Timer{Name: name, Due: at}
}

func fresh(s *api.State) { s.Fresh = true }

func status(n int) func(s *api.State) {
	return func(s *api.State) { s.Status = n }
}

func time(n int) func(s *api.State) {
	return func(s *api.State) { s.Time = n }
}

// timed is what comes of a task that is late at t: another attempt, behind a delay.
func timed(t, num, delay int) []api.Event {
	return []api.Event{{Kind: api.EvTaskTimed, Time: t}, {Kind: api.EvScheduled, Time: t, Num: num, Due: t + delay}}
}

// fired are timers that go off at t, each of a name of one letter.
func fired(t int, names string) []api.Event {
	var l []api.Event
	for _, n := range names {
		l = append(l, api.Event{Kind: api.EvFired, Time: t, Name: string(n)})
	}
	return l
}

func scheduled(t int) []api.Event {
	return []api.Event{{Kind: api.EvScheduled, Time: t, Num: 1, Due: t}}
}

func timedOut(t int) []api.Event {
	return []api.Event{{Kind: api.EvTimedOut, Time: t}}
}

// asked is a state, a time, and what is due then.
type asked struct {
	why  string
	s    api.State
	now  int
	want []api.Event
}

func askAll(t *testing.T, l []asked) {
	t.Helper()
	for _, c := range l {
		ahead := state.Clone(c.s)
		got := At(c.s, c.now)
		if len(got) != len(c.want) || len(got) > 0 && !reflect.DeepEqual(got, c.want) {
			t.Errorf("%s, at %d:\n%+v, not\n%+v", c.why, c.now, got, c.want)
		}
		if !reflect.DeepEqual(c.s, ahead) {
			t.Errorf("%s: the state that was handed in has changed", c.why)
		}
	}
}

func TestTime(t *testing.T) {
	for _, c := range []struct{ time, now, want int }{
		{0, math.MinInt, 0}, {0, -1, 0}, {0, 0, 0}, {0, 1, 1},
		{100, math.MinInt, 100}, {100, -1, 100}, {100, 0, 100}, {100, 99, 100}, {100, 100, 100}, {100, 101, 101},
		{100, latest - 1, latest - 1}, {100, latest, latest}, {100, latest + 1, latest}, {100, math.MaxInt, latest},
		{latest, 0, latest}, {latest, latest, latest}, {latest, math.MaxInt, latest},
		// States that can't be: Time is at least theirs, whatever that is.
		{latest + 5, 0, latest + 5}, {latest + 5, latest + 9, latest + 5}, {math.MaxInt, math.MaxInt, math.MaxInt},
		{-5, 3, 3}, {-5, -3, -3}, {-5, -9, -5}, {math.MinInt, math.MinInt, math.MinInt}, {math.MinInt, math.MaxInt, latest},
	} {
		for n := -1; n <= 7; n++ {
			if got := Time(of(status(n), time(c.time)), c.now); got != c.want {
				t.Errorf("Time %d, now %d: %d, not %d", c.time, c.now, got, c.want)
			}
		}
	}
	if Time(api.State{}, -1) != 0 || Time(api.State{}, 7) != 7 || Time(api.State{}, latest+1) != latest {
		t.Error("of the zero state")
	}
}

func TestEachStatus(t *testing.T) {
	for n := -1; n <= 7; n++ {
		for why, change := range map[string]func(s *api.State){
			"a deadline": deadline(100), "a task": taken(1, 100), "a timer": timers(timer("a", 100)), "Fresh": fresh,
		} {
			s := of(change, status(n))
			at, ok := Next(s)
			if n == api.StRunning {
				if len(At(s, 100)) == 0 || at != 100 || !ok {
					t.Errorf("%s of one that is running: %v, %d, %v", why, At(s, 100), at, ok)
				}
				continue
			}
			if len(At(s, latest)) != 0 || len(At(s, 0)) != 0 || at != 0 || ok {
				t.Errorf("%s of Status %d: %v, %d, %v", why, n, At(s, latest), at, ok)
			}
		}
	}
	for _, n := range []int{math.MinInt, math.MaxInt} {
		if s := of(fresh, status(n)); len(At(s, latest)) != 0 {
			t.Errorf("Status %d", n)
		}
	}
	at, ok := Next(api.State{})
	if l := At(api.State{}, latest); len(l) != 0 || at != 0 || ok {
		t.Error("of the zero state", l, at, ok)
	}
}

func TestNothing(t *testing.T) {
	for _, now := range []int{math.MinInt, -1, 0, 99, 100, 101, latest, latest + 1, math.MaxInt} {
		askAll(t, []asked{
			{"nothing under way", usual(), now, nil},
			{"a task that waits", of(waits(0)), now, nil},
			{"a task that waits, and Fresh", of(waits(0), fresh), now, nil},
			{"all behind the latest time", of(deadline(latest+1), taken(1, latest+1), timers(timer("a", latest+1), timer("b", lastDue))), now, nil},
		})
	}
	for _, s := range []api.State{usual(), of(waits(0)), of(waits(lastDue), fresh), of(deadline(0)), of(deadline(-1)), of(deadline(math.MinInt))} {
		if at, ok := Next(s); at != 0 || ok {
			t.Errorf("%+v: %d, %v", s, at, ok)
		}
	}
}

func TestDeadlines(t *testing.T) {
	all := []func(s *api.State){taken(1, 100), timers(timer("a", 90), timer("b", 100)), fresh}
	with := func(at int) api.State { return of(append(all, deadline(at))...) }
	rest := func(at int) []api.Event { return slices.Concat(timed(at, 2, 10), fired(at, "ab")) }
	askAll(t, []asked{
		{"no deadline", of(deadline(0)), 200, nil},
		{"a deadline below 0", of(deadline(-1)), 200, nil},
		{"one of just t", of(deadline(200)), 200, timedOut(200)},
		{"one below", of(deadline(199)), 200, timedOut(200)},
		{"one above", of(deadline(201)), 200, nil},
		{"one that is long past", of(deadline(1)), 0, timedOut(100)},
		{"one of just s's Time", of(deadline(100)), math.MinInt, timedOut(100)},
		{"the latest", of(deadline(latest)), math.MaxInt, timedOut(latest)},
		{"one ahead of the latest", of(deadline(latest)), latest - 1, nil},
		{"one that no time reaches", of(deadline(latest + 1)), math.MaxInt, nil},
		{"alone, where all is due", with(200), 200, timedOut(200)},
		{"alone, where all was due", with(100), 200, timedOut(200)},
		{"where a task waits", of(waits(0), deadline(150), fresh), 150, timedOut(150)},
		{"all else, ahead of it", with(201), 200, rest(200)},
		{"all else, without one", with(0), 200, rest(200)},
		{"all else, with one below 0", with(-7), 200, rest(200)},
	})
}

func TestTasks(t *testing.T) {
	askAll(t, []asked{
		{"of just t", of(taken(1, 150)), 150, timed(150, 2, 10)},
		{"of one below", of(taken(1, 149)), 150, timed(150, 2, 10)},
		{"of one above", of(taken(1, 151)), 150, nil},
		{"below s's Time", of(taken(1, 3)), 2, timed(100, 2, 10)},
		{"the latest", of(taken(1, latest)), math.MaxInt, timed(latest, 2, 10)},
		{"that no time reaches", of(taken(1, latest+1)), math.MaxInt, nil},
		{"with something Fresh", of(taken(1, 150), fresh), 150, timed(150, 2, 10)},
		{"with something Fresh, of one above", of(taken(1, 151), fresh), 150, nil},
		{"that waits", of(waits(150)), 150, nil},
		{"that waits, with something Fresh", of(waits(150), fresh), 150, nil},
		{"none, nothing Fresh", usual(), 150, nil},
		{"none, something Fresh", of(fresh), 150, scheduled(150)},
		{"none, something Fresh, below s's Time", of(fresh), 99, scheduled(100)},
		{"none, something Fresh, at the end of time", of(fresh), math.MaxInt, scheduled(latest)},
	})
}

func TestAttempts(t *testing.T) {
	rising := api.Policy{First: 10, Coef: floats.Of(2), Most: 350}
	falling := api.Policy{First: 1 << 20, Coef: floats.Canon(math.Float64bits(0.5)), Most: 1 << 30}
	slow := api.Policy{First: 1000, Coef: math.Float64bits(1.01), Most: 1 << 30}
	odd := api.Policy{Coef: floats.Of(2), Most: -1} // one that may not be
	never := api.Policy{First: 0, Coef: math.Float64bits(math.Inf(1)), Most: 9}
	for _, c := range []struct {
		p                   api.Policy
		attempt, num, delay int
	}{
		{rising, 1, 2, 10}, {rising, 2, 3, 20}, {rising, 3, 4, 40}, {rising, 6, 7, 320}, {rising, 7, 8, 350},
		{rising, 1000, 1001, 350}, {rising, 1001, 1002, 350},
		{rising, lastTry - 2, lastTry - 1, 350}, {rising, lastTry - 1, lastTry, 350}, {rising, lastTry, lastTry, 350},
		{falling, 1, 2, 1 << 20}, {falling, 21, 22, 1}, {falling, 22, 23, 0}, {falling, lastTry, lastTry, 0},
		{never, 1, 2, 0}, {never, 2, 3, 9}, {never, lastTry, lastTry, 9},
		{api.Policy{}, 1, 2, 0}, {api.Policy{}, lastTry, lastTry, 0}, {odd, 5, 6, 0},
		{api.Policy{First: 1 << 30, Coef: floats.Of(1), Most: 1 << 30}, 9, 10, 1 << 30},
		// Attempts above 1000 wait as the 1000th does; Num goes on.
		{slow, 998, 999, policy.Delay(slow, 998)}, {slow, 999, 1000, policy.Delay(slow, 999)}, {slow, 1000, 1001, policy.Delay(slow, 1000)},
		{slow, 1001, 1002, policy.Delay(slow, 1000)}, {slow, lastTry - 1, lastTry, policy.Delay(slow, 1000)},
		// Attempts of states that can't be.
		{rising, lastTry + 1, lastTry, 350}, {rising, math.MaxInt, lastTry, 350},
		{rising, 0, 1, 10}, {rising, -1, 0, 10}, {rising, math.MinInt, math.MinInt + 1, 10},
	} {
		for _, now := range []int{150, 777, latest} {
			s := of(taken(c.attempt, 150), func(s *api.State) { s.Policy = c.p })
			askAll(t, []asked{{fmt.Sprintf("%+v, attempt %d", c.p, c.attempt), s, now, timed(now, c.num, c.delay)}})
		}
	}
	if policy.Delay(slow, 999) == policy.Delay(slow, 1000) {
		t.Error("the delays do not tell the attempts apart")
	}
}

func TestTimers(t *testing.T) {
	ten := func(due func(i int) int) func(s *api.State) {
		return func(s *api.State) {
			s.Timers = nil
			for i := range 10 {
				s.Timers = append(s.Timers, timer(string(rune('a'+i)), due(i)))
			}
		}
	}
	example := api.State{Run: 1, Status: api.StRunning, Count: 6, Time: 2, Type: "t", Timers: []api.Timer{timer("a", 5), timer("b", 5)}}
	turned := example
	turned.Timers = []api.Timer{timer("b", 5), timer("a", 5)}
	askAll(t, []asked{
		{"the document's example", example, 7, slices.Concat(fired(7, "ab"), scheduled(7))},
		{"the document's example, turned round", turned, 7, slices.Concat(fired(7, "ab"), scheduled(7))},
		{"the document's example, early", example, 4, nil},
		{"one of just t", of(timers(timer("a", 150))), 150, slices.Concat(fired(150, "a"), scheduled(150))},
		{"one above", of(timers(timer("a", 151))), 150, nil},
		{"below s's Time", of(timers(timer("a", 0), timer("b", 99))), 50, slices.Concat(fired(100, "ab"), scheduled(100))},
		{"the latest", of(timers(timer("a", latest))), math.MaxInt, slices.Concat(fired(latest, "a"), scheduled(latest))},
		{"an empty list", of(timers([]api.Timer{}...)), latest, nil},
		{"by Due, not by Name", of(timers(timer("a", 103), timer("b", 102), timer("c", 101))), 103, slices.Concat(fired(103, "cba"), scheduled(103))},
		{"but the last", of(timers(timer("a", 103), timer("b", 102), timer("c", 101))), 102, slices.Concat(fired(102, "cb"), scheduled(102))},
		{"by Due, then by Name", of(timers(timer("a", 120), timer("b", 110), timer("c", 120), timer("d", 110))), 120, slices.Concat(fired(120, "bdac"), scheduled(120))},
		{"by bytes", of(timers(timer("Z", 110), timer("a", 110), timer("aa", 110), timer("b", 109))), 110, []api.Event{
			{Kind: api.EvFired, Time: 110, Name: "b"}, {Kind: api.EvFired, Time: 110, Name: "Z"}, {Kind: api.EvFired, Time: 110, Name: "a"}, {Kind: api.EvFired, Time: 110, Name: "aa"},
			{Kind: api.EvScheduled, Time: 110, Num: 1, Due: 110},
		}},
		{"ten of one Due", of(ten(func(int) int { return 110 })), 110, slices.Concat(fired(110, "abcdefghij"), scheduled(110))},
		{"ten turned round", of(ten(func(i int) int { return 120 - i })), 120, slices.Concat(fired(120, "jihgfedcba"), scheduled(120))},
		{"some of ten", of(ten(func(i int) int { return 120 - i })), 115, slices.Concat(fired(115, "jihgf"), scheduled(115))},
		{"none of ten", of(ten(func(i int) int { return 120 - i })), 110, nil},
		{"and a task that waits", of(timers(timer("a", 110)), waits(0)), 110, fired(110, "a")},
		{"and a task that waits, Fresh", of(timers(timer("a", 110)), waits(0), fresh), 110, fired(110, "a")},
		{"and a task that is taken", of(timers(timer("a", 110)), taken(1, 111)), 110, fired(110, "a")},
		{"and a task that is taken, Fresh", of(timers(timer("a", 110)), taken(1, 111), fresh), 110, fired(110, "a")},
		{"behind a task that is late", of(timers(timer("a", 1)), taken(1, 110)), 110, slices.Concat(timed(110, 2, 10), fired(110, "a"))},
		{"behind a task that is late, Fresh", of(timers(timer("a", 1)), taken(1, 110), fresh), 110, slices.Concat(timed(110, 2, 10), fired(110, "a"))},
		{"and no task, Fresh", of(timers(timer("a", 110)), fresh), 110, slices.Concat(fired(110, "a"), scheduled(110))},
		{"ahead of it, and no task, Fresh", of(timers(timer("a", 110)), fresh), 109, scheduled(109)},
	})
}

func TestStatesThatCannotBe(t *testing.T) {
	task := func(n int) func(s *api.State) {
		return func(s *api.State) { s.Task = api.Task{State: n, Due: 100, Attempt: 1} }
	}
	askAll(t, []asked{
		{"a task of no kind", of(task(3), fresh, timers(timer("a", 100))), 100, fired(100, "a")},
		{"a task below none", of(task(-1), fresh, timers(timer("a", 100))), 100, fired(100, "a")},
		{"a task that is none, but for its fields", of(task(0), fresh), 100, scheduled(100)},
		{"timers that fall", of(timers(timer("c", 1), timer("b", 3), timer("a", 2))), 100, slices.Concat(fired(100, "cab"), scheduled(100))},
		{"timers of one name", of(timers(timer("a", 3), timer("b", 2), timer("a", 1), timer("a", 900))), 100, slices.Concat(fired(100, "aba"), scheduled(100))},
		{"timers at the ends", of(timers(timer("a", math.MaxInt), timer("b", math.MinInt), timer("", -1))), 100, []api.Event{
			{Kind: api.EvFired, Time: 100, Name: "b"}, {Kind: api.EvFired, Time: 100}, {Kind: api.EvScheduled, Time: 100, Num: 1, Due: 100},
		}},
		{"a task due at the least number", of(taken(1, math.MinInt)), math.MinInt, timed(100, 2, 10)},
		{"a task due at the greatest number", of(taken(1, math.MaxInt)), math.MaxInt, nil},
		{"a deadline of the greatest number", of(deadline(math.MaxInt)), math.MaxInt, nil},
		{"a Time above the latest", of(time(latest+9), deadline(latest+9)), 5, timedOut(latest + 9)},
		{"a Time of the greatest number", of(time(math.MaxInt), deadline(math.MaxInt)), 5, timedOut(math.MaxInt)},
		{"a Time below 0", of(time(-9), fresh), -20, scheduled(-9)},
		{"the least Time", of(time(math.MinInt), fresh), math.MinInt, scheduled(math.MinInt)},
		{"no events, but a Status", api.State{Status: api.StRunning, Fresh: true}, 3, scheduled(3)},
	})
	var many []api.Timer
	for i := range 300 {
		many = append(many, timer("a", 400-i))
	}
	if l := At(of(timers(many...)), 1000); len(l) != 301 {
		t.Errorf("300 timers: %d events", len(l))
	}
}

func TestNext(t *testing.T) {
	for _, c := range []struct {
		why  string
		s    api.State
		want int
	}{
		{"a deadline", of(deadline(150)), 150},
		{"a deadline of just s's Time", of(deadline(100)), 100},
		{"a deadline below s's Time", of(deadline(99)), 100},
		{"a deadline of 1", of(deadline(1)), 100},
		{"a deadline that no time reaches", of(deadline(lastDue)), lastDue},
		{"a task", of(taken(1, 150)), 150},
		{"a task, with something Fresh", of(taken(1, 150), fresh), 150},
		{"a task below s's Time", of(taken(1, 0)), 100},
		{"a timer", of(timers(timer("a", 150))), 150},
		{"a timer below s's Time", of(timers(timer("a", 0))), 100},
		{"a timer, and a task that waits", of(timers(timer("a", 150)), waits(120), fresh), 150},
		{"the first of timers", of(timers(timer("a", 150), timer("b", 160))), 150},
		{"the last of timers", of(timers(timer("a", 150), timer("b", 160), timer("c", 149))), 149},
		{"Fresh", of(fresh), 100},
		{"Fresh at 0", of(fresh, time(0)), 0},
		{"Fresh, and a deadline", of(fresh, deadline(150)), 100},
		{"Fresh, and a timer", of(fresh, timers(timer("a", 150))), 100},
		{"Fresh, and all below", of(fresh, timers(timer("a", 50)), deadline(40)), 100},
		{"a task that waits, and a deadline", of(waits(110), deadline(150)), 150},
		{"a deadline ahead of all", of(deadline(150), taken(1, 151), timers(timer("a", 152))), 150},
		{"a task ahead of all", of(deadline(152), taken(1, 150), timers(timer("a", 151))), 150},
		{"a timer ahead of all", of(deadline(151), taken(1, 152), timers(timer("a", 153), timer("b", 150))), 150},
		{"all at once", of(deadline(150), taken(1, 150), timers(timer("a", 150))), 150},
		{"one below s's Time, others not", of(deadline(151), taken(1, 7), timers(timer("a", 150))), 100},
		{"no deadline, and a task", of(deadline(0), taken(1, 150)), 150},
		{"a deadline below 0, and a task", of(deadline(-1), taken(1, 150)), 150},
		{"a state that can't be, below 0", of(time(-9), taken(1, -12), timers(timer("a", -5))), -9},
		{"a state that can't be, its Time too late", of(time(math.MaxInt), deadline(5)), math.MaxInt},
		{"numbers at the ends", of(time(math.MinInt), timers(timer("a", math.MinInt), timer("b", math.MaxInt))), math.MinInt},
		{"the greatest number", of(timers(timer("b", math.MaxInt))), math.MaxInt},
	} {
		ahead := state.Clone(c.s)
		if at, ok := Next(c.s); at != c.want || !ok {
			t.Errorf("%s: %d, %v, not %d", c.why, at, ok, c.want)
		}
		if !reflect.DeepEqual(c.s, ahead) {
			t.Errorf("%s: the state that was handed in has changed", c.why)
		}
		atNext(t, c.s)
	}
}

// atNext holds Next against At: at that time something is due, and ahead of it nothing.
func atNext(t *testing.T, s api.State) {
	t.Helper()
	next, ok := Next(s)
	nows := []int{math.MinInt, -1, 0, s.Time, latest - 1, latest, latest + 1, math.MaxInt}
	if next > math.MinInt {
		nows = append(nows, next-1)
	}
	if next < math.MaxInt {
		nows = append(nows, next, next+1)
	}
	for _, now := range nows {
		due := len(At(s, now)) > 0
		if due != (ok && next <= Time(s, now)) {
			t.Errorf("%+v: Next is %d, %v, but at %d there is due: %v", s, next, ok, now, due)
		}
	}
	if !ok || next > latest {
		return
	}
	if len(At(s, next)) == 0 {
		t.Errorf("%+v: at %d nothing is due", s, next)
	}
	if next > s.Time && len(At(s, next-1)) > 0 {
		t.Errorf("%+v: ahead of %d something is due", s, next)
	}
}

func TestWhatIsToldIsTheCallers(t *testing.T) {
	s := of(taken(1, 100), timers(timer("b", 100), timer("c", 99), timer("d", 100)))
	ahead := state.Clone(s)
	want := slices.Concat(timed(200, 2, 10), fired(200, "cbd"))
	for range 2 {
		l := At(s, 200)
		if !reflect.DeepEqual(l, want) {
			t.Fatalf("%+v", l)
		}
		clear(l)
		clear(l[:cap(l)])
	}
	if !reflect.DeepEqual(s, ahead) {
		t.Error("what At tells shares memory with the state")
	}
}

// anyTime gives a time around those that count.
func anyTime(r *rand.Rand) int {
	switch r.Intn(12) {
	case 0:
		return r.Intn(3)
	case 1:
		return latest - 1 + r.Intn(3)
	case 2:
		return lastDue - r.Intn(2)
	}
	return 90 + r.Intn(25)
}

// anyState gives a state that can be, and is running.
func anyState(r *rand.Rand) api.State {
	s := of(time(min(anyTime(r), latest)))
	s.Count = 18 + r.Intn(103)
	s.Fresh = r.Intn(2) == 0
	if r.Intn(3) == 0 {
		s.Deadline = anyTime(r)
	}
	tries := []int{1, 2, 999, 1000, 1001, lastTry - 1, lastTry}
	switch r.Intn(3) {
	case 0:
		taken(tries[r.Intn(len(tries))], anyTime(r))(&s)
	case 1:
		waits(anyTime(r))(&s)
	}
	for i := range 10 {
		if r.Intn(4) == 0 {
			s.Timers = append(s.Timers, timer(string(rune('a'+i)), anyTime(r)))
		}
	}
	if r.Intn(4) == 0 {
		s.Policy = api.Policy{First: 1 << 30, Coef: floats.Of(1), Most: 1 << 30}
	}
	return s
}

// TestWhatIsToldMayCome: one behind the other, and behind all that nothing is due at that time.
func TestWhatIsToldMayCome(t *testing.T) {
	r := rand.New(rand.NewSource(18))
	told, full := 0, 0
	for range 40000 {
		s := anyState(r)
		if !state.Can(s) {
			t.Fatalf("%+v can't be", s)
		}
		atNext(t, s)
		now := anyTime(r)
		x, l := s, At(s, now)
		for i, e := range l {
			behind, code := state.Step(x, e)
			if s.Count+i >= 120 {
				if code != api.ErrFull {
					t.Fatalf("event %d of %+v, of a run of %d: %d", i, l, s.Count, code)
				}
				full++
				break
			}
			if code != api.OK || !state.Can(behind) || e.Time != Time(s, now) {
				t.Fatalf("%+v\nat %d: event %d of %+v: %d", s, now, i, l, code)
			}
			x = behind
		}
		if x.Count < s.Count+len(l) {
			continue
		}
		told += len(l)
		if more := At(x, now); len(more) != 0 {
			t.Fatalf("%+v\nat %d: behind %+v there is %+v", s, now, l, more)
		}
		atNext(t, x)
	}
	if told < 10000 || full < 100 {
		t.Errorf("%d events, %d runs that are full: too few to tell", told, full)
	}
}

// TestNextIsTheLeast: no time below it has anything due, of all that there are.
func TestNextIsTheLeast(t *testing.T) {
	r := rand.New(rand.NewSource(81))
	for range 3000 {
		s := anyState(r)
		s.Time = 80 + r.Intn(30)
		least, found := 0, false
		for now := s.Time; now < 200 && !found; now++ {
			least, found = now, len(At(s, now)) > 0
		}
		if at, ok := Next(s); found && (at != least || !ok) || !found && ok && at < 200 {
			t.Fatalf("%+v: %d, %v, not %d", s, at, ok, least)
		}
	}
}
