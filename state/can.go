package state

import (
	"usher/api"
	"usher/event"
	"usher/policy"
	"usher/value"
)

// Can says whether a state is one that can be.
func Can(s api.State) bool {
	return numbersFit(s) && startFits(s) && endFits(s) && taskFits(s) && timersFit(s.Timers) && updatesFit(s.Updates)
}

func numbersFit(s api.State) bool {
	return within(s.Run, 1, api.MaxRuns) && within(s.From, 0, api.MaxRuns) &&
		within(s.Status, api.StRunning, api.StTimedOut) &&
		within(s.Count, 1, api.MaxEvents) && within(s.Signals, 0, s.Count) &&
		within(s.Time, 0, api.MaxTime) && within(s.Deadline, 0, maxDue)
}

func within(n, least, most int) bool {
	return least <= n && n <= most
}

// startFits says whether what the run was started with may be.
func startFits(s api.State) bool {
	return isName(s.Type) && mayBe(s.Input) && policy.Check(s.Policy) == api.OK
}

// isName asks an event that has nothing but a name: this layer does not call the one that knows names.
func isName(s string) bool {
	return event.Check(api.Event{Kind: api.EvFired, Name: s}) == api.OK
}

// isText asks an event that has nothing but a text, for the same reason.
func isText(s string) bool {
	return event.Check(api.Event{Kind: api.EvFailed, Name: s}) == api.OK
}

func mayBe(v api.Value) bool {
	return value.Check(v) == api.OK
}

func isZero(v api.Value) bool {
	return value.Same(v, api.Value{})
}

// endFits says whether a run has just what it may have by its Status: of one that has ended nothing is under way.
func endFits(s api.State) bool {
	if !Running(s) && (s.Task.State != api.TaskNone || len(s.Timers) > 0) {
		return false
	}
	return resultFits(s) && reasonFits(s)
}

func resultFits(s api.State) bool {
	if s.Status == api.StCompleted {
		return mayBe(s.Result)
	}
	return isZero(s.Result)
}

func reasonFits(s api.State) bool {
	switch s.Status {
	case api.StFailed, api.StTerminated:
		return isText(s.Reason)
	}
	return s.Reason == ""
}

func taskFits(s api.State) bool {
	t := s.Task
	switch t.State {
	case api.TaskNone:
		return t == api.Task{}
	case api.TaskWaits:
		return tryFits(t) && t.Event == 0 && t.Seen == 0
	case api.TaskTaken:
		return tryFits(t) && within(t.Event, 1, s.Count) && t.Seen == t.Event
	}
	return false
}

func tryFits(t api.Task) bool {
	return within(t.Attempt, 1, maxTry) && within(t.Due, 0, maxDue)
}

func timersFit(l []api.Timer) bool {
	if len(l) > api.MaxTimers {
		return false
	}
	last := "" // below every name
	for _, t := range l {
		if !isName(t.Name) || t.Name <= last || !within(t.Due, 0, maxDue) {
			return false
		}
		last = t.Name
	}
	return true
}

func updatesFit(l []api.Update) bool {
	if len(l) > api.MaxUpdates {
		return false
	}
	last := ""
	for _, u := range l {
		if !isName(u.Name) || u.Name <= last || !mayBe(u.Value) || !outcomeFits(u) {
			return false
		}
		last = u.Name
	}
	return true
}

func outcomeFits(u api.Update) bool {
	switch u.Stage {
	case accepted:
		return isZero(u.Outcome)
	case finished:
		return mayBe(u.Outcome)
	}
	return false
}
