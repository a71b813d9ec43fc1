package state

import (
	"slices"

	"usher/api"
	"usher/event"
)

// Step gives the state behind an event; if it may not come, the state as it is and why.
func Step(s api.State, e api.Event) (api.State, api.Errno) {
	out := Clone(s)
	code := refusal(s, e)
	if code == api.OK {
		change(&out, event.Clone(e))
	}
	return out, code
}

// refusal gives the first error that stands against the event, OK if it may come.
func refusal(s api.State, e api.Event) api.Errno {
	switch {
	case event.Check(e) != api.OK:
		return api.ErrArg
	case s.Count >= api.MaxEvents:
		return api.ErrFull
	case !inTurn(s, e) || e.Time < s.Time || !fits(s, e):
		return api.ErrEvent
	case !hasRoom(s, e):
		return api.ErrFull
	}
	return api.OK
}

// inTurn: a run starts once, and nothing comes ahead of that, or behind its end.
func inTurn(s api.State, e api.Event) bool {
	if e.Kind == api.EvStarted {
		return s.Count == 0
	}
	return s.Count != 0 && Running(s)
}

// fits says whether an event of that kind may come in a run that is as s is.
func fits(s api.State, e api.Event) bool {
	switch e.Kind {
	case api.EvScheduled:
		return s.Task.State == api.TaskNone
	case api.EvTaken:
		return s.Task.State == api.TaskWaits
	case api.EvDone, api.EvTaskFailed:
		return s.Task.State == api.TaskTaken
	case api.EvTaskTimed:
		return s.Task.State == api.TaskTaken && e.Time >= s.Task.Due
	case api.EvCancel:
		return !s.Cancel
	case api.EvTimer:
		return timerAt(s, e.Name) < 0
	case api.EvFired:
		at := timerAt(s, e.Name)
		return at >= 0 && e.Time >= s.Timers[at].Due
	case api.EvTimerOff:
		return timerAt(s, e.Name) >= 0
	case api.EvAccepted:
		return updateAt(s, e.Name) < 0
	case api.EvOutcome:
		return waitingAt(s, e.Name) >= 0
	case api.EvCompleted, api.EvFailed:
		return settled(s)
	case api.EvCanceled:
		return settled(s) && s.Cancel
	case api.EvTimedOut:
		return s.Deadline > 0 && e.Time >= s.Deadline
	}
	return true
}

// settled: a worker may end a run only when it has seen all, and no task is under way.
func settled(s api.State) bool {
	return s.Task.State == api.TaskNone && !s.Fresh
}

// hasRoom says whether there is room for the timer, or the update, that the event sets.
func hasRoom(s api.State, e api.Event) bool {
	switch e.Kind {
	case api.EvTimer:
		return len(s.Timers) < api.MaxTimers
	case api.EvAccepted:
		return len(s.Updates) < api.MaxUpdates
	}
	return true
}

// change makes of s, which shares nothing, what an event that may come makes of it.
func change(s *api.State, e api.Event) {
	s.Count++
	s.Time = e.Time
	switch e.Kind {
	case api.EvStarted:
		s.Status, s.Fresh = api.StRunning, true
		s.Type, s.Input, s.Deadline, s.Policy = e.Name, e.Value, e.Due, e.Policy
	case api.EvScheduled, api.EvTaken, api.EvDone, api.EvTaskFailed, api.EvTaskTimed:
		changeTask(s, e)
	case api.EvSignaled:
		s.Signals++
		s.Fresh = true
	case api.EvCancel:
		s.Cancel, s.Fresh = true, true
	case api.EvTimer, api.EvFired, api.EvTimerOff:
		changeTimers(s, e)
	case api.EvAccepted, api.EvOutcome:
		changeUpdates(s, e)
	case api.EvCompleted, api.EvFailed, api.EvCanceled, api.EvTerminated, api.EvTimedOut:
		end(s, e)
	}
}

// changeTask needs s to have counted the event: by its number a task is known as taken.
func changeTask(s *api.State, e api.Event) {
	switch e.Kind {
	case api.EvScheduled:
		s.Task = api.Task{State: api.TaskWaits, Attempt: e.Num, Due: e.Due}
		return
	case api.EvTaken:
		s.Task = api.Task{State: api.TaskTaken, Attempt: s.Task.Attempt, Due: e.Due, Event: s.Count, Seen: s.Count}
		s.Fresh = false
		return
	}
	s.Task = api.Task{}
	if e.Num > 0 { // only of a task that failed since a run was set back
		s.From = e.Num
	}
}

func changeTimers(s *api.State, e api.Event) {
	if e.Kind == api.EvTimer {
		s.Timers = add(s.Timers, api.Timer{Name: e.Name, Due: e.Due}, func(t api.Timer) bool { return t.Name > e.Name })
		return
	}
	at := timerAt(*s, e.Name)
	s.Timers = slices.Delete(s.Timers, at, at+1)
	if e.Kind == api.EvFired { // a timer that was taken back is nothing that a worker has yet to see
		s.Fresh = true
	}
}

func changeUpdates(s *api.State, e api.Event) {
	if e.Kind == api.EvAccepted {
		s.Updates = add(s.Updates, api.Update{Name: e.Name, Value: e.Value, Stage: accepted}, func(u api.Update) bool { return u.Name > e.Name })
		return
	}
	u := &s.Updates[waitingAt(*s, e.Name)]
	u.Stage, u.Outcome = finished, e.Value
}

// add puts x ahead of the first one that is above it.
func add[T any](l []T, x T, above func(T) bool) []T {
	at := slices.IndexFunc(l, above)
	if at < 0 {
		at = len(l)
	}
	return slices.Insert(l, at, x)
}

// end closes the run: nothing of it is under way any more.
func end(s *api.State, e api.Event) {
	s.Task, s.Timers = api.Task{}, nil
	switch e.Kind {
	case api.EvCompleted:
		s.Status, s.Result = api.StCompleted, e.Value
	case api.EvFailed:
		s.Status, s.Reason = api.StFailed, e.Name
	case api.EvCanceled:
		s.Status = api.StCanceled
	case api.EvTerminated:
		s.Status, s.Reason = api.StTerminated, e.Name
	case api.EvTimedOut:
		s.Status = api.StTimedOut
	}
}
