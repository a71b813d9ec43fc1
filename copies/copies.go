// Package copies gives what api has in new memory, for those layers that keep it and hand it out: nobody changes it for another one.
package copies

import (
	"slices"

	"usher/api"
)

// Each gives a list of the same, each of them as copied gives it.
func Each[T any](l []T, copied func(x T) T) []T {
	out := slices.Clone(l)
	for i, x := range out {
		out[i] = copied(x)
	}
	return out
}

// Value gives the same value.
func Value(v api.Value) api.Value {
	v.List = Each(v.List, Value)
	return v
}

// Asks gives the same queries, or updates.
func Asks(l []api.Ask) []api.Ask {
	return Each(l, func(a api.Ask) api.Ask {
		a.Value = Value(a.Value)
		return a
	})
}

// Events gives the same events.
func Events(l []api.Event) []api.Event {
	return Each(l, func(e api.Event) api.Event {
		e.Value = Value(e.Value)
		return e
	})
}

// State gives the same state.
func State(s api.State) api.State {
	s.Input, s.Result = Value(s.Input), Value(s.Result)
	s.Timers = slices.Clone(s.Timers)
	s.Updates = Each(s.Updates, func(u api.Update) api.Update {
		u.Value, u.Outcome = Value(u.Value), Value(u.Outcome)
		return u
	})
	return s
}

// Request gives the same request.
func Request(r api.Request) api.Request {
	r.Value = Value(r.Value)
	r.Commands = Each(r.Commands, func(c api.Command) api.Command {
		c.Value = Value(c.Value)
		return c
	})
	r.Answers = Each(r.Answers, func(a api.Answer) api.Answer {
		a.Value = Value(a.Value)
		return a
	})
	return r
}

// Reply gives the same reply.
func Reply(x api.Reply) api.Reply {
	x.Value = Value(x.Value)
	x.State = State(x.State)
	x.Events = Events(x.Events)
	x.Queries = Asks(x.Queries)
	x.Updates = Asks(x.Updates)
	return x
}
