package machine

import (
	"bytes"
	"slices"

	"usher/api"
	"usher/branch"
)

// clone gives the same operation in new memory: what is answered is not to change with what was handed in.
func clone(m api.Machine) api.Machine {
	m.Request = cloneRequest(m.Request)
	m.Plan.Flow.State = cloneState(m.Plan.Flow.State)
	m.Plan.Flow.Table = each(m.Plan.Flow.Table, cloneDone)
	m.Plan.Writes = each(m.Plan.Writes, cloneHistory)
	m.Reply = cloneReply(m.Reply)
	m.Asks = each(m.Asks, cloneAsk)
	return m
}

// each gives a list of the same, each of them as copied gives it.
func each[T any](l []T, copied func(x T) T) []T {
	out := slices.Clone(l)
	for i, x := range out {
		out[i] = copied(x)
	}
	return out
}

func cloneRequest(r api.Request) api.Request {
	r.Value = cloneValue(r.Value)
	r.Commands = each(r.Commands, func(c api.Command) api.Command {
		c.Value = cloneValue(c.Value)
		return c
	})
	r.Answers = each(r.Answers, func(a api.Answer) api.Answer {
		a.Value = cloneValue(a.Value)
		return a
	})
	return r
}

func cloneReply(x api.Reply) api.Reply {
	x.Value = cloneValue(x.Value)
	x.State = cloneState(x.State)
	x.Events = cloneEvents(x.Events)
	x.Queries = each(x.Queries, cloneAsk)
	x.Updates = each(x.Updates, cloneAsk)
	return x
}

func cloneState(s api.State) api.State {
	s.Input, s.Result = cloneValue(s.Input), cloneValue(s.Result)
	s.Timers = slices.Clone(s.Timers)
	s.Updates = each(s.Updates, func(u api.Update) api.Update {
		u.Value, u.Outcome = cloneValue(u.Value), cloneValue(u.Outcome)
		return u
	})
	return s
}

func cloneDone(d api.Done) api.Done {
	d.Key = bytes.Clone(d.Key)
	return d
}

func cloneHistory(h api.History) api.History {
	h.Events = cloneEvents(h.Events)
	return h
}

func cloneEvents(h []api.Event) []api.Event {
	return branch.Fork(h, len(h))
}

func cloneAsk(a api.Ask) api.Ask {
	a.Value = cloneValue(a.Value)
	return a
}

// cloneValue gives the same value in new memory: this layer does not call the one that knows values.
func cloneValue(v api.Value) api.Value {
	v.List = each(v.List, cloneValue)
	return v
}
