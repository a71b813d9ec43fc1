package client

import (
	"slices"

	"usher/api"
	"usher/fold"
)

// Grow gives the plan by which events come behind the last run's history.
func Grow(f api.Flow, l []api.Event) (api.Plan, api.Errno) {
	s, _, code := fold.Extend(f.State, l)
	if code != api.OK {
		return api.Plan{}, code
	}
	return planned(f, s, f.State.Count, l), api.OK
}

// Fresh gives the plan of a further run, whose history these events are.
func Fresh(f api.Flow, l []api.Event) (api.Plan, api.Errno) {
	if f.Runs >= api.MaxRuns {
		return api.Plan{}, api.ErrFull
	}
	f.Runs++
	s, _, code := fold.Build(f.Runs, l)
	if code != api.OK {
		return api.Plan{}, code
	}
	return planned(f, s, 0, l), api.OK
}

// planned gives the plan by which f is in the state s, and its run's history goes on by l behind at events. All of l has become part of s, so that each of its values may be, and none is too great to be cloned.
func planned(f api.Flow, s api.State, at int, l []api.Event) api.Plan {
	f.State, f.Table = s, cloneTable(f.Table)
	return api.Plan{Changed: true, Flow: f, Writes: []api.History{{Run: s.Run, At: at, Events: cloneEvents(l)}}}
}

func cloneTable(t []api.Done) []api.Done {
	var out []api.Done
	for _, d := range t {
		d.Key = slices.Clone(d.Key)
		out = append(out, d)
	}
	return out
}

func cloneEvents(l []api.Event) []api.Event {
	var out []api.Event
	for _, e := range l {
		e.Value = cloneValue(e.Value)
		out = append(out, e)
	}
	return out
}

// cloneValue is made here, since this layer does not call the one that knows values.
func cloneValue(v api.Value) api.Value {
	l := v.List
	v.List = nil
	for _, x := range l {
		v.List = append(v.List, cloneValue(x))
	}
	return v
}
