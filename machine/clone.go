package machine

import (
	"bytes"

	"usher/api"
	"usher/copies"
)

// clone gives the same operation in new memory: what is answered is not to change with what was handed in.
func clone(m api.Machine) api.Machine {
	m.Request = copies.Request(m.Request)
	m.Plan.Flow.State = copies.State(m.Plan.Flow.State)
	m.Plan.Flow.Table = copies.Each(m.Plan.Flow.Table, cloneDone)
	m.Plan.Writes = copies.Each(m.Plan.Writes, cloneHistory)
	m.Reply = copies.Reply(m.Reply)
	m.Asks = copies.Asks(m.Asks)
	return m
}

func cloneDone(d api.Done) api.Done {
	d.Key = bytes.Clone(d.Key)
	return d
}

func cloneHistory(h api.History) api.History {
	h.Events = copies.Events(h.Events)
	return h
}
