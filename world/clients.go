package world

import (
	"slices"

	"usher/api"
	"usher/copies"
)

// clients is what clients saw: a record of each operation, at the place of its number, and the order in which operations had their effect.
type clients struct {
	records []api.Record
	order   []api.Entry
}

// next gives the number of the operation to come.
func (c *clients) next() int {
	return len(c.records) + 1
}

// record gives an operation's record, nil if there is none.
func (c *clients) record(op int) *api.Record {
	if op < 1 || op > len(c.records) {
		return nil
	}
	return &c.records[op-1]
}

// enter notes that an operation had its effect.
func (c *clients) enter(e api.Entry) {
	c.order = append(c.order, cloneEntry(e))
}

// reply notes what an operation's client was told.
func (c *clients) reply(op, step, now int, x api.Reply) {
	if r := c.record(op); r != nil {
		r.Replied, r.To, r.Reply = step, now, copies.Reply(x)
	}
}

// replied says whether an operation's client was told.
func (c *clients) replied(op int) bool {
	r := c.record(op)
	return r != nil && r.Replied > 0
}

// takeBack takes from the order what a crash took back, if the store has lsn records behind it. What changed nothing has no record there: it counts only if its client was told.
func (c *clients) takeBack(lsn int) {
	c.order = slices.DeleteFunc(c.order, func(e api.Entry) bool {
		if e.Commit {
			return e.LSN > lsn
		}
		return !c.replied(e.Op)
	})
}

// recorded gives the records in new memory.
func (c *clients) recorded() []api.Record {
	return copies.Each(c.records, func(r api.Record) api.Record {
		r.Request, r.Reply = copies.Request(r.Request), copies.Reply(r.Reply)
		return r
	})
}

// entered gives the order in new memory.
func (c *clients) entered() []api.Entry {
	return copies.Each(c.order, cloneEntry)
}

func cloneEntry(e api.Entry) api.Entry {
	e.Asks = copies.Asks(e.Asks)
	return e
}
