package command

import (
	"slices"

	"usher/api"
	"usher/state"
	"usher/value"
)

// Plan gives the events that commands come to, in a run whose task is done, and which of the updates that wait they refuse; the error of the first command that has one.
func Plan(s api.State, asks []api.Ask, l []api.Command, t int) ([]api.Event, []api.Ask, api.Errno) {
	if len(l) > api.MaxCommands {
		return nil, nil, api.ErrLong
	}
	d := draft{state: s, asks: asks}
	for i, c := range l {
		if code := d.take(c, i == len(l)-1, t); code != api.OK {
			return nil, nil, code
		}
	}
	return d.events, d.refused, api.OK
}

// draft is what has come of the commands so far.
type draft struct {
	state   api.State
	asks    []api.Ask // the updates that wait, whatever came of them
	events  []api.Event
	refused []api.Ask
}

// take adds what comes of the next command.
func (d *draft) take(c api.Command, last bool, t int) api.Errno {
	if code := refusal(d.state, c, last); code != api.OK {
		return code
	}
	e, comes, ok := wishOf(c, t).event(*d)
	switch {
	case !ok:
		return api.ErrCommand
	case comes:
		return d.add(e)
	}
	d.refused = append(d.refused, api.Ask{Name: c.Name, Value: value.Clone(c.Value)})
	return api.OK
}

// refusal gives the error that stands against a command whatever it wants, OK if there is none.
func refusal(s api.State, c api.Command, last bool) api.Errno {
	switch {
	case Check(c) != api.OK || closes(c) && !last:
		return api.ErrCommand
	case closes(c) && s.Fresh:
		return api.ErrUnseen
	}
	return api.OK
}

// add puts an event behind those so far, if it may come.
func (d *draft) add(e api.Event) api.Errno {
	behind, code := state.Step(d.state, e)
	switch code {
	case api.OK:
	case api.ErrFull:
		return code
	default:
		return api.ErrCommand
	}
	d.state = behind
	e.Value = value.Clone(e.Value) // only now is it known to be small
	d.events = append(d.events, e)
	return api.OK
}

// waiting gives the update of that name that a worker may yet decide on: one that waits, and that no command ahead refused.
func (d draft) waiting(name string) (api.Ask, bool) {
	at := askAt(d.asks, name)
	if at < 0 || askAt(d.refused, name) >= 0 {
		return api.Ask{}, false
	}
	return d.asks[at], true
}

// askAt gives the place of the first one of that name, below 0 if there is none.
func askAt(l []api.Ask, name string) int {
	return slices.IndexFunc(l, func(a api.Ask) bool { return a.Name == name })
}

// wish is what a command wants. Asked for its event, it gives one that would come, or says that none comes: an update is refused, and the run stays as it is. ok is false of what can't be wanted behind the commands so far.
type wish interface {
	event(d draft) (e api.Event, comes, ok bool)
}

// plain is what a command wants that says all of its event.
type plain struct {
	e api.Event
}

func (w plain) event(draft) (e api.Event, comes, ok bool) {
	return w.e, true, true
}

// acceptance is the wish that an update is accepted: what it says, the one who asked for it knows.
type acceptance struct {
	name string
	time int
}

func (w acceptance) event(d draft) (e api.Event, comes, ok bool) {
	a, ok := d.waiting(w.name)
	if !ok {
		return api.Event{}, false, false
	}
	return api.Event{Kind: api.EvAccepted, Time: w.time, Name: w.name, Value: a.Value}, true, true
}

// rejection is the wish that an update is refused: one that was accepted can't be any more.
type rejection struct {
	name string
}

func (w rejection) event(d draft) (e api.Event, comes, ok bool) {
	_, waits := d.waiting(w.name)
	_, accepted := state.Update(d.state, w.name)
	return api.Event{}, false, waits && !accepted
}

// wishOf gives what a command that may be wants at the time t.
func wishOf(c api.Command, t int) wish {
	switch c.Kind {
	case api.CmAccept:
		return acceptance{name: c.Name, time: t}
	case api.CmReject:
		return rejection{name: c.Name}
	}
	e := api.Event{Kind: eventKind(c.Kind), Time: t, Name: c.Name, Value: c.Value}
	if c.Kind == api.CmTimer {
		e.Due = t + c.Delay // it wraps round only of a t that no event may have
	}
	return plain{e}
}

// eventKind gives the kind of the event that comes of a command that says all of it.
func eventKind(kind int) int {
	switch kind {
	case api.CmTimer:
		return api.EvTimer
	case api.CmTimerOff:
		return api.EvTimerOff
	case api.CmMarker:
		return api.EvMarker
	case api.CmOutcome:
		return api.EvOutcome
	case api.CmComplete:
		return api.EvCompleted
	case api.CmFail:
		return api.EvFailed
	case api.CmCancel:
		return api.EvCanceled
	}
	return 0
}
