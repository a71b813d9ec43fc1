package rowcode

import (
	"usher/api"
	"usher/pack"
	"usher/policy"
	"usher/state"
	"usher/value"
)

// What the numbers of a state, and of a table, are at most.
const (
	maxTry   = 1 << 31
	maxDue   = 2 * api.MaxTime
	maxStage = 2
	maxKey   = 4096
)

// reader reads as the one that it embeds, but gives up by a panic at the first error, so that whoever reads with it has none to ask for.
type reader struct {
	*pack.Reader
}

// gaveUp is thrown where bytes turn out to be in no form that may be, however deep the reading is.
type gaveUp struct {
	why api.Errno
}

// caught gives what is read; the zero of it and the error, if reading gave up.
func caught[T any](read func() T) (x T, e api.Errno) {
	defer func() {
		thrown := recover()
		if thrown == nil {
			return
		}
		stop, ok := thrown.(gaveUp)
		if !ok {
			panic(thrown) // a fault of the program, which bytes cannot bring about, is not told as theirs
		}
		e = stop.why
	}()
	return read(), api.OK
}

// goOn gives up, if there was an error.
func (r reader) goOn() {
	if e := r.Err(); e != api.OK {
		panic(gaveUp{e})
	}
}

// demand gives up, unless what was read may be.
func (r reader) demand(may bool) {
	if !may {
		r.Fail(api.ErrForm)
	}
	r.goOn()
}

func (r reader) num(most int) int {
	n := r.Num(most)
	r.goOn()
	return n
}

func (r reader) text(most int) string {
	s := r.Text(most)
	r.goOn()
	return s
}

func (r reader) flag() bool {
	yes := r.Flag()
	r.goOn()
	return yes
}

func (r reader) value() api.Value {
	v := value.Read(r.Reader)
	r.goOn()
	return v
}

func (r reader) policy() api.Policy {
	p := policy.Read(r.Reader)
	r.goOn()
	return p
}

// Decode gives the workflow whose bytes b is.
func Decode(b []byte) (api.Flow, api.Errno) {
	return caught(reader{pack.Open(b)}.onlyFlow)
}

// ReadState gives the state whose bytes come next in r; the zero state and r's error, if there are none such.
func ReadState(r *pack.Reader) api.State {
	s, _ := caught(reader{r}.nextState) // r has the error
	return s
}

// onlyFlow reads a workflow behind which nothing stands. Whether it may be is asked when all is read: an error of the bytes, those of its table too, is told ahead of that.
func (r reader) onlyFlow() api.Flow {
	f := r.flow()
	r.Fail(r.End())
	r.demand(Can(f))
	return f
}

// nextState reads a state, whatever stands behind it.
func (r reader) nextState() api.State {
	s := r.state()
	r.demand(state.Can(s))
	return s
}

// flow reads a workflow's fields, whether it may be or not.
func (r reader) flow() api.Flow {
	var f api.Flow
	f.Name = r.text(api.MaxName)
	f.Runs = r.num(api.MaxRuns)
	f.State = r.state()
	for range r.num(api.MaxRequests) {
		f.Table = append(f.Table, r.done())
	}
	return f
}

func (r reader) done() api.Done {
	var d api.Done
	d.Request = r.text(api.MaxName)
	d.Kind = r.num(api.OpFire)
	d.Key = []byte(r.text(maxKey))
	d.Run = r.num(api.MaxRuns)
	return d
}

// state reads a state's fields, whether it can be or not.
func (r reader) state() api.State {
	var s api.State
	s.Run = r.num(api.MaxRuns)
	s.Status = r.num(api.StTimedOut)
	s.Count = r.num(api.MaxEvents)
	s.Time = r.num(api.MaxTime)
	s.Deadline = r.num(maxDue)
	s.From = r.num(api.MaxRuns)
	s.Signals = r.num(s.Count) // its limit is no number of its own: as many events as there are
	s.Type = r.text(api.MaxName)
	s.Input = r.value()
	s.Policy = r.policy()
	s.Task = r.task()
	s.Fresh = r.flag()
	s.Cancel = r.flag()
	for range r.num(api.MaxTimers) {
		s.Timers = append(s.Timers, r.timer())
	}
	for range r.num(api.MaxUpdates) {
		s.Updates = append(s.Updates, r.update())
	}
	s.Result = r.value()
	s.Reason = r.text(api.MaxText)
	return s
}

// task reads a task's fields. Whether the run has its Event is asked of the whole state.
func (r reader) task() api.Task {
	var t api.Task
	t.State = r.num(api.TaskTaken)
	t.Attempt = r.num(maxTry)
	t.Due = r.num(maxDue)
	t.Event = r.num(api.MaxEvents)
	t.Seen = r.num(api.MaxEvents)
	return t
}

func (r reader) timer() api.Timer {
	var t api.Timer
	t.Name = r.text(api.MaxName)
	t.Due = r.num(maxDue)
	return t
}

func (r reader) update() api.Update {
	var u api.Update
	u.Name = r.text(api.MaxName)
	u.Value = r.value()
	u.Stage = r.num(maxStage)
	u.Outcome = r.value()
	return u
}
