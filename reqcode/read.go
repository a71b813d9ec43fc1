package reqcode

import (
	"usher/api"
	"usher/event"
	"usher/pack"
	"usher/rowcode"
	"usher/value"
)

// ReadRequest gives the request whose bytes b is.
func ReadRequest(b []byte) (api.Request, api.Errno) {
	if len(b) > api.MaxStep {
		return api.Request{}, api.ErrLong
	}
	return only(b, reader.request)
}

// ReadReply gives the reply whose bytes b is, however many they are.
func ReadReply(b []byte) (api.Reply, api.Errno) {
	return only(b, reader.reply)
}

// reader reads as the one that it embeds, which keeps its first error: behind that all is zero, and every list is empty.
type reader struct {
	*pack.Reader
}

// only gives what is read of b, behind which nothing stands; the zero of it and the first error.
func only[T any](b []byte, read func(r reader) T) (T, api.Errno) {
	r := reader{pack.Open(b)}
	x := read(r)
	if e := r.End(); e != api.OK {
		var none T
		return none, e
	}
	return x, api.OK
}

// readList reads how many there are, and each of them.
func readList[T any](r reader, most int, read func() T) []T {
	var l []T
	for range r.Num(most) {
		l = append(l, read())
		if r.Err() != api.OK {
			return nil
		}
	}
	return l
}

func (r reader) num() int {
	return r.Num(maxNum)
}

func (r reader) text() string {
	return r.Text(api.MaxText)
}

func (r reader) value() api.Value {
	return value.Read(r.Reader)
}

func (r reader) request() api.Request {
	var q api.Request
	q.Kind = r.Num(maxKind)
	q.Flow = r.text()
	q.Request = r.text()
	q.Name = r.text()
	q.Value = r.value()
	q.Run = r.num()
	q.Num = r.num()
	q.Wait = r.num()
	q.Policy = r.policy()
	q.Commands = readList(r, api.MaxCommands, r.command)
	q.Answers = readList(r, api.MaxAnswers, r.answer)
	return q
}

func (r reader) policy() api.Policy {
	var p api.Policy
	p.First = r.num()
	p.Coef = r.Bits()
	p.Most = r.num()
	return p
}

func (r reader) command() api.Command {
	var c api.Command
	c.Kind = r.Num(maxKind)
	c.Name = r.text()
	c.Value = r.value()
	c.Delay = r.num()
	return c
}

func (r reader) answer() api.Answer {
	var a api.Answer
	a.Op = r.num()
	a.Value = r.value()
	return a
}

func (r reader) reply() api.Reply {
	var x api.Reply
	x.Code = api.Errno(r.Num(maxKind))
	x.Run = r.num()
	x.Num = r.num()
	x.Value = r.value()
	if r.Flag() {
		x.State = rowcode.ReadState(r.Reader)
	}
	x.Events = readList(r, api.MaxEvents, r.event)
	x.Queries = readList(r, maxAsks, r.ask)
	x.Updates = readList(r, maxAsks, r.ask)
	return x
}

func (r reader) event() api.Event {
	return event.Read(r.Reader)
}

func (r reader) ask() api.Ask {
	var a api.Ask
	a.Op = r.num()
	a.Name = r.text()
	a.Value = r.value()
	return a
}
