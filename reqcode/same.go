package reqcode

import (
	"slices"

	"usher/api"
	"usher/event"
	"usher/rowcode"
	"usher/value"
)

// SameRequest says whether all fields are the same.
func SameRequest(a, b api.Request) bool {
	return a.Kind == b.Kind && a.Flow == b.Flow && a.Request == b.Request && a.Name == b.Name &&
		value.Same(a.Value, b.Value) &&
		a.Run == b.Run && a.Num == b.Num && a.Wait == b.Wait && a.Policy == b.Policy &&
		slices.EqualFunc(a.Commands, b.Commands, sameCommand) &&
		slices.EqualFunc(a.Answers, b.Answers, sameAnswer)
}

func sameCommand(a, b api.Command) bool {
	return a.Kind == b.Kind && a.Name == b.Name && value.Same(a.Value, b.Value) && a.Delay == b.Delay
}

func sameAnswer(a, b api.Answer) bool {
	return a.Op == b.Op && value.Same(a.Value, b.Value)
}

// SameReply says whether all fields are the same.
func SameReply(a, b api.Reply) bool {
	return a.Code == b.Code && a.Run == b.Run && a.Num == b.Num &&
		value.Same(a.Value, b.Value) && sameState(a.State, b.State) &&
		slices.EqualFunc(a.Events, b.Events, event.Same) &&
		slices.EqualFunc(a.Queries, b.Queries, sameAsk) &&
		slices.EqualFunc(a.Updates, b.Updates, sameAsk)
}

// sameState asks for two workflows that have nothing but their states: this layer does not call the one that knows states.
func sameState(a, b api.State) bool {
	return rowcode.Same(api.Flow{State: a}, api.Flow{State: b})
}

func sameAsk(a, b api.Ask) bool {
	return a.Op == b.Op && a.Name == b.Name && value.Same(a.Value, b.Value)
}
