package command

import (
	"math"
	"reflect"
	"slices"
	"strings"
	"testing"

	"usher/api"
)

const (
	theNaN   uint64 = 0x7ff8000000000000
	otherNaN uint64 = 0x7ff0000000000001
	minus0   uint64 = 1 << 63
)

// What kinds of commands have, as the document has it.
var (
	named   = []int{1, 2, 4, 5, 6}
	texted  = []int{8}
	valued  = []int{3, 5, 6, 7}
	delayed = []int{1}
	closing = []int{7, 8, 9}
)

func text(s string) api.Value {
	return api.Value{Kind: api.VText, Text: s}
}

// listOf gives a value that has memory of its own.
func listOf(s string) api.Value {
	return api.Value{Kind: api.VList, List: []api.Value{text(s)}}
}

func long(n int) string {
	return strings.Repeat("x", n)
}

// nested gives a number within so many lists.
func nested(lists int) api.Value {
	v := api.Value{Kind: api.VInt, Int: 1}
	for range lists {
		v = api.Value{Kind: api.VList, List: []api.Value{v}}
	}
	return v
}

// values are some that may be, and some that may not; the first one is the zero value.
func values() (good, bad []api.Value) {
	good = []api.Value{{}, {Kind: api.VInt, Int: math.MinInt}, {Kind: api.VFloat, Bits: theNaN}, {Kind: api.VFloat, Bits: minus0}, text(""), text(long(200)), nested(4), {Kind: api.VList}}
	bad = []api.Value{{Kind: 5}, {Kind: -1}, {Int: 1}, {Bits: minus0}, {Text: "a"}, {List: []api.Value{{}}}, {Kind: api.VFloat, Bits: otherNaN}, text(long(201)), nested(5), {Kind: api.VList, List: make([]api.Value, 13)}}
	return good, bad
}

// full gives a command of that kind in which each field that it has is not zero.
func full(kind int) api.Command {
	c := api.Command{Kind: kind}
	if slices.Contains(named, kind) || slices.Contains(texted, kind) {
		c.Name = "n"
	}
	if slices.Contains(valued, kind) {
		c.Value = listOf("v")
	}
	if slices.Contains(delayed, kind) {
		c.Delay = 3
	}
	return c
}

// checked complains unless Check takes a command, or refuses it.
func checked(t *testing.T, why string, c api.Command, may bool) {
	t.Helper()
	want := api.ErrArg
	if may {
		want = api.OK
	}
	if e := Check(c); e != want {
		t.Errorf("%s: %+v: %d, not %d", why, c, e, want)
	}
}

func TestKinds(t *testing.T) {
	for want, kind := range []int{api.CmTimer, api.CmTimerOff, api.CmMarker, api.CmAccept, api.CmReject, api.CmOutcome, api.CmComplete, api.CmFail, api.CmCancel} {
		if kind != want+1 {
			t.Errorf("a kind is %d, not %d", kind, want+1)
		}
	}
	for _, kind := range []int{math.MinInt, -9, -1, 0, 1, 2, 3, 4, 5, 6, 7, 8, 9, 10, 11, 13, 256 + 9, 1<<32 + 9, math.MaxInt} {
		checked(t, "with what it has", full(kind), 1 <= kind && kind <= 9)
	}
	for kind := range 12 { // alone: no name is none, but no text is one
		checked(t, "alone", api.Command{Kind: kind}, slices.Contains([]int{3, 7, 8, 9}, kind))
	}
	checked(t, "the zero command", api.Command{}, false)
}

// TestFieldsThatAKindHasNot sets each field of each kind that has none such.
func TestFieldsThatAKindHasNot(t *testing.T) {
	for kind := 1; kind <= 9; kind++ {
		if !slices.Contains(named, kind) && !slices.Contains(texted, kind) {
			for _, s := range []string{"a", " ", "\x00", long(24), long(300)} {
				c := full(kind)
				c.Name = s
				checked(t, "a Name too many", c, false)
			}
		}
		if !slices.Contains(valued, kind) {
			good, bad := values()
			for _, v := range append(good[1:], bad...) {
				c := full(kind)
				c.Value = v
				checked(t, "a Value too many", c, false)
			}
			c := full(kind)
			c.Value.List = []api.Value{}
			checked(t, "an empty list is none", c, true)
		}
		if !slices.Contains(delayed, kind) {
			for _, n := range []int{math.MinInt, -1, 1, 1 << 30, 1 << 32, math.MaxInt} {
				c := full(kind)
				c.Delay = n
				checked(t, "a Delay too many", c, false)
			}
		}
	}
}

func TestNames(t *testing.T) {
	for s, may := range map[string]bool{
		"a": true, "_": true, "0": true, "Z.-_": true, long(24): true,
		"": false, ".a": false, "-": false, "a b": false, "a/b": false, "\xff": false, "a\x00": false, long(25): false, long(200): false, long(201): false,
	} {
		for _, kind := range named {
			c := full(kind)
			c.Name = s
			checked(t, "a Name", c, may)
		}
	}
	for s, may := range map[string]bool{
		"": true, "a": true, ".": true, "why? \xff\x00": true, long(25): true, long(199): true, long(200): true,
		long(201): false, long(202): false, long(1000): false,
	} {
		for _, kind := range texted {
			c := full(kind)
			c.Name = s
			checked(t, "a text", c, may)
		}
	}
}

func TestValues(t *testing.T) {
	good, bad := values()
	for _, kind := range valued {
		for i, v := range append(good, bad...) {
			c := full(kind)
			c.Value = v
			checked(t, "a Value", c, i < len(good))
		}
	}
}

func TestDelays(t *testing.T) {
	for _, n := range []int{math.MinInt, -1 << 30, -1, 0, 1, 1<<30 - 1, 1 << 30, 1<<30 + 1, 1 << 31, 1 << 32, 1 << 40, math.MaxInt} {
		c := full(api.CmTimer)
		c.Delay = n
		checked(t, "a Delay", c, 0 <= n && n <= 1<<30)
	}
}

func TestCheckChangesNothing(t *testing.T) {
	for kind := range 11 {
		c := full(kind)
		Check(c)
		Closes([]api.Command{c})
		if !reflect.DeepEqual(c, full(kind)) {
			t.Errorf("kind %d was changed", kind)
		}
	}
}

func TestCloses(t *testing.T) {
	if Closes(nil) || Closes([]api.Command{}) {
		t.Error("no list closes")
	}
	for _, kind := range []int{math.MinInt, -7, -1, 0, 1, 2, 3, 4, 5, 6, 7, 8, 9, 10, 11, 256 + 7, 1<<32 + 7, math.MaxInt} {
		want := slices.Contains(closing, kind)
		for n := range 4 {
			for _, ahead := range []int{api.CmMarker, api.CmComplete, api.CmFail, api.CmCancel, 0} {
				l := slices.Repeat([]api.Command{full(ahead)}, n)
				if Closes(append(l, full(kind))) != want {
					t.Errorf("kind %d behind %d of kind %d: Closes is not %v", kind, n, ahead, want)
				}
			}
		}
	}
	// What may not be closes by its Kind.
	if !Closes([]api.Command{{Kind: api.CmCancel, Name: "a", Delay: -1}}) {
		t.Error("a command that may not be")
	}
	// There may be more than a plan takes.
	if !Closes(append(make([]api.Command, 100), full(api.CmFail))) || Closes(append(slices.Repeat([]api.Command{full(api.CmFail)}, 100), full(api.CmTimer))) {
		t.Error("a long list")
	}
}
