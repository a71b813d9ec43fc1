package table

import (
	"bytes"
	"fmt"
	"math"
	"math/rand"
	"reflect"
	"slices"
	"strings"
	"testing"

	"usher/api"
)

const (
	two    uint64 = 1 << 62
	minus0 uint64 = 1 << 63
)

func long(n int) string {
	return strings.Repeat("x", n)
}

// usual gives a request whose every field is another one and not zero, those that no Key has too.
func usual() api.Request {
	return api.Request{
		Kind: api.OpSignal, Flow: "f", Request: "r", Name: "n",
		Value: api.Value{Kind: api.VList, List: []api.Value{{Kind: api.VText, Text: "v"}}},
		Run:   4, Num: 5, Wait: 6,
		Policy:   api.Policy{First: 7, Coef: two, Most: 8},
		Commands: []api.Command{{Kind: api.CmCancel}},
		Answers:  []api.Answer{{Op: 9}},
	}
}

// of gives the usual request, changed.
func of(change func(r *api.Request)) api.Request {
	r := usual()
	change(&r)
	return r
}

// counted are changes of what a Key has.
func counted() map[string]func(r *api.Request) {
	return map[string]func(r *api.Request){
		"Kind":          func(r *api.Request) { r.Kind++ },
		"Kind below 0":  func(r *api.Request) { r.Kind = -r.Kind },
		"Name":          func(r *api.Request) { r.Name = "m" },
		"a longer Name": func(r *api.Request) { r.Name += "n" },
		"no Name":       func(r *api.Request) { r.Name = "" },
		"Value":         func(r *api.Request) { r.Value.List[0].Text = "w" },
		"no Value":      func(r *api.Request) { r.Value = api.Value{} },
		"Value's Kind":  func(r *api.Request) { r.Value = api.Value{Kind: api.VList} },
		"Num":           func(r *api.Request) { r.Num++ },
		"Num below 0":   func(r *api.Request) { r.Num = -r.Num },
		"Num 2^32 more": func(r *api.Request) { r.Num += 1 << 32 },
		"First":         func(r *api.Request) { r.Policy.First++ },
		"First below 0": func(r *api.Request) { r.Policy.First = -r.Policy.First },
		"Coef":          func(r *api.Request) { r.Policy.Coef++ },
		"Coef's sign":   func(r *api.Request) { r.Policy.Coef ^= minus0 },
		"Most":          func(r *api.Request) { r.Policy.Most++ },
		"Most below 0":  func(r *api.Request) { r.Policy.Most = -r.Policy.Most },
	}
}

// uncounted are changes of what no Key has.
func uncounted() map[string]func(r *api.Request) {
	return map[string]func(r *api.Request){
		"Flow":        func(r *api.Request) { r.Flow = "g" },
		"Request":     func(r *api.Request) { r.Request = "s" },
		"Run":         func(r *api.Request) { r.Run++ },
		"Wait":        func(r *api.Request) { r.Wait++ },
		"Commands":    func(r *api.Request) { r.Commands[0].Kind = api.CmFail },
		"no Commands": func(r *api.Request) { r.Commands = nil },
		"Answers":     func(r *api.Request) { r.Answers[0].Op++ },
		"no Answers":  func(r *api.Request) { r.Answers = nil },
	}
}

func TestKeysBytes(t *testing.T) {
	zero := "8000000000000000"
	for want, r := range map[string]api.Request{
		zero + "00" + "00" + zero + zero + "0000000000000000" + zero:                                                                        {},
		"8000000000000002" + "016e" + "0401" + "030176" + "8000000000000005" + "8000000000000007" + "4000000000000000" + "8000000000000008": usual(),
		"7fffffffffffffff" + "00" + "00" + "0000000000000000" + "ffffffffffffffff" + "ffffffffffffffff" + "7ffffffffffffffe": {
			Kind: -1, Num: math.MinInt, Policy: api.Policy{First: math.MaxInt, Coef: math.MaxUint64, Most: -2},
		},
		// A value that may not be has no bytes.
		zero + "0161" + zero + zero + "0000000000000000" + zero: {Name: "a", Value: api.Value{Kind: 9}},
	} {
		if got := fmt.Sprintf("%x", Key(r)); got != want {
			t.Errorf("%+v: %s, not %s", r, got, want)
		}
	}
}

func TestKeyHasWhatCounts(t *testing.T) {
	for why, change := range counted() {
		if bytes.Equal(Key(of(change)), Key(usual())) {
			t.Errorf("%s does not count", why)
		}
		if !bytes.Equal(Key(of(change)), Key(of(change))) {
			t.Errorf("%s: two Keys of one request", why)
		}
	}
	for why, change := range uncounted() {
		if !bytes.Equal(Key(of(change)), Key(usual())) {
			t.Errorf("%s counts", why)
		}
	}
	// Fields that stand beside each other do not run into each other.
	if bytes.Equal(Key(api.Request{Name: "a\x00"}), Key(api.Request{Name: "a"})) {
		t.Error("a Name that goes on as a Value begins")
	}
}

func TestKeyIsNew(t *testing.T) {
	r := usual()
	k := Key(r)
	clear(k[:cap(k)])
	if !reflect.DeepEqual(r, usual()) || !bytes.Equal(Key(r), Key(usual())) {
		t.Error("a Key shares memory")
	}
}

// done gives one of a table that may be.
func done(request string) api.Done {
	return api.Done{Request: request, Kind: 1, Key: []byte(request), Run: 1}
}

// tableOf gives a table of requests.
func tableOf(requests ...string) []api.Done {
	var out []api.Done
	for _, s := range requests {
		out = append(out, done(s))
	}
	return out
}

// rising gives so many names that rise: m00, m02, .. so that there is room between them.
func rising(n int) []string {
	var out []string
	for i := range n {
		out = append(out, fmt.Sprintf("m%02d", 2*i))
	}
	return out
}

func TestCanOfMany(t *testing.T) {
	for n, can := range map[int]bool{0: true, 1: true, 2: true, 29: true, 30: true, 31: false, 32: false, 40: false} {
		if Can(tableOf(rising(n)...)) != can {
			t.Errorf("a table of %d: Can is not %v", n, can)
		}
	}
	if !Can(nil) || !Can([]api.Done{}) {
		t.Error("a table of none")
	}
}

func TestCanOfRequests(t *testing.T) {
	for requests, can := range map[string]bool{
		"a b": true, "A a": true, "0 A _ a": true, "a aa ab b": true, "a a-": true,
		"b a": false, "a a": false, "a b b": false, "a c b": false, "b c a": false, "a A": false, "aa a": false, "a b c d c": false,
	} {
		if Can(tableOf(strings.Fields(requests)...)) != can {
			t.Errorf("%s: Can is not %v", requests, can)
		}
	}
	for s, can := range map[string]bool{
		"a": true, "_": true, "0": true, "Z.-_": true, long(24): true,
		"": false, ".a": false, "-": false, "a b": false, "a/b": false, "\xff": false, "a\x00": false, long(25): false, long(200): false,
	} {
		if Can(tableOf(s)) != can {
			t.Errorf("%q: Can is not %v", s, can)
		}
	}
	// What is no name is none at each place.
	for _, l := range [][]string{{"", "a"}, {".", "a"}, {"a", "a/"}, {"a", "b?", "c"}, {"a", "b", "z~"}} {
		if Can(tableOf(l...)) {
			t.Errorf("%q can be", l)
		}
	}
}

// TestCanOfFields changes the first, a middle and the last one of a table.
func TestCanOfFields(t *testing.T) {
	ask := func(why string, can bool, change func(d *api.Done)) {
		t.Helper()
		for at := range 3 {
			l := tableOf("a", "b", "c")
			change(&l[at])
			if Can(l) != can {
				t.Errorf("%s at %d: Can is not %v", why, at, can)
			}
		}
	}
	for _, n := range []int{math.MinInt, -1, 0, 1, 2, 9, 10, 11, 12, 13, 14, 15, 256 + 1, 1<<32 + 1, math.MaxInt} {
		ask(fmt.Sprint("Kind ", n), 1 <= n && n <= 13, func(d *api.Done) { d.Kind = n })
		ask(fmt.Sprint("Run ", n), 1 <= n && n <= 10, func(d *api.Done) { d.Run = n })
	}
	for _, n := range []int{0, 1, 4095, 4096, 4097, 8192} {
		ask(fmt.Sprint("a Key of ", n), n <= 4096, func(d *api.Done) { d.Key = make([]byte, n) })
	}
	ask("no Key", true, func(d *api.Done) { d.Key = nil })
	ask("the zero of it", false, func(d *api.Done) { *d = api.Done{} })
	if api.OpStart != 1 || api.OpFire != 13 {
		t.Error("other kinds than the document's")
	}
}

func TestFind(t *testing.T) {
	l := tableOf("a", "c", "e")
	for i, s := range []string{"a", "c", "e"} {
		l[i].Kind, l[i].Run = i+3, i+5
		if d, ok := Find(l, s); !ok || !reflect.DeepEqual(d, l[i]) {
			t.Errorf("%s: %+v, %v", s, d, ok)
		}
	}
	for _, s := range []string{"", "b", "A", "aa", "f", "\xff", "a\x00"} {
		if d, ok := Find(l, s); ok || !reflect.DeepEqual(d, api.Done{}) {
			t.Errorf("%q: %+v, %v", s, d, ok)
		}
	}
	for _, none := range [][]api.Done{nil, {}} {
		if d, ok := Find(none, ""); ok || !reflect.DeepEqual(d, api.Done{}) {
			t.Error("of none:", d, ok)
		}
	}
}

// TestFindOfWhatCannotBe: whatever stands in a table, the first one of that Request is told.
func TestFindOfWhatCannotBe(t *testing.T) {
	l := tableOf("z", "a", "", "z", "b", "a")
	for i := range l {
		l[i].Run = 10*i - 1
	}
	for s, at := range map[string]int{"z": 0, "a": 1, "": 2, "b": 4} {
		if d, ok := Find(l, s); !ok || !reflect.DeepEqual(d, l[at]) {
			t.Errorf("%q: %+v, %v", s, d, ok)
		}
	}
	many := tableOf(rising(50)...)
	if d, ok := Find(many, many[49].Request); !ok || !reflect.DeepEqual(d, many[49]) {
		t.Error("the last one of 50:", d, ok)
	}
}

func TestFindIsNew(t *testing.T) {
	l := tableOf("a", "b", "c")
	d, _ := Find(l, "b")
	d.Key[0] = 0
	if !reflect.DeepEqual(l, tableOf("a", "b", "c")) {
		t.Error("what was found shares memory with the table")
	}
	d, _ = Find(l, "b")
	l[1].Key[0] = 0
	if !reflect.DeepEqual(d, done("b")) {
		t.Error("the table shares memory with what was found")
	}
}

func TestTheExample(t *testing.T) {
	r := api.Request{Kind: api.OpSignal, Request: "x"}
	l, e := Add(nil, r, 2)
	if e != api.OK || len(l) != 1 {
		t.Fatal(l, e)
	}
	if run, e := Ask(l, r); run != 2 || e != api.OK {
		t.Error(run, e)
	}
	r.Kind = api.OpStart
	if run, e := Ask(l, r); run != 0 || e != api.ErrMismatch {
		t.Error(run, e)
	}
}

// asked complains unless Ask answers that.
func asked(t *testing.T, why string, l []api.Done, r api.Request, run int, code api.Errno) {
	t.Helper()
	if n, e := Ask(l, r); n != run || e != code {
		t.Errorf("%s: %d, %d, not %d, %d", why, n, e, run, code)
	}
}

func TestAsk(t *testing.T) {
	mine := api.Done{Request: "r", Kind: usual().Kind, Key: Key(usual()), Run: 3}
	for at := range 3 {
		l := slices.Insert(tableOf("a", "z"), at, mine)
		asked(t, fmt.Sprint("the same, at ", at), l, usual(), 3, api.OK)
		for why, change := range counted() {
			asked(t, "another "+why, l, of(change), 0, api.ErrMismatch)
		}
		for why, change := range uncounted() {
			if why != "Request" {
				asked(t, "another "+why, l, of(change), 3, api.OK)
			}
		}
		for _, s := range []string{"", "q", "s", "R", "rr"} {
			asked(t, "of "+s, l, of(func(r *api.Request) { r.Request = s }), 0, api.ErrNone)
		}
	}
	asked(t, "of none", nil, usual(), 0, api.ErrNone)
	asked(t, "of none", []api.Done{}, api.Request{}, 0, api.ErrNone)
	asked(t, "of others", tableOf("a", "z"), usual(), 0, api.ErrNone)
}

// TestAskHoldsBothAgainstEachOther: the Kind counts, also if the Key is the same, and the Key to its last byte.
func TestAskHoldsBothAgainstEachOther(t *testing.T) {
	key := Key(usual())
	for why, d := range map[string]api.Done{
		"another Kind alone": {Kind: api.OpStart, Key: key},
		"a Kind of 0":        {Key: key},
		"no Key":             {Kind: api.OpSignal},
		"a beginning":        {Kind: api.OpSignal, Key: key[:len(key)-1]},
		"more":               {Kind: api.OpSignal, Key: append(slices.Clone(key), 0)},
		"its last byte":      {Kind: api.OpSignal, Key: append(slices.Clone(key[:len(key)-1]), key[len(key)-1]^1)},
	} {
		d.Request, d.Run = "r", 3
		asked(t, why, []api.Done{d}, usual(), 0, api.ErrMismatch)
	}
	// Of two of one Request the first one counts, and any Run is told.
	other := api.Done{Request: "r", Kind: api.OpStart, Key: key, Run: 4}
	for _, run := range []int{math.MinInt, -1, 0, 1, 10, 11, math.MaxInt} {
		mine := api.Done{Request: "r", Kind: api.OpSignal, Key: key, Run: run}
		asked(t, "the first of two", []api.Done{mine, other}, usual(), run, api.OK)
		asked(t, "the second of two", []api.Done{other, mine}, usual(), 0, api.ErrMismatch)
	}
	zero := api.Done{Key: Key(api.Request{}), Run: 7}
	asked(t, "the zero request", []api.Done{zero}, api.Request{}, 7, api.OK)
}

// added complains unless Add of a request puts it at that place, and nothing else is another.
func added(t *testing.T, l []api.Done, request string, at int) {
	t.Helper()
	r := of(func(r *api.Request) { r.Request = request })
	want := slices.Insert(cloned(l), at, api.Done{Request: request, Kind: r.Kind, Key: Key(r), Run: 9})
	got, e := Add(l, r, 9)
	if e != api.OK || !reflect.DeepEqual(got, want) {
		t.Errorf("%s to %v: %v, %d", request, requestsOf(l), requestsOf(got), e)
	}
}

// kept complains unless Add refuses with that error, and the table is told as it was.
func kept(t *testing.T, l []api.Done, request string, code api.Errno) {
	t.Helper()
	got, e := Add(l, of(func(r *api.Request) { r.Request = request }), 9)
	if e != code || !reflect.DeepEqual(got, cloned(l)) {
		t.Errorf("%s to %v: %v, %d, not %d", request, requestsOf(l), requestsOf(got), e, code)
	}
}

func cloned(l []api.Done) []api.Done {
	out := slices.Clone(l)
	for i := range out {
		out[i].Key = slices.Clone(out[i].Key)
	}
	return out
}

func requestsOf(l []api.Done) []string {
	var out []string
	for _, d := range l {
		out = append(out, d.Request)
	}
	return out
}

func TestAdd(t *testing.T) {
	added(t, nil, "a", 0)
	added(t, []api.Done{}, "a", 0)
	l := tableOf("b", "d", "f")
	for request, at := range map[string]int{"a": 0, "A": 0, "": 0, "c": 1, "bb": 1, "e": 2, "g": 3, "\xff": 3} {
		added(t, l, request, at)
	}
	for _, s := range []string{"b", "d", "f"} {
		kept(t, l, s, api.ErrArg)
	}
}

func TestAddToMany(t *testing.T) {
	for _, n := range []int{28, 29} {
		l := tableOf(rising(n)...)
		added(t, l, "a", 0)
		added(t, l, "m15", 8)
		added(t, l, "z", n)
		kept(t, l, "m00", api.ErrArg)
	}
	for _, n := range []int{30, 31, 32, 60} {
		l := tableOf(rising(n)...)
		for _, s := range []string{"a", "m15", "z", ""} {
			kept(t, l, s, api.ErrFull)
		}
		for _, d := range []api.Done{l[0], l[n/2], l[n-1]} { // both at once
			kept(t, l, d.Request, api.ErrArg)
		}
	}
}

// TestAddToWhatDoesNotRise: it stands ahead of the first one that is above it, wherever those below it are.
func TestAddToWhatDoesNotRise(t *testing.T) {
	l := tableOf("d", "a", "f", "b", "f")
	added(t, l, "c", 0)
	added(t, l, "e", 2)
	added(t, l, "g", 5)
	kept(t, l, "b", api.ErrArg)
	kept(t, l, "f", api.ErrArg)
	added(t, tableOf("", "", "?"), "a", 3)
	kept(t, tableOf("", "", "?"), "", api.ErrArg)
}

// TestAddTakesAnything: whether what is added can be is not asked.
func TestAddTakesAnything(t *testing.T) {
	for _, run := range []int{math.MinInt, -1, 0, 1, 10, 11, math.MaxInt} {
		for _, r := range []api.Request{{}, usual(), {Kind: math.MaxInt, Request: long(300), Name: long(5000)}, {Kind: math.MinInt, Request: "?"}} {
			l, e := Add(nil, r, run)
			want := []api.Done{{Request: r.Request, Kind: r.Kind, Key: Key(r), Run: run}}
			if e != api.OK || !reflect.DeepEqual(l, want) {
				t.Errorf("%+v: %+v, %d", r, l, e)
			}
		}
	}
}

// TestAddSharesNothing also gives Add a table with room behind it, into which nothing may be put.
func TestAddSharesNothing(t *testing.T) {
	for _, c := range []struct {
		request string
		n       int
	}{{"a", 3}, {"m03", 3}, {"z", 3}, {"m00", 3}, {"z", 30}, {"m04", 31}} {
		r := of(func(r *api.Request) { r.Request = c.request })
		made := func() []api.Done { return append(make([]api.Done, 0, 64), tableOf(rising(c.n)...)...) }
		want, _ := Add(made(), r, 9)
		want = cloned(want)
		l := made()
		got, _ := Add(l, r, 9)
		spoil(got)
		if !reflect.DeepEqual(l[:cap(l)], made()[:64]) {
			t.Errorf("%s to %d: what was handed in changed with what was told", c.request, c.n)
		}
		l = made()
		got, _ = Add(l, r, 9)
		spoil(l)
		if !reflect.DeepEqual(got, want) {
			t.Errorf("%s to %d: what was told changed with what was handed in", c.request, c.n)
		}
	}
}

// spoil changes all that a table shares with others, if it does.
func spoil(l []api.Done) {
	l = l[:cap(l)]
	for i := range l {
		clear(l[i].Key[:cap(l[i].Key)])
		l[i].Request, l[i].Run = "spoilt", -1
	}
}

// TestNothingIsChanged: what is asked about a table, or refused, leaves it as it was.
func TestNothingIsChanged(t *testing.T) {
	l, r := tableOf(rising(30)...), usual()
	Can(l)
	Find(l, "m00")
	Ask(l, r)
	Ask(l, of(func(r *api.Request) { r.Request = "m02" }))
	Add(l, r, 1)
	if !reflect.DeepEqual(l, tableOf(rising(30)...)) || !reflect.DeepEqual(r, usual()) {
		t.Error("a table, or a request, was changed")
	}
}

// anyRequest gives a request with one of many names, of few kinds and values.
func anyRequest(r *rand.Rand) api.Request {
	return api.Request{
		Kind: 1 + r.Intn(13), Request: fmt.Sprint("r", r.Intn(40)), Name: string(rune('a' + r.Intn(2))), Num: r.Intn(2),
		Value:  api.Value{Kind: api.VInt, Int: r.Intn(2)},
		Policy: api.Policy{First: r.Intn(2), Coef: two * uint64(r.Intn(2)), Most: r.Intn(2)},
	}
}

// isSame says whether two requests of one name are the same, as far as it counts.
func isSame(a, b api.Request) bool {
	return a.Kind == b.Kind && a.Name == b.Name && a.Num == b.Num && reflect.DeepEqual(a.Value, b.Value) && a.Policy == b.Policy
}

// TestWhatWasAddedIsFound holds tables, from none until they are full, against a plain list of what was added.
func TestWhatWasAddedIsFound(t *testing.T) {
	type entry struct {
		r   api.Request
		run int
	}
	r := rand.New(rand.NewSource(19))
	told := map[api.Errno]int{}
	for range 40 {
		var l []api.Done
		byName := map[string]entry{}
		for range 200 {
			x, run := anyRequest(r), 1+r.Intn(10)
			_, there := byName[x.Request]
			next, e := Add(l, x, run)
			told[e]++
			switch {
			case there != (e == api.ErrArg), !there && (len(l) == 30) != (e == api.ErrFull):
				t.Fatalf("%+v to a table of %d: %d", x, len(l), e)
			case e != api.OK && !reflect.DeepEqual(next, l):
				t.Fatalf("with %d the table is another", e)
			case e == api.OK:
				byName[x.Request] = entry{x, run}
			}
			l = next
			if !Can(l) || len(l) != len(byName) {
				t.Fatalf("can't be: %+v", l)
			}
			for _, y := range byName {
				asked(t, "what was added", l, y.r, y.run, api.OK)
			}
			y := anyRequest(r)
			was, ok := byName[y.Request]
			switch {
			case !ok:
				asked(t, "what was not added", l, y, 0, api.ErrNone)
			case isSame(was.r, y):
				asked(t, "the same again", l, y, was.run, api.OK)
			default:
				asked(t, "another one", l, y, 0, api.ErrMismatch)
			}
		}
	}
	if told[api.OK] == 0 || told[api.ErrArg] == 0 || told[api.ErrFull] == 0 {
		t.Error("not all was tried:", told)
	}
}
