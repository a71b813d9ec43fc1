package rows

import (
	"bytes"
	"fmt"
	"maps"
	"math"
	"math/rand"
	"slices"
	"strings"
	"testing"

	"usher/api"
)

// number is a number's bytes as the document tells them.
func number(n int) []byte {
	if n < 240 {
		return []byte{byte(max(n, 0))}
	}
	var b []byte
	for ; n > 0; n >>= 8 {
		b = append([]byte{byte(n)}, b...)
	}
	return append([]byte{byte(239 + len(b))}, b...)
}

func text(s string) []byte {
	return append(number(len(s)), s...)
}

// byTheBook gives the bytes of rows, also of those that may not be.
func byTheBook(r api.Rows) []byte {
	out := number(len(r.Rows))
	for _, x := range r.Rows {
		out = append(out, slices.Concat(text(x.Key), number(x.Version), text(string(x.Bytes)))...)
	}
	out = append(out, number(len(r.Branches))...)
	for _, x := range r.Branches {
		out = append(out, slices.Concat(text(x.Key), number(len(x.Events)))...)
		for _, e := range x.Events {
			out = append(out, text(string(e))...)
		}
	}
	return out
}

// shown tells rows exactly, empty lists as none; numbers below 0 too, which have no bytes.
func shown(r api.Rows) string {
	var s strings.Builder
	for _, x := range r.Rows {
		fmt.Fprintf(&s, "%q %d %q; ", x.Key, x.Version, x.Bytes)
	}
	for _, x := range r.Branches {
		fmt.Fprintf(&s, "%q: %q; ", x.Key, x.Events)
	}
	return s.String()
}

// brief gives the beginning of what shown tells.
func brief(r api.Rows) string {
	return fmt.Sprintf("%.300s", shown(r))
}

// long gives a text of n bytes.
func long(n int) string {
	return strings.Repeat("x", n)
}

// events gives n events of one byte each.
func events(n int) [][]byte {
	var out [][]byte
	for i := range n {
		out = append(out, []byte{byte(i + 1)})
	}
	return out
}

// texts gives events of these texts.
func texts(l ...string) [][]byte {
	var out [][]byte
	for _, s := range l {
		out = append(out, []byte(s))
	}
	return out
}

func row(key string, version int, b string) api.Row {
	return api.Row{Key: key, Version: version, Bytes: []byte(b)}
}

func branch(key string, l ...string) api.Branch {
	return api.Branch{Key: key, Events: texts(l...)}
}

// onlyRows and onlyBranches give rows that have nothing else.
func onlyRows(l ...api.Row) api.Rows {
	return api.Rows{Rows: l}
}

func onlyBranches(l ...api.Branch) api.Rows {
	return api.Rows{Branches: l}
}

// some gives rows that may be, with a little of each.
func some() api.Rows {
	return api.Rows{
		Rows: []api.Row{row("b", 1, "of b"), row("d", 7, ""), row("f", 1<<31-1, "of f")},
		Branches: []api.Branch{
			branch("h0"),
			branch("h2", "x", "y"),
			{Key: "h4", Events: events(119)},
			{Key: "h6", Events: events(120)},
		},
	}
}

// unsorted gives rows whose keys do not rise, with two of one key, and of no key.
func unsorted() api.Rows {
	return api.Rows{
		Rows:     []api.Row{row("m", 3, "first m"), row("z", 2, "z"), row("a", 1, "a"), row("m", 9, "second m"), row("", 5, "no key")},
		Branches: []api.Branch{branch("m", "1", "2"), branch("z", "z"), branch("a"), branch("m", "3"), branch("", "no", "key")},
	}
}

func TestGet(t *testing.T) {
	for _, c := range []struct {
		r    api.Rows
		key  string
		want string
		ok   bool
	}{
		{some(), "b", `"b" 1 "of b"; `, true},
		{some(), "d", `"d" 7 ""; `, true},
		{some(), "f", `"f" 2147483647 "of f"; `, true},
		{some(), "a", "", false},
		{some(), "c", "", false},
		{some(), "g", "", false},
		{some(), "", "", false},
		{some(), "h2", "", false}, // a branch's key is no row's
		{some(), "bb", "", false},
		{unsorted(), "m", `"m" 3 "first m"; `, true},
		{unsorted(), "z", `"z" 2 "z"; `, true},
		{unsorted(), "a", `"a" 1 "a"; `, true},
		{unsorted(), "", `"" 5 "no key"; `, true},
		{unsorted(), "b", "", false},
		{api.Rows{}, "", "", false},
		{api.Rows{}, "k", "", false},
		{onlyRows(row("k", -4, "x")), "k", `"k" -4 "x"; `, true},
		{onlyRows(row("k", 0, "")), "k", `"k" 0 ""; `, true},
		{onlyRows(row("\xff\x00", 1, "x")), "\xff\x00", `"\xff\x00" 1 "x"; `, true},
	} {
		x, ok := Get(c.r, c.key)
		if ok != c.ok {
			t.Errorf("Get(%s, %q) = %v", brief(c.r), c.key, ok)
		}
		if !ok && (x.Key != "" || x.Version != 0 || x.Bytes != nil) {
			t.Errorf("Get(%s, %q) gives %v beside false", brief(c.r), c.key, x)
		}
		if ok && shown(onlyRows(x)) != c.want {
			t.Errorf("Get(%s, %q) = %s, want %s", brief(c.r), c.key, shown(onlyRows(x)), c.want)
		}
	}
}

func TestEvents(t *testing.T) {
	for _, c := range []struct {
		r    api.Rows
		key  string
		want [][]byte
		ok   bool
	}{
		{some(), "h0", nil, true},
		{some(), "h2", texts("x", "y"), true},
		{some(), "h4", events(119), true},
		{some(), "h6", events(120), true},
		{some(), "h1", nil, false},
		{some(), "h", nil, false},
		{some(), "h7", nil, false},
		{some(), "b", nil, false}, // a row's key is no branch's
		{some(), "", nil, false},
		{unsorted(), "m", texts("1", "2"), true},
		{unsorted(), "z", texts("z"), true},
		{unsorted(), "a", nil, true},
		{unsorted(), "", texts("no", "key"), true},
		{unsorted(), "y", nil, false},
		{api.Rows{}, "", nil, false},
		{onlyBranches(api.Branch{Key: "k", Events: [][]byte{nil, {}}}), "k", [][]byte{nil, nil}, true},
		{onlyBranches(api.Branch{Key: "k", Events: events(200)}), "k", events(200), true},
	} {
		l, ok := Events(c.r, c.key)
		if ok != c.ok || !slices.EqualFunc(l, c.want, bytes.Equal) {
			t.Errorf("Events(%s, %q) = %q, %v, want %q, %v", brief(c.r), c.key, l, ok, c.want, c.ok)
		}
	}
}

// writes gives a batch of the key "new" with these writes.
func writes(l ...api.Write) api.Batch {
	return api.Batch{Key: "new", Row: []byte("row"), Writes: l}
}

// applied fails unless Apply answers that error, and these rows.
func applied(t *testing.T, what string, r api.Rows, b api.Batch, want api.Rows, code api.Errno) {
	t.Helper()
	was, asked := shown(r), fmt.Sprint(b)
	got, e := Apply(r, b)
	if e != code || shown(got) != shown(want) {
		t.Errorf("%s: Apply = %s, %d, want %s, %d", what, brief(got), e, brief(want), code)
	}
	if shown(r) != was || fmt.Sprint(b) != asked {
		t.Errorf("%s: Apply has changed what it was handed", what)
	}
	spoil(got)
	if shown(r) != was || fmt.Sprint(b) != asked {
		t.Errorf("%s: what Apply answers shares memory with what it was handed", what)
	}
}

// spoil changes all that rows have.
func spoil(r api.Rows) {
	for _, x := range r.Rows {
		clear(x.Bytes)
		_ = append(x.Bytes[:0], long(cap(x.Bytes))...)
	}
	for _, x := range r.Branches {
		for _, e := range x.Events {
			clear(e)
			_ = append(e[:0], long(cap(e))...)
		}
		clear(x.Events[:cap(x.Events)])
	}
	clear(r.Rows[:cap(r.Rows)])
	clear(r.Branches[:cap(r.Branches)])
}

// refused fails unless Apply answers that error, and the rows as they were.
func refused(t *testing.T, what string, r api.Rows, b api.Batch, code api.Errno) {
	t.Helper()
	applied(t, what, r, b, cloneOf(r), code)
}

// cloneOf gives the same rows, made by hand.
func cloneOf(r api.Rows) api.Rows {
	var out api.Rows
	for _, x := range r.Rows {
		out.Rows = append(out.Rows, row(x.Key, x.Version, string(x.Bytes)))
	}
	for _, x := range r.Branches {
		b := api.Branch{Key: x.Key}
		for _, e := range x.Events {
			b.Events = append(b.Events, []byte(string(e)))
		}
		out.Branches = append(out.Branches, b)
	}
	return out
}

func TestTheExample(t *testing.T) {
	b := api.Batch{Key: "k", Row: []byte("a")}
	r, e := Apply(api.Rows{}, b)
	if e != api.OK || shown(r) != `"k" 1 "a"; ` {
		t.Fatalf("Apply = %s, %d", shown(r), e)
	}
	refused(t, "again", r, b, api.ErrVersion)
}

func TestApplyToARow(t *testing.T) {
	b := func(key string, expect int) api.Batch {
		return api.Batch{Key: key, Expect: expect, Row: []byte("now")}
	}
	with := func(at int, x api.Row) api.Rows { // some, where x stands in the place of the row there
		r := some()
		r.Rows[at] = x
		return r
	}
	insert := func(at int, x api.Row) api.Rows {
		r := some()
		r.Rows = slices.Insert(r.Rows, at, x)
		return r
	}
	applied(t, "the first row", some(), b("b", 1), with(0, row("b", 2, "now")), api.OK)
	applied(t, "a row in the middle", some(), b("d", 7), with(1, row("d", 8, "now")), api.OK)
	applied(t, "a row to nothing", some(), api.Batch{Key: "d", Expect: 7}, with(1, row("d", 8, "")), api.OK)
	applied(t, "Version 2^31 - 1", some(), b("f", 1<<31-1), with(2, row("f", 1<<31, "now")), api.OK)
	applied(t, "ahead of all", some(), b("a", 0), insert(0, row("a", 1, "now")), api.OK)
	applied(t, "between two", some(), b("c", 0), insert(1, row("c", 1, "now")), api.OK)
	applied(t, "behind one of which it goes on", some(), b("d\x00", 0), insert(2, row("d\x00", 1, "now")), api.OK)
	applied(t, "behind all", some(), b("\xff", 0), insert(3, row("\xff", 1, "now")), api.OK)
	applied(t, "a row with a branch's key", some(), b("h2", 0), insert(3, row("h2", 1, "now")), api.OK)
	for _, c := range []struct {
		key    string
		expect int
	}{
		{"a", 1}, {"a", 1 << 31}, {"b", 0}, {"b", 2}, {"d", 6}, {"d", 8}, {"d", 0}, {"f", 1 << 31}, {"f", 1<<31 - 2}, {"zz", 1},
	} {
		refused(t, fmt.Sprintf("%q, Expect %d", c.key, c.expect), some(), b(c.key, c.expect), api.ErrVersion)
	}
}

// TestTheGreatestVersion: no Expect is above 2^31, so that behind one version more the row stays as it is.
func TestTheGreatestVersion(t *testing.T) {
	r := onlyRows(row("k", 1<<31, "old"))
	if x, e := Decode(Encode(r)); e != api.OK || !Same(x, r) {
		t.Errorf("Decode: %d", e)
	}
	refused(t, "Expect 2^31 - 1", r, api.Batch{Key: "k", Expect: 1<<31 - 1}, api.ErrVersion)
	refused(t, "Expect 2^31 + 1", r, api.Batch{Key: "k", Expect: 1<<31 + 1}, api.ErrArg)
	next := onlyRows(row("k", 1<<31+1, "new"))
	applied(t, "Expect 2^31", r, api.Batch{Key: "k", Expect: 1 << 31, Row: []byte("new")}, next, api.OK)
	refused(t, "Expect 2^31, again", next, api.Batch{Key: "k", Expect: 1 << 31}, api.ErrVersion)
	refused(t, "Expect 2^31 + 1, then", next, api.Batch{Key: "k", Expect: 1<<31 + 1}, api.ErrArg)
	if x, e := Decode(Encode(next)); e != api.ErrLong {
		t.Errorf("Decode of a version of 2^31 + 1 = %s, %d", brief(x), e)
	}
}

func TestVersionsThatMayNotBe(t *testing.T) {
	applied(t, "a row of version 0", onlyRows(row("k", 0, "old")), api.Batch{Key: "k", Row: []byte("new")}, onlyRows(row("k", 1, "new")), api.OK)
	for _, v := range []int{-1, math.MinInt, math.MaxInt} {
		refused(t, "another version", onlyRows(row("k", v, "old")), api.Batch{Key: "k"}, api.ErrVersion)
		refused(t, "another version", onlyRows(row("k", v, "old")), api.Batch{Key: "k", Expect: v}, api.ErrArg)
	}
}

// TestBatchesThatMayNotBe: they are refused first, whatever else there is to refuse.
func TestBatchesThatMayNotBe(t *testing.T) {
	for what, b := range map[string]api.Batch{
		"no batch":                   {},
		"no key":                     {Row: []byte("r")},
		"a key of 65 bytes":          {Key: long(65)},
		"a key of 65 bytes, Expect":  {Key: long(65), Expect: 3},
		"Expect -1":                  {Key: "b", Expect: -1},
		"Expect 2^31 + 1":            {Key: "b", Expect: 1<<31 + 1},
		"a row of 2^19 + 1 bytes":    {Key: "b", Expect: 5, Row: []byte(long(1<<19 + 1))},
		"5 writes":                   {Key: "b", Expect: 5, Writes: make([]api.Write, 5)},
		"no branch":                  writes(api.Write{}),
		"a branch of 65 bytes":       writes(api.Write{Branch: long(65)}),
		"a fork of 65 bytes":         writes(api.Write{Branch: "h1", Fork: long(65)}),
		"Keep 121":                   writes(api.Write{Branch: "h1", Fork: "h6", Keep: 121}),
		"Keep -1":                    writes(api.Write{Branch: "h1", Fork: "h6", Keep: -1}),
		"At 121":                     writes(api.Write{Branch: "h6", At: 121}),
		"At -1":                      writes(api.Write{Branch: "h1", At: -1}),
		"At with a fork":             writes(api.Write{Branch: "h1", Fork: "h2", At: 1}),
		"Keep without a fork":        writes(api.Write{Branch: "h2", Keep: 1, At: 2}),
		"121 events":                 writes(api.Write{Branch: "h1", Events: events(121)}),
		"an event of no bytes":       writes(api.Write{Branch: "h1", Events: [][]byte{{}}}),
		"an event of 4097 bytes":     writes(api.Write{Branch: "h1", Events: texts(long(4097))}),
		"a last write, behind one":   writes(api.Write{Branch: "h1"}, api.Write{Branch: "h3", Keep: 1}),
		"a write behind one refused": writes(api.Write{Branch: "h1", At: 9}, api.Write{}),
		"Expect, and a write":        {Key: "b", Expect: 9, Writes: []api.Write{{Branch: ""}}},
	} {
		refused(t, what, some(), b, api.ErrArg)
		refused(t, what+", of nothing", api.Rows{}, b, api.ErrArg)
	}
}

// writtenTo fails unless a batch with these writes makes just these branches of some's.
func writtenTo(t *testing.T, what string, l []api.Write, change func(r *api.Rows)) {
	t.Helper()
	want := some()
	want.Rows = append(want.Rows, row("new", 1, "row"))
	change(&want)
	slices.SortFunc(want.Branches, func(a, b api.Branch) int { return strings.Compare(a.Key, b.Key) })
	applied(t, what, some(), writes(l...), want, api.OK)
}

func has(r *api.Rows, b api.Branch) {
	r.Branches = slices.DeleteFunc(r.Branches, func(x api.Branch) bool { return x.Key == b.Key })
	r.Branches = append(r.Branches, b)
}

func TestWritesWithoutAFork(t *testing.T) {
	one := func(w api.Write) []api.Write { return []api.Write{w} }
	writtenTo(t, "no writes", nil, func(*api.Rows) {})
	writtenTo(t, "behind two", one(api.Write{Branch: "h2", At: 2, Events: texts("p", "q")}), func(r *api.Rows) { has(r, branch("h2", "x", "y", "p", "q")) })
	writtenTo(t, "none behind two", one(api.Write{Branch: "h2", At: 2}), func(*api.Rows) {})
	writtenTo(t, "to one without events", one(api.Write{Branch: "h0", Events: texts("p")}), func(r *api.Rows) { has(r, branch("h0", "p")) })
	writtenTo(t, "not there, At 0", one(api.Write{Branch: "h1", Events: texts("p")}), func(r *api.Rows) { has(r, branch("h1", "p")) })
	writtenTo(t, "not there, no events", one(api.Write{Branch: "h1"}), func(r *api.Rows) { has(r, branch("h1")) })
	writtenTo(t, "not there, ahead of all", one(api.Write{Branch: "a"}), func(r *api.Rows) { has(r, branch("a")) })
	writtenTo(t, "not there, behind all", one(api.Write{Branch: "h7", Events: events(120)}), func(r *api.Rows) { has(r, api.Branch{Key: "h7", Events: events(120)}) })
	writtenTo(t, "a row's key", one(api.Write{Branch: "b", Events: texts("p")}), func(r *api.Rows) { has(r, branch("b", "p")) })
	writtenTo(t, "the 120th", one(api.Write{Branch: "h4", At: 119, Events: [][]byte{{120}}}), func(r *api.Rows) { has(r, api.Branch{Key: "h4", Events: events(120)}) })
	writtenTo(t, "none behind 120", one(api.Write{Branch: "h6", At: 120}), func(*api.Rows) {})
	writtenTo(t, "an event of 4096 bytes", one(api.Write{Branch: "h0", Events: texts(long(4096))}), func(r *api.Rows) { has(r, branch("h0", long(4096))) })
	for _, c := range []struct {
		what string
		w    api.Write
		code api.Errno
	}{
		{"not there, At 1", api.Write{Branch: "h1", At: 1}, api.ErrVersion},
		{"not there, At 120", api.Write{Branch: "h1", At: 120, Events: events(1)}, api.ErrVersion},
		{"At one below", api.Write{Branch: "h2", At: 1}, api.ErrVersion},
		{"At one above", api.Write{Branch: "h2", At: 3}, api.ErrVersion},
		{"At 0 of one that has two", api.Write{Branch: "h2", Events: texts("p")}, api.ErrVersion},
		{"At 1 of one without events", api.Write{Branch: "h0", At: 1}, api.ErrVersion},
		{"one more than 120", api.Write{Branch: "h6", At: 120, Events: events(1)}, api.ErrArg},
		{"two behind 119", api.Write{Branch: "h4", At: 119, Events: events(2)}, api.ErrArg},
		{"120 behind 2", api.Write{Branch: "h2", At: 2, Events: events(120)}, api.ErrArg},
		{"119 behind 2", api.Write{Branch: "h2", At: 2, Events: events(119)}, api.ErrArg},
		{"too many, and another At: the version first", api.Write{Branch: "h6", At: 119, Events: events(2)}, api.ErrVersion},
	} {
		refused(t, c.what, some(), writes(c.w), c.code)
	}
	writtenTo(t, "118 behind 2", one(api.Write{Branch: "h2", At: 2, Events: events(118)}), func(r *api.Rows) {
		has(r, api.Branch{Key: "h2", Events: slices.Concat(texts("x", "y"), events(118))})
	})
}

func TestForks(t *testing.T) {
	one := func(w api.Write) []api.Write { return []api.Write{w} }
	fork := func(keep int, l ...string) []api.Write {
		return one(api.Write{Branch: "h3", Fork: "h2", Keep: keep, Events: texts(l...)})
	}
	writtenTo(t, "Keep 0", fork(0), func(r *api.Rows) { has(r, branch("h3")) })
	writtenTo(t, "Keep 0, and events", fork(0, "p", "q"), func(r *api.Rows) { has(r, branch("h3", "p", "q")) })
	writtenTo(t, "Keep 1", fork(1, "p"), func(r *api.Rows) { has(r, branch("h3", "x", "p")) })
	writtenTo(t, "just Keep", fork(2), func(r *api.Rows) { has(r, branch("h3", "x", "y")) })
	writtenTo(t, "just Keep, and events", fork(2, "p"), func(r *api.Rows) { has(r, branch("h3", "x", "y", "p")) })
	writtenTo(t, "of one without events", one(api.Write{Branch: "h3", Fork: "h0", Events: texts("p")}), func(r *api.Rows) { has(r, branch("h3", "p")) })
	writtenTo(t, "Keep 120", one(api.Write{Branch: "h3", Fork: "h6", Keep: 120}), func(r *api.Rows) { has(r, api.Branch{Key: "h3", Events: events(120)}) })
	writtenTo(t, "Keep 100 and 20", one(api.Write{Branch: "a", Fork: "h6", Keep: 100, Events: events(20)}), func(r *api.Rows) {
		has(r, api.Branch{Key: "a", Events: slices.Concat(events(100), events(20))})
	})
	for _, c := range []struct {
		what string
		w    api.Write
		code api.Errno
	}{
		{"to a name that is there", api.Write{Branch: "h4", Fork: "h2", Keep: 1}, api.ErrVersion},
		{"to one without events", api.Write{Branch: "h0", Fork: "h2", Keep: 1}, api.ErrVersion},
		{"to itself", api.Write{Branch: "h2", Fork: "h2", Keep: 1}, api.ErrVersion},
		{"to itself, not there", api.Write{Branch: "h3", Fork: "h3"}, api.ErrVersion},
		{"of a name that is not there", api.Write{Branch: "h3", Fork: "h1"}, api.ErrVersion},
		{"of a row's name", api.Write{Branch: "h3", Fork: "b"}, api.ErrVersion},
		{"of fewer than Keep", api.Write{Branch: "h3", Fork: "h2", Keep: 3}, api.ErrVersion},
		{"of none, Keep 1", api.Write{Branch: "h3", Fork: "h0", Keep: 1}, api.ErrVersion},
		{"of 119, Keep 120", api.Write{Branch: "h3", Fork: "h4", Keep: 120}, api.ErrVersion},
		{"more than 120", api.Write{Branch: "h3", Fork: "h6", Keep: 120, Events: events(1)}, api.ErrArg},
		{"more than 120, of few", api.Write{Branch: "h3", Fork: "h2", Keep: 1, Events: events(120)}, api.ErrArg},
		{"more than 120, to a name that is there: the version first", api.Write{Branch: "h4", Fork: "h6", Keep: 120, Events: events(1)}, api.ErrVersion},
		{"more than 120, of one that is not there: the version first", api.Write{Branch: "h3", Fork: "h1", Keep: 120, Events: events(1)}, api.ErrVersion},
		{"more than 120, of fewer than Keep: the version first", api.Write{Branch: "h3", Fork: "h4", Keep: 120, Events: events(1)}, api.ErrVersion},
	} {
		refused(t, c.what, some(), writes(c.w), c.code)
	}
}

func TestWritesComeBehindEachOther(t *testing.T) {
	writtenTo(t, "two to one branch", []api.Write{
		{Branch: "h2", At: 2, Events: texts("p")},
		{Branch: "h2", At: 3, Events: texts("q", "r")},
	}, func(r *api.Rows) { has(r, branch("h2", "x", "y", "p", "q", "r")) })
	writtenTo(t, "two to one that was not there", []api.Write{
		{Branch: "h1", Events: texts("p")},
		{Branch: "h1", At: 1, Events: texts("q")},
	}, func(r *api.Rows) { has(r, branch("h1", "p", "q")) })
	writtenTo(t, "a fork of one that a write made", []api.Write{
		{Branch: "h1", Events: texts("p", "q")},
		{Branch: "a", Fork: "h1", Keep: 1, Events: texts("r")},
		{Branch: "h1", At: 2, Events: texts("s")},
		{Branch: "a", At: 2, Events: texts("t")},
	}, func(r *api.Rows) {
		has(r, branch("h1", "p", "q", "s"))
		has(r, branch("a", "p", "r", "t"))
	})
	writtenTo(t, "a fork of one without events that a write made", []api.Write{
		{Branch: "h1"},
		{Branch: "h3", Fork: "h1"},
	}, func(r *api.Rows) {
		has(r, branch("h1"))
		has(r, branch("h3"))
	})
	writtenTo(t, "a fork of what a write put behind", []api.Write{
		{Branch: "h2", At: 2, Events: texts("z")},
		{Branch: "h3", Fork: "h2", Keep: 3},
	}, func(r *api.Rows) {
		has(r, branch("h2", "x", "y", "z"))
		has(r, branch("h3", "x", "y", "z"))
	})
	good := []api.Write{{Branch: "h1", Events: texts("p")}, {Branch: "h2", At: 2, Events: texts("q")}, {Branch: "h3", Fork: "h2", Keep: 3}}
	for _, c := range []struct {
		what string
		last api.Write
		code api.Errno
	}{
		{"the second At what was there", api.Write{Branch: "h2", At: 2}, api.ErrVersion},
		{"a branch that a write made, At 0", api.Write{Branch: "h1"}, api.ErrVersion},
		{"a fork to what a write made", api.Write{Branch: "h1", Fork: "h2"}, api.ErrVersion},
		{"a second fork", api.Write{Branch: "h3", Fork: "h2", Keep: 3}, api.ErrVersion},
		{"a fork of what is not there", api.Write{Branch: "h5", Fork: "h7"}, api.ErrVersion},
		{"too many", api.Write{Branch: "h6", At: 120, Events: events(1)}, api.ErrArg},
		{"too many of what a write made", api.Write{Branch: "h3", At: 3, Events: events(118)}, api.ErrArg},
	} {
		refused(t, c.what, some(), writes(append(slices.Clone(good), c.last)...), c.code)
	}
	refused(t, "the first write's error", some(), writes(api.Write{Branch: "h6", At: 120, Events: events(1)}, api.Write{Branch: "h2"}), api.ErrArg)
	refused(t, "the first write's error", some(), writes(api.Write{Branch: "h2"}, api.Write{Branch: "h6", At: 120, Events: events(1)}), api.ErrVersion)
	b := writes(api.Write{Branch: "h6", At: 120, Events: events(1)})
	b.Expect = 1
	refused(t, "the row's version ahead of the writes", some(), b, api.ErrVersion)
}

// TestForksShareNothing: no two lists of one answer share memory.
func TestForksShareNothing(t *testing.T) {
	r, e := Apply(some(), writes(api.Write{Branch: "h3", Fork: "h2", Keep: 2}, api.Write{Branch: "h5", Fork: "h3", Keep: 2}))
	if e != api.OK {
		t.Fatal(e)
	}
	for _, key := range []string{"h2", "h3", "h5"} {
		at := slices.IndexFunc(r.Branches, func(b api.Branch) bool { return b.Key == key })
		if got := fmt.Sprintf("%s", r.Branches[at].Events); got != "[x y]" {
			t.Errorf("%s has %s", key, got)
		}
		l := r.Branches[at].Events
		clear(l[0])
		l[1] = []byte("other")
		_ = append(l, []byte("more"))
	}
}

// TestBatchesOfOneVersion: P11.5, and what neither of them names stays.
func TestBatchesOfOneVersion(t *testing.T) {
	r, e := Apply(some(), api.Batch{Key: "d", Expect: 7, Row: []byte("one")})
	if e != api.OK {
		t.Fatal(e)
	}
	refused(t, "the second one", r, api.Batch{Key: "d", Expect: 7, Row: []byte("two"), Writes: []api.Write{{Branch: "h1"}}}, api.ErrVersion)
	want := some()
	want.Rows[1] = row("d", 9, "two")
	has(&want, branch("h9"))
	applied(t, "of the new version", r, api.Batch{Key: "d", Expect: 8, Row: []byte("two"), Writes: []api.Write{{Branch: "h9"}}}, want, api.OK)
}

func TestApplyToRowsWhoseKeysDoNotRise(t *testing.T) {
	was := unsorted()
	got, e := Apply(was, api.Batch{Key: "m", Expect: 3, Row: []byte("new"), Writes: []api.Write{
		{Branch: "m", At: 2, Events: texts("3")},
		{Branch: "z", At: 1, Events: texts("zz")},
		{Branch: "g", Fork: "m", Keep: 3},
	}})
	if e != api.OK {
		t.Fatal(e)
	}
	want := unsorted()
	want.Rows[0] = row("m", 4, "new")
	if shown(onlyRows(got.Rows...)) != shown(onlyRows(want.Rows...)) {
		t.Errorf("rows are %s", shown(onlyRows(got.Rows...)))
	}
	want.Branches[0], want.Branches[1] = branch("m", "1", "2", "3"), branch("z", "z", "zz")
	if l, ok := Events(got, "g"); !ok || fmt.Sprintf("%s", l) != "[1 2 3]" {
		t.Errorf("the fork has %q, %v", l, ok)
	}
	got.Branches = slices.DeleteFunc(got.Branches, func(b api.Branch) bool { return b.Key == "g" })
	if shown(got) != shown(want) {
		t.Errorf("they are %s", shown(got))
	}
	refused(t, "the second one's version", was, api.Batch{Key: "m", Expect: 9}, api.ErrVersion)
	refused(t, "the second one's events", was, writes(api.Write{Branch: "m", At: 1}), api.ErrVersion)
	refused(t, "one that is there", was, api.Batch{Key: "a"}, api.ErrVersion)
	got, e = Apply(was, api.Batch{Key: "n", Row: []byte("new")})
	if x, ok := Get(got, "n"); e != api.OK || !ok || x.Version != 1 || string(x.Bytes) != "new" || len(got.Rows) != len(was.Rows)+1 {
		t.Errorf("a new one: %s, %d", shown(got), e)
	}
	got.Rows = slices.DeleteFunc(got.Rows, func(x api.Row) bool { return x.Key == "n" })
	if shown(got) != shown(was) {
		t.Errorf("beside a new one they are %s", shown(got))
	}
}

// TestManyKeys: new ones stand by their keys, in whatever order they come.
func TestManyKeys(t *testing.T) {
	r := rand.New(rand.NewSource(1))
	var all api.Rows
	for i, n := range r.Perm(300) {
		key := fmt.Sprint(n)
		var e api.Errno
		if all, e = Apply(all, api.Batch{Key: key, Writes: []api.Write{{Branch: "h" + key, Events: events(n % 3)}}}); e != api.OK {
			t.Fatal(e)
		}
		if len(all.Rows) != i+1 || len(all.Branches) != i+1 {
			t.Fatalf("%d rows, %d branches behind %d", len(all.Rows), len(all.Branches), i+1)
		}
		if !slices.IsSortedFunc(all.Rows, func(a, b api.Row) int { return strings.Compare(a.Key, b.Key) }) ||
			!slices.IsSortedFunc(all.Branches, func(a, b api.Branch) int { return strings.Compare(a.Key, b.Key) }) {
			t.Fatalf("they do not stand by their keys: %s", shown(all))
		}
	}
	if x, e := Decode(Encode(all)); e != api.OK || !Same(x, all) {
		t.Errorf("Decode: %d", e)
	}
}

// book is rows kept in another way.
type book struct {
	rows     map[string]api.Row
	branches map[string]string // events of one byte each
}

func (k book) apply(b api.Batch) (book, api.Errno) {
	if k.rows[b.Key].Version != b.Expect {
		return k, api.ErrVersion
	}
	n := book{maps.Clone(k.rows), maps.Clone(k.branches)}
	for _, w := range b.Writes {
		own, there := n.branches[w.Branch]
		from, ok := n.branches[w.Fork]
		if w.Fork == "" && len(own) != w.At || w.Fork != "" && (there || !ok || len(from) < w.Keep) {
			return k, api.ErrVersion
		}
		if w.Fork != "" {
			own = from[:w.Keep]
		}
		own += string(slices.Concat(w.Events...))
		if len(own) > 120 {
			return k, api.ErrArg
		}
		n.branches[w.Branch] = own
	}
	n.rows[b.Key] = row(b.Key, b.Expect+1, string(b.Row))
	return n, api.OK
}

func (k book) all() api.Rows {
	var out api.Rows
	for _, key := range slices.Sorted(maps.Keys(k.rows)) {
		out.Rows = append(out.Rows, k.rows[key])
	}
	for _, key := range slices.Sorted(maps.Keys(k.branches)) {
		out.Branches = append(out.Branches, branch(key, strings.Split(k.branches[key], "")...))
	}
	return out
}

// anyBatch gives a batch that may be, of few keys, of which many are as the book has them.
func anyBatch(r *rand.Rand, k book) api.Batch {
	key := func() string { return []string{"a", "b", "c", "d", "e", "f"}[r.Intn(6)] }
	b := api.Batch{Key: key(), Row: []byte(long(r.Intn(3)))}
	b.Expect = max(0, k.rows[b.Key].Version+[]int{0, 0, 0, 0, 0, 0, 1, -1}[r.Intn(8)])
	for range r.Intn(5) {
		w := api.Write{Branch: key(), Events: events(r.Intn(100) * r.Intn(2))}
		if r.Intn(3) == 0 {
			w.Fork = key()
			w.Keep = min(120, r.Intn(len(k.branches[w.Fork])+2))
		} else {
			w.At = min(120, max(0, len(k.branches[w.Branch])+[]int{0, 0, 0, 0, 0, 0, 1, -1}[r.Intn(8)]))
		}
		b.Writes = append(b.Writes, w)
	}
	return b
}

// TestManyBatches holds Apply against the book, batch by batch.
func TestManyBatches(t *testing.T) {
	r := rand.New(rand.NewSource(2))
	counts := map[api.Errno]int{}
	for range 400 {
		k := book{map[string]api.Row{}, map[string]string{}}
		var all api.Rows
		for range 12 {
			b := anyBatch(r, k)
			next, code := k.apply(b)
			got, e := Apply(all, b)
			if e != code || shown(got) != shown(next.all()) {
				t.Fatalf("Apply(%s, %v) = %s, %d, want %s, %d", shown(all), b, shown(got), e, shown(next.all()), code)
			}
			if x, e := Decode(Encode(got)); e != api.OK || !Same(x, got) {
				t.Fatalf("Decode of Encode of %s: %d", shown(got), e)
			}
			all, k = got, next
			counts[code]++
		}
	}
	if counts[api.OK] < 500 || counts[api.ErrVersion] < 500 || counts[api.ErrArg] < 50 {
		t.Errorf("answers: %v", counts)
	}
}

// many gives n rows, or n branches, that may be.
func many(n int) (l []api.Row, m []api.Branch) {
	for i := range n {
		key := fmt.Sprintf("%06d", i)
		l, m = append(l, row(key, 1, "")), append(m, branch(key))
	}
	return l, m
}

// right are rows that may be, by what they are the edge of.
func right() map[string]api.Rows {
	rows, branches := many(10000)
	return map[string]api.Rows{
		"nothing":                    {},
		"some":                       some(),
		"a key of 1 byte":            onlyRows(row("k", 1, "")),
		"keys of any bytes":          onlyRows(row("\x00", 1, ""), row("\x00\x00", 1, ""), row("\x7f", 1, ""), row("\xff", 1, "")),
		"a key of 64 bytes":          onlyRows(row(long(64), 1, "")),
		"a key that goes on":         onlyRows(row("a", 1, ""), row("aa", 1, ""), row("ab", 1, "")),
		"Version 1":                  onlyRows(row("k", 1, "r")),
		"Version 240":                onlyRows(row("k", 240, "r")),
		"Version 2^31":               onlyRows(row("k", 1<<31, "r")),
		"2^19 bytes":                 onlyRows(row("k", 1, long(1<<19))),
		"a branch's key of 1 byte":   onlyBranches(branch("\x00")),
		"a branch's key of 64 bytes": onlyBranches(branch(long(64))),
		"a branch without events":    onlyBranches(branch("a"), branch("b")),
		"120 events":                 onlyBranches(api.Branch{Key: "k", Events: events(120)}),
		"an event of 1 byte":         onlyBranches(branch("k", "\x00")),
		"an event of 4096 bytes":     onlyBranches(branch("k", long(4096), "x")),
		"10,000 rows":                {Rows: rows},
		"10,000 branches":            {Branches: branches},
		"10,000 of either":           {Rows: rows, Branches: branches},
		"a row and a branch":         {Rows: []api.Row{row("k", 3, "r")}, Branches: []api.Branch{branch("k", "e")}},
	}
}

// tooMuch are those that are told by a number that is above its limit.
func tooMuch() map[string]api.Rows {
	rows, branches := many(10001)
	return map[string]api.Rows{
		"a key of 65 bytes":          onlyRows(row(long(65), 1, "")),
		"a second key of 65 bytes":   onlyRows(row("k", 1, ""), row(long(65), 1, "")),
		"Version 2^31 + 1":           onlyRows(row("k", 1<<31+1, "")),
		"Version 2^63 - 1":           onlyRows(row("k", math.MaxInt, "")),
		"2^19 + 1 bytes":             onlyRows(row("k", 1, long(1<<19+1))),
		"a branch's key of 65 bytes": onlyBranches(branch(long(65))),
		"121 events":                 onlyBranches(api.Branch{Key: "k", Events: events(121)}),
		"an event of 4097 bytes":     onlyBranches(branch("k", "x", long(4097))),
		"10,001 rows":                {Rows: rows},
		"10,001 branches":            {Branches: branches},
		"10,001 of no key":           {Rows: make([]api.Row, 10001)},
	}
}

// wrongForm are those whose bytes can be read, though they are no rows that may be.
func wrongForm() map[string]api.Rows {
	return map[string]api.Rows{
		"no key":                      onlyRows(row("", 1, "r")),
		"no key, and another":         onlyRows(row("", 1, ""), row("k", 1, "")),
		"no key behind another":       onlyRows(row("k", 1, ""), row("", 1, "")),
		"two of one key":              onlyRows(row("k", 1, ""), row("k", 1, "")),
		"two of one key, not alike":   onlyRows(row("k", 1, "r"), row("k", 2, "s")),
		"keys that fall":              onlyRows(row("b", 1, ""), row("a", 1, "")),
		"keys that fall behind":       onlyRows(row("a", 1, ""), row("c", 1, ""), row("b", 1, "")),
		"keys by how long they are":   onlyRows(row("b", 1, ""), row("aa", 1, "")),
		"keys as if bytes had a sign": onlyRows(row("\xff", 1, ""), row("\x01", 1, "")),
		"Version 0":                   onlyRows(row("k", 0, "r")),
		"the last one's Version 0":    onlyRows(row("a", 1, ""), row("b", 0, "")),
		"the first one's Version 0":   onlyRows(row("a", 0, ""), row("b", 1, "")),
		"a branch of no key":          onlyBranches(branch("")),
		"two branches of one key":     onlyBranches(branch("k", "x"), branch("k", "x")),
		"branches' keys that fall":    onlyBranches(branch("b"), branch("a")),
		"an event of no bytes":        onlyBranches(branch("k", "")),
		"a last event of no bytes":    onlyBranches(branch("j"), branch("k", "x", "")),
		"of rows and of branches":     {Rows: []api.Row{row("k", 0, "")}, Branches: []api.Branch{branch("k", "")}},
		"unsorted":                    unsorted(),
	}
}

func TestEncode(t *testing.T) {
	if got := Encode(api.Rows{}); !bytes.Equal(got, []byte{0, 0}) {
		t.Errorf("Encode of nothing = %x", got)
	}
	r := api.Rows{Rows: []api.Row{row("k", 300, "ab")}, Branches: []api.Branch{branch("h", "c", "de")}}
	if got := Encode(r); !bytes.Equal(got, []byte{1, 1, 'k', 0xf1, 1, 44, 2, 'a', 'b', 1, 1, 'h', 2, 1, 'c', 2, 'd', 'e'}) {
		t.Errorf("Encode = %x", got)
	}
	for _, all := range []map[string]api.Rows{right(), tooMuch(), wrongForm()} {
		for what, r := range all {
			if got := Encode(r); !bytes.Equal(got, byTheBook(r)) {
				t.Errorf("%s: Encode = %.100x", what, got)
			}
		}
	}
	below := onlyRows(row("k", -1, "r"), row("l", math.MinInt, ""))
	if got := Encode(below); !bytes.Equal(got, byTheBook(onlyRows(row("k", 0, "r"), row("l", 0, "")))) {
		t.Errorf("Encode of versions below 0 = %x", got)
	}
}

// undecoded fails unless Decode gives no rows, and that error.
func undecoded(t *testing.T, what string, b []byte, want api.Errno) {
	t.Helper()
	if r, e := Decode(b); e != want || r.Rows != nil || r.Branches != nil {
		t.Errorf("%s: Decode = %s, %d, want none, %d", what, brief(r), e, want)
	}
}

func TestDecode(t *testing.T) {
	for what, r := range right() {
		got, e := Decode(byTheBook(r))
		if e != api.OK || shown(got) != shown(r) || !Same(got, r) {
			t.Errorf("%s: Decode = %s, %d", what, brief(got), e)
		}
	}
	for what, r := range tooMuch() {
		undecoded(t, what, byTheBook(r), api.ErrLong)
	}
	for what, r := range wrongForm() {
		undecoded(t, what, byTheBook(r), api.ErrForm)
	}
}

func TestDecodeOfBeginningsAndMore(t *testing.T) {
	for what, r := range right() {
		whole := byTheBook(r)
		undecoded(t, what+", one byte more", append(slices.Clone(whole), 0), api.ErrForm)
		undecoded(t, what+", one byte less", whole[:len(whole)-1], api.ErrShort)
		for n := range min(len(whole), 100) {
			undecoded(t, fmt.Sprintf("%s, %d bytes", what, n), whole[:n], api.ErrShort)
		}
	}
	undecoded(t, "nil", nil, api.ErrShort)
	undecoded(t, "none", []byte{}, api.ErrShort)
}

// TestErrorsOfBytesComeFirst: the bytes are read whole, whatever they say.
func TestErrorsOfBytesComeFirst(t *testing.T) {
	for _, c := range []struct {
		what string
		b    []byte
		want api.Errno
	}{
		{"no key, and no more", []byte{1, 0, 1, 0}, api.ErrShort},
		{"no key, and a byte more", []byte{1, 0, 1, 0, 0, 0}, api.ErrForm},
		{"keys that fall, and a third one that is too long", slices.Concat([]byte{3, 1, 'b', 1, 0, 1, 'a', 1, 0}, text(long(65))), api.ErrLong},
		{"Version 0, and branches that end early", []byte{1, 1, 'k', 0, 0, 1, 1}, api.ErrShort},
		{"Version 0, and 10,001 branches", slices.Concat([]byte{1, 1, 'k', 0, 0}, number(10001)), api.ErrLong},
		{"an event of no bytes, and one that is too long", slices.Concat([]byte{0, 1, 1, 'k', 2, 0}, number(4097)), api.ErrLong},
		{"an event of no bytes, and one that ends early", []byte{0, 1, 1, 'k', 2, 0, 2, 'x'}, api.ErrShort},
		{"no key, and a number of too many bytes", []byte{1, 0, 0xf0, 1, 0, 0}, api.ErrForm},
		{"short within a key that is too long", []byte{1, 65, 'k'}, api.ErrLong},
		{"10,001 rows, and no more", number(10001), api.ErrLong},
		{"10,000 rows, and no more", number(10000), api.ErrShort},
		{"10,000 branches, and no more", slices.Concat([]byte{0}, number(10000)), api.ErrShort},
		{"rows' number in two bytes", []byte{0xf0, 0, 0}, api.ErrForm},
		{"rows' number above 2^63 - 1", []byte{247, 255, 255, 255, 255, 255, 255, 255, 255, 0}, api.ErrForm},
		{"rows' number begins with 248", []byte{248, 0}, api.ErrForm},
		{"a row of 2^40 bytes", []byte{1, 1, 'k', 1, 245, 1, 0, 0, 0, 0, 0}, api.ErrLong},
		{"a version in nine bytes", []byte{1, 1, 'k', 247, 1, 0, 0, 0, 0, 0, 0, 0, 0}, api.ErrLong},
		{"121 events, and no more", []byte{0, 1, 1, 'k', 121}, api.ErrLong},
		{"120 events, and no more", []byte{0, 1, 1, 'k', 120}, api.ErrShort},
	} {
		undecoded(t, c.what, c.b, c.want)
	}
}

// reading reads bytes in another way than package pack: what is wrong ends it.
type reading struct {
	rest []byte
}

func (r *reading) number(most int) int {
	if len(r.rest) == 0 {
		panic(api.ErrShort)
	}
	for k := range 9 {
		size := 1 + k
		if lead := int(r.rest[0]); lead > 247 || lead >= 240 && lead != 239+k || lead < 240 && k > 0 {
			continue
		}
		if len(r.rest) < size {
			panic(api.ErrShort)
		}
		n := int(r.rest[0])
		if k > 0 {
			n = 0
			for _, c := range r.rest[1:size] {
				n = n<<8 + int(c)
			}
		}
		if n < 0 || !bytes.Equal(number(n), r.rest[:size]) {
			panic(api.ErrForm)
		}
		if n > most {
			panic(api.ErrLong)
		}
		r.rest = r.rest[size:]
		return n
	}
	panic(api.ErrForm)
}

func (r *reading) text(most int) string {
	n := r.number(most)
	if n > len(r.rest) {
		panic(api.ErrShort)
	}
	s := string(r.rest[:n])
	r.rest = r.rest[n:]
	return s
}

// read gives the rows of these bytes, and the error, as the document has it.
func read(b []byte) (out api.Rows, e api.Errno) {
	defer func() {
		if why, ok := recover().(api.Errno); ok {
			out, e = api.Rows{}, why
		}
	}()
	r := &reading{b}
	fit := true
	last := ""
	rising := func(key string) { fit, last = fit && key > last, key }
	for range r.number(10000) {
		x := row(r.text(64), r.number(1<<31), r.text(1<<19))
		rising(x.Key)
		fit = fit && x.Version > 0
		out.Rows = append(out.Rows, x)
	}
	last = ""
	for range r.number(10000) {
		x := api.Branch{Key: r.text(64)}
		rising(x.Key)
		for range r.number(120) {
			event := r.text(4096)
			fit = fit && event != ""
			x.Events = append(x.Events, []byte(event))
		}
		out.Branches = append(out.Branches, x)
	}
	if len(r.rest) > 0 || !fit {
		panic(api.ErrForm)
	}
	return out, api.OK
}

// read1 fails unless Decode answers as the other reading; it gives whether these are bytes of rows.
func read1(t *testing.T, b []byte) bool {
	t.Helper()
	was := slices.Clone(b)
	want, code := read(b)
	got, e := Decode(b)
	if e != code || shown(got) != shown(want) {
		t.Fatalf("Decode(%x) = %s, %d, want %s, %d", b, brief(got), e, brief(want), code)
	}
	if e == api.OK && !bytes.Equal(Encode(got), b) {
		t.Fatalf("Decode(%x) has the bytes %x", b, Encode(got))
	}
	if !bytes.Equal(b, was) {
		t.Fatalf("Decode(%x) has changed its bytes", was)
	}
	return e == api.OK
}

func TestDecodeOfAllShortBytes(t *testing.T) {
	decoded := 0
	var all func(b []byte, left int)
	all = func(b []byte, left int) {
		if read1(t, b) {
			decoded++
		}
		if left == 0 {
			return
		}
		for _, c := range []byte{0, 1, 2, 3, 121, 240} {
			all(append(b, c), left-1)
		}
	}
	all(nil, 7)
	if decoded < 50 {
		t.Errorf("only %d were rows", decoded)
	}
}

// anyRows gives small rows, most of which may be.
func anyRows(r *rand.Rand) api.Rows {
	text := func(least, most int) string {
		b := make([]byte, least+r.Intn(most-least+1))
		for i := range b {
			b[i] = "abc\x00\xff"[r.Intn(5)]
		}
		return string(b)
	}
	var out api.Rows
	for range r.Intn(4) {
		out.Rows = append(out.Rows, row(text(1, 4), []int{1, 2, 239, 240, 70000, 1 << 31}[r.Intn(6)], text(0, 5)))
	}
	for range r.Intn(4) {
		b := branch(text(1, 4))
		for range r.Intn(4) {
			b.Events = append(b.Events, []byte(text(1, 3)))
		}
		out.Branches = append(out.Branches, b)
	}
	if r.Intn(8) > 0 {
		slices.SortFunc(out.Rows, func(a, b api.Row) int { return strings.Compare(a.Key, b.Key) })
		slices.SortFunc(out.Branches, func(a, b api.Branch) int { return strings.Compare(a.Key, b.Key) })
	}
	return out
}

// TestDecodeOfManyBytes turns bytes of rows into others, and reads both.
func TestDecodeOfManyBytes(t *testing.T) {
	r := rand.New(rand.NewSource(3))
	decoded := 0
	for range 40000 {
		b := byTheBook(anyRows(r))
		read1(t, b)
		for range 1 + r.Intn(2) {
			at := r.Intn(len(b))
			switch r.Intn(4) {
			case 0:
				b[at] = byte(r.Intn(256))
			case 1:
				b[at]--
			case 2:
				b = slices.Delete(b, at, at+1)
			case 3:
				b = slices.Insert(b, at, byte(r.Intn(5)))
			}
			if len(b) == 0 {
				break
			}
		}
		if read1(t, b) {
			decoded++
		}
	}
	if decoded < 1000 {
		t.Errorf("only %d were rows", decoded)
	}
}

func TestSame(t *testing.T) {
	one := func() api.Rows {
		return api.Rows{
			Rows:     []api.Row{row("a", 1, "r"), row("b", 2, "")},
			Branches: []api.Branch{branch("h", "x", "y"), branch("i")},
		}
	}
	if !Same(one(), one()) || !Same(api.Rows{}, api.Rows{}) || !Same(unsorted(), unsorted()) {
		t.Error("some are not the same as themselves")
	}
	for what, change := range map[string]func(r *api.Rows){
		"a row's key":        func(r *api.Rows) { r.Rows[1].Key = "c" },
		"no key":             func(r *api.Rows) { r.Rows[0].Key = "" },
		"a version":          func(r *api.Rows) { r.Rows[1].Version = 1 },
		"a version below 0":  func(r *api.Rows) { r.Rows[0].Version = -1 },
		"bytes":              func(r *api.Rows) { r.Rows[0].Bytes = []byte("s") },
		"more bytes":         func(r *api.Rows) { r.Rows[0].Bytes = []byte("rr") },
		"no bytes":           func(r *api.Rows) { r.Rows[0].Bytes = nil },
		"bytes put over":     func(r *api.Rows) { r.Rows[0].Bytes, r.Rows[1].Bytes = nil, []byte("r") },
		"one row less":       func(r *api.Rows) { r.Rows = r.Rows[:1] },
		"one row more":       func(r *api.Rows) { r.Rows = append(r.Rows, api.Row{}) },
		"rows' order":        func(r *api.Rows) { slices.Reverse(r.Rows) },
		"no rows":            func(r *api.Rows) { r.Rows = nil },
		"a branch's key":     func(r *api.Rows) { r.Branches[1].Key = "j" },
		"an event":           func(r *api.Rows) { r.Branches[0].Events[1] = []byte("z") },
		"an event's end":     func(r *api.Rows) { r.Branches[0].Events[1] = []byte("yy") },
		"an empty event":     func(r *api.Rows) { r.Branches[0].Events[0] = nil },
		"one event less":     func(r *api.Rows) { r.Branches[0].Events = r.Branches[0].Events[:1] },
		"one event more":     func(r *api.Rows) { r.Branches[1].Events = [][]byte{nil} },
		"events' order":      func(r *api.Rows) { slices.Reverse(r.Branches[0].Events) },
		"events put over":    func(r *api.Rows) { r.Branches[0].Events, r.Branches[1].Events = nil, r.Branches[0].Events },
		"one branch less":    func(r *api.Rows) { r.Branches = r.Branches[:1] },
		"one branch more":    func(r *api.Rows) { r.Branches = append(r.Branches, api.Branch{}) },
		"branches' order":    func(r *api.Rows) { slices.Reverse(r.Branches) },
		"no branches at all": func(r *api.Rows) { r.Branches = nil },
	} {
		r := one()
		change(&r)
		if Same(one(), r) || Same(r, one()) {
			t.Errorf("another %s is the same", what)
		}
		if !Same(r, r) {
			t.Errorf("with another %s they are not the same as themselves", what)
		}
	}
}

func TestEmptyListsAreAsNone(t *testing.T) {
	none := api.Rows{Rows: []api.Row{{Key: "a", Version: 1}}, Branches: []api.Branch{{Key: "h"}, {Key: "i", Events: [][]byte{nil}}}}
	empty := api.Rows{Rows: []api.Row{{Key: "a", Version: 1, Bytes: []byte{}}}, Branches: []api.Branch{{Key: "h", Events: [][]byte{}}, {Key: "i", Events: [][]byte{{}}}}}
	if !Same(none, empty) || !Same(empty, none) || !Same(api.Rows{}, api.Rows{Rows: []api.Row{}, Branches: []api.Branch{}}) {
		t.Error("empty lists are not as none")
	}
	if a, b := Encode(none), Encode(empty); !bytes.Equal(a, b) {
		t.Errorf("Encode = %x, %x", a, b)
	}
	b := api.Batch{Key: "a", Expect: 1, Row: []byte{}, Writes: []api.Write{{Branch: "h", Events: [][]byte{}}}}
	c := api.Batch{Key: "a", Expect: 1, Writes: []api.Write{{Branch: "h"}}}
	x, e := Apply(none, b)
	y, f := Apply(empty, c)
	if e != api.OK || f != api.OK || !Same(x, y) {
		t.Errorf("Apply = %s, %d; %s, %d", shown(x), e, shown(y), f)
	}
}

func TestNothingIsShared(t *testing.T) {
	r := unsorted()
	was := shown(r)
	x, _ := Get(r, "m")
	clear(x.Bytes)
	_ = append(x.Bytes[:0], long(cap(x.Bytes))...)
	l, _ := Events(r, "m")
	clear(l[0])
	_ = append(l[1][:0], long(cap(l[1]))...)
	clear(l)
	Encode(r)
	clear(Encode(r))
	Same(r, r)
	if shown(r) != was {
		t.Errorf("the rows are %s", shown(r))
	}
	b := Encode(r)
	spoil(r)
	if !bytes.Equal(b, byTheBook(unsorted())) {
		t.Error("the bytes share memory with the rows")
	}
	b = Encode(some())
	got, e := Decode(b)
	clear(b)
	if e != api.OK || shown(got) != shown(some()) {
		t.Error("the rows share memory with the bytes")
	}
	for i := range got.Rows {
		_ = append(got.Rows[i].Bytes, "grown"...)
	}
	for i := range got.Branches {
		_ = append(got.Branches[i].Events, []byte("grown"))
		for _, e := range got.Branches[i].Events {
			_ = append(e, "grown"...)
		}
	}
	if shown(got) != shown(some()) {
		t.Error("lists of one answer share memory")
	}
}

// TestWhatIsHandedInIsNotKept: what Apply made stays, when the batch and the rows are changed.
func TestWhatIsHandedInIsNotKept(t *testing.T) {
	r := some()
	b := api.Batch{Key: "b", Expect: 1, Row: []byte("row"), Writes: []api.Write{
		{Branch: "h2", At: 2, Events: texts("p")},
		{Branch: "h3", Fork: "h4", Keep: 2, Events: texts("q")},
	}}
	got, e := Apply(r, b)
	if e != api.OK {
		t.Fatal(e)
	}
	told := shown(got)
	refusal, e := Apply(r, api.Batch{Key: "b"})
	if e != api.ErrVersion {
		t.Fatal(e)
	}
	clear(b.Row)
	for _, w := range b.Writes {
		clear(w.Events[0])
		clear(w.Events)
	}
	spoil(r)
	if shown(got) != told {
		t.Errorf("what was made is now %s", brief(got))
	}
	if shown(refusal) != shown(some()) {
		t.Errorf("what was told beside an error is now %s", brief(refusal))
	}
}

func TestTheSameCallsAnswerTheSame(t *testing.T) {
	b := writes(api.Write{Branch: "h3", Fork: "h2", Keep: 1, Events: texts("p")})
	first, e := Apply(some(), b)
	for range 20 {
		again, f := Apply(some(), b)
		if e != f || !bytes.Equal(Encode(first), Encode(again)) {
			t.Fatal("another answer")
		}
	}
}
