package audit

import (
	"fmt"
	"math/rand"
	"reflect"
	"slices"
	"strings"
	"testing"
	"testing/quick"

	"usher/api"
	"usher/branch"
	"usher/fold"
	"usher/names"
	"usher/reqcode"
	"usher/rowcode"
	"usher/rows"
	"usher/state"
	"usher/world"
)

// plainRow says of a row what the chapter says of it, word by word.
func plainRow(r api.Rows, key string) api.Errno {
	name, ok := names.ParseRow(key)
	row, there := rows.Get(r, key)
	if !ok || !there {
		return api.ErrArg
	}
	f, e := rowcode.Decode(row.Bytes)
	if e != api.OK || f.Name != name {
		return api.ErrForm
	}
	for run := 1; run <= f.Runs; run++ {
		l, there := rows.Events(r, names.Branch(name, run))
		if !there {
			return api.ErrForm
		}
		h, e := branch.Read(l)
		if e != api.OK {
			return api.ErrForm
		}
		if !fold.Legal(run, h) {
			return api.ErrEvent
		}
		s, _, _ := fold.Build(run, h)
		if run == f.Runs && !state.Same(s, f.State) || run < f.Runs && state.Running(s) {
			return api.ErrEvent
		}
	}
	return api.OK
}

func plainAll(r api.Rows) (string, api.Errno) {
	for _, row := range r.Rows {
		if e := plainRow(r, row.Key); e != api.OK {
			return row.Key, e
		}
	}
	for _, b := range r.Branches {
		name, run, ok := names.ParseBranch(b.Key)
		row, there := rows.Get(r, names.Row(name))
		f, _ := rowcode.Decode(row.Bytes)
		if !ok || !there || run > f.Runs {
			return b.Key, api.ErrArg
		}
	}
	return "", api.OK
}

func plainText(r api.Rows) string {
	words := []string{"", "running", "completed", "failed", "canceled", "terminated", "timedOut"}
	out := ""
	for _, row := range r.Rows {
		if f, e := rowcode.Decode(row.Bytes); e == api.OK {
			out += fmt.Sprintf("%s %d %s %d\n", f.Name, f.Runs, words[f.State.Status], f.State.Count)
		}
	}
	return out
}

// audited complains unless all is said as the chapter says it, and tells what All says.
func audited(t *testing.T, r api.Rows) api.Errno {
	t.Helper()
	for _, row := range r.Rows {
		if got, want := Row(r, row.Key), plainRow(r, row.Key); got != want {
			t.Fatalf("Row(%q) = %d, not %d, of\n%+v", row.Key, got, want, r)
		}
	}
	key, e := All(r)
	if k, want := plainAll(r); key != k || e != want {
		t.Fatalf("All = %q, %d, not %q, %d, of\n%+v", key, e, k, want, r)
	}
	if got, want := Text(r), plainText(r); got != want {
		t.Fatalf("Text = %q, not %q", got, want)
	}
	return e
}

// request gives any request of few workflows.
func request(r *rand.Rand, f api.Flow, h []api.Event) api.Request {
	x := api.Request{Kind: []int{api.OpPoll, api.OpComplete, api.OpComplete, 1 + r.Intn(13)}[r.Intn(4)], Flow: f.Name}
	name := fmt.Sprint("r", r.Intn(40))
	if f.State.Status != api.StRunning && r.Intn(2) == 0 {
		x.Kind = api.OpStart
	}
	switch x.Kind {
	case api.OpStart, api.OpSignalStart, api.OpSignal:
		x.Request, x.Name, x.Value = name, "n", listOf("v")
		if x.Kind != api.OpSignal {
			x.Num = r.Intn(20)
		}
	case api.OpQuery:
		x.Name = "q"
	case api.OpUpdate:
		x.Request, x.Num = string(rune('u'+r.Intn(3))), 1+r.Intn(2)
	case api.OpCancel, api.OpTerminate:
		x.Request = name
	case api.OpReset:
		x.Request, x.Num = name, 4
		if l := branch.Find(h, api.EvDone); len(l) > 0 {
			x.Num = l[r.Intn(len(l))]
		}
	case api.OpPoll:
		x.Num = 1 + r.Intn(9)
	case api.OpComplete, api.OpFail:
		x.Run, x.Num = max(1, f.Runs), max(1, f.State.Task.Event)
		if x.Kind == api.OpComplete && r.Intn(3) > 0 {
			x.Commands = [][]api.Command{{{Kind: api.CmTimer, Name: name, Delay: 3}}, {{Kind: api.CmMarker}}, {{Kind: api.CmComplete}}, {{Kind: api.CmFail}}, {{Kind: api.CmAccept, Name: "u"}}}[r.Intn(5)]
		}
	}
	return x
}

// driven gives what the store of a world has behind many operations, crashes among them.
func driven(t *testing.T, r *rand.Rand, flows []string) api.Rows {
	t.Helper()
	w, e := world.New(1<<20, 2000)
	if e != api.OK {
		t.Fatal(e)
	}
	for range 150 {
		image, _ := rows.Decode(w.Image())
		f := api.Flow{Name: flows[r.Intn(len(flows))]}
		if row, ok := rows.Get(image, names.Row(f.Name)); ok {
			f, _ = rowcode.Decode(row.Bytes)
		}
		l, _ := rows.Events(image, names.Branch(f.Name, f.Runs))
		h, _ := branch.Read(l)
		b, e := reqcode.Request(request(r, f, h))
		if e != api.OK {
			t.Fatal(e)
		}
		session := r.Intn(8)
		w.Do(api.Step{Kind: api.StepInvoke, Session: session, Bytes: b})
		for range r.Intn(9) {
			w.Do(api.Step{Kind: api.StepStep, Session: []int{session, r.Intn(8)}[r.Intn(2)]})
		}
		w.Do(api.Step{Kind: api.StepTick, N: r.Intn(3)})
		if r.Intn(30) == 0 {
			w.Do(api.Step{Kind: api.StepCrash, Keeps: []int{r.Intn(500)}})
			w.Do(api.Step{Kind: api.StepOpen})
		}
	}
	if key, e := Image(w.Image()); key != "" || e != api.OK {
		t.Fatalf("what only doors wrote: %q, %d", key, e)
	}
	out, _ := rows.Decode(w.Image())
	return out
}

// bent gives rows that are changed in some places.
func bent(r *rand.Rand, x api.Rows) api.Rows {
	x.Rows, x.Branches = slices.Clone(x.Rows), slices.Clone(x.Branches)
	for range 1 + r.Intn(2) {
		if len(x.Rows) == 0 || len(x.Branches) == 0 {
			break
		}
		i, j := r.Intn(len(x.Rows)), r.Intn(len(x.Branches))
		row, h := &x.Rows[i], &x.Branches[j]
		h.Events = slices.Clone(h.Events)
		row.Bytes = slices.Clone(row.Bytes)
		switch r.Intn(16) {
		case 0:
			x.Rows = slices.Delete(x.Rows, i, i+1)
		case 1:
			x.Branches = slices.Delete(x.Branches, j, j+1)
		case 2:
			if len(row.Bytes) > 0 {
				row.Bytes[r.Intn(len(row.Bytes))] ^= byte(1 << r.Intn(8))
			}
		case 3:
			row.Bytes = x.Rows[r.Intn(len(x.Rows))].Bytes
		case 4:
			h.Events = x.Branches[r.Intn(len(x.Branches))].Events
		case 5:
			h.Events = h.Events[:len(h.Events)-min(len(h.Events), 1)]
		case 6:
			h.Events = append(h.Events, branch.Bytes([]api.Event{{Kind: 1 + r.Intn(19), Time: 400}})...)
		case 7:
			if len(h.Events) > 0 {
				h.Events = slices.Delete(h.Events, 0, 1)
			}
		case 8:
			h.Key = names.Branch("a", r.Intn(12))
		case 9:
			h.Key = strings.TrimSuffix(h.Key, "1")
		case 10:
			row.Key = names.Row(string(rune('a' + r.Intn(5))))
		case 11:
			slices.Reverse(x.Rows)
		case 12:
			slices.Reverse(x.Branches)
		case 13:
			x.Rows = append(x.Rows, *row)
		case 14:
			x.Branches = slices.Insert(x.Branches, 0, *h)
		case 15:
			if f, e := rowcode.Decode(row.Bytes); e == api.OK && f.Runs > 1 {
				f.Runs--
				f.State.Run--
				row.Bytes, _ = rowcode.Encode(f)
			}
		}
	}
	return x
}

// TestWhatDoorsWrite (P36.4): all is as it should be; and what that is bent to, held against the chapter.
func TestWhatDoorsWrite(t *testing.T) {
	r := rand.New(rand.NewSource(36))
	seen, words, runs := map[api.Errno]int{}, map[string]int{}, 0
	for range 60 {
		x := driven(t, r, []string{"a", "b", "c"})
		if e := audited(t, x); e != api.OK {
			t.Fatal(e)
		}
		for _, word := range strings.Fields(Text(x)) {
			words[word]++
		}
		runs = max(runs, len(x.Branches)-len(x.Rows))
		for range 60 {
			seen[audited(t, bent(r, x))]++
		}
	}
	for _, word := range []string{"running", "completed", "failed", "terminated", "timedOut"} {
		if words[word] < 3 {
			t.Error("too little was seen:", word, words)
		}
	}
	for _, code := range []api.Errno{api.OK, api.ErrArg, api.ErrForm, api.ErrEvent} {
		if seen[code] < 100 {
			t.Error("too little was seen:", seen)
		}
	}
	if runs < 6 {
		t.Error("so many runs beyond the first ones:", runs)
	}
}

// TestAnythingAtAll: whatever is handed in, each call ends.
func TestAnythingAtAll(t *testing.T) {
	r := rand.New(rand.NewSource(361))
	for range 2000 {
		v, _ := quick.Value(reflect.TypeFor[api.Rows](), r)
		x := v.Interface().(api.Rows)
		for i := range x.Rows {
			if r.Intn(2) == 0 {
				x.Rows[i].Key = "w/a"
			}
		}
		audited(t, x)
	}
	for range 2000 {
		b := make([]byte, r.Intn(40))
		r.Read(b)
		x, want := rows.Decode(b)
		key, e := Image(b)
		if k, code := plainAll(x); want == api.OK && (key != k || e != code) || want != api.OK && (key != "" || e != want) {
			t.Fatalf("Image(%x) = %q, %d", b, key, e)
		}
	}
}

// TestManyRows: of as many as a store may have; each is looked at once.
func TestManyRows(t *testing.T) {
	s := of(t)
	one := of(t, flow("a", begun()))
	f, _ := rowcode.Decode(one.Rows.Rows[0].Bytes)
	for n := range 10000 {
		f.Name = fmt.Sprintf("n%05d", n)
		s.row(names.Row(f.Name), f)
		s.Branches = append(s.Branches, api.Branch{Key: names.Branch(f.Name, 1), Events: one.Branches[0].Events})
	}
	s.allSays("many", "", api.OK)
	s.drop("h/n09999/1")
	s.says("many, and the last one bad", "w/n09999", api.ErrForm)
	if text := Text(s.Rows); strings.Count(text, "\n") != 10000 || !strings.HasSuffix(text, "n09999 1 running 2\n") {
		t.Error("Text of many rows")
	}
}
