package world

import (
	"bytes"
	"fmt"
	"math/rand"
	"reflect"
	"slices"
	"testing"
	"testing/quick"

	"usher/api"
	"usher/disk"
	"usher/door"
	"usher/reqcode"
	"usher/script"
	"usher/store"
)

// plain does what the chapter says of a world, word by word, over a disk of its own.
type plain struct {
	d                *disk.Disk
	x                *door.Door
	size, now, steps int
	records          []api.Record
	order            []api.Entry
}

func newPlain(room, size int) *plain {
	d, _ := disk.New(room)
	s, _ := store.Open(d, size)
	return &plain{d: d, x: door.New(s), size: size}
}

func (p *plain) do(s api.Step) (told api.Told) {
	p.steps++
	switch s.Kind {
	case api.StepInvoke:
		if p.x == nil {
			told.Code = api.ErrDown
			break
		}
		r, e := reqcode.ReadRequest(s.Bytes)
		if e == api.OK {
			e = p.x.Invoke(s.Session, len(p.records)+1, r)
		}
		if told.Code = e; e == api.OK {
			told.Op = len(p.records) + 1
			p.records = append(p.records, api.Record{Op: told.Op, Session: s.Session, Request: r, Invoked: p.steps, From: p.now})
		}
	case api.StepStep:
		if p.x == nil {
			told.Code = api.ErrDown
			break
		}
		told = p.x.Step(s.Session, p.now)
		if told.In {
			p.order = append(p.order, told.Entry)
		}
		if told.Done {
			for i, r := range p.records {
				if r.Op == told.Op {
					r.Replied, r.To, r.Reply = p.steps, p.now, told.Reply
					p.records[i] = r
				}
			}
		}
	case api.StepTick:
		if s.N < 0 || s.N > 1<<30 || p.now+s.N > 1<<40 {
			told.Code = api.ErrArg
		} else {
			p.now += s.N
		}
	case api.StepCrash:
		p.x = nil
		told.Code = p.d.Crash(s.Keeps)
	case api.StepOpen:
		told.Code = p.open()
	case api.StepFuse:
		told.Code = p.d.Fuse(s.N)
	case api.StepCheckpoint:
		told.Code = api.ErrDown
		if p.x != nil {
			told.Code = p.x.Checkpoint()
		}
	case api.StepRoom:
		told.Code = p.d.Room(s.N)
	default:
		told.Code = api.ErrArg
	}
	return told
}

func (p *plain) open() api.Errno {
	if p.x != nil {
		return api.ErrArg
	}
	s, e := store.Open(p.d, p.size)
	if e != api.OK {
		return e
	}
	p.x = door.New(s)
	var left []api.Entry
	for _, x := range p.order {
		replied := 0
		for _, r := range p.records {
			if r.Op == x.Op {
				replied = r.Replied
			}
		}
		if x.Commit && x.LSN <= s.LSN() || !x.Commit && replied > 0 {
			left = append(left, x)
		}
	}
	p.order = left
	return api.OK
}

// alike says whether two lists are the same, an empty one as none.
func alike[T any](a, b []T) bool {
	return len(a) == 0 && len(b) == 0 || reflect.DeepEqual(a, b)
}

// agrees complains unless both have the same.
func (p *plain) agrees(t *testing.T, w *World) {
	t.Helper()
	if l := w.Records(); !alike(l, p.records) {
		t.Fatalf("records:\n%+v, not\n%+v", l, p.records)
	}
	if l := w.Order(); !alike(l, p.order) {
		t.Fatalf("order:\n%+v, not\n%+v", l, p.order)
	}
	if w.Now() != p.now || w.Up() != (p.x != nil) || (w.Door() != nil) != w.Up() {
		t.Fatal("they part:", w.Now(), p.now, w.Up())
	}
	if p.x == nil && len(w.Image()) > 0 || p.x != nil && !bytes.Equal(w.Image(), p.x.Store().Image()) {
		t.Fatal("the images part")
	}
}

// TestPlays: scripts of many sessions, with crashes, fuses and rooms, held against the chapter word by word.
func TestPlays(t *testing.T) {
	r := rand.New(rand.NewSource(35))
	seen := map[string]int{}
	for range 60 {
		room, size := []int{2000, 20000, 1 << 20}[r.Intn(3)], []int{1, 200, 4000}[r.Intn(3)]
		w, e := New(room, size)
		if e != api.OK {
			t.Fatal(e)
		}
		p, l := newPeople(r, 1+r.Intn(8)), newPlain(room, size)
		for i := range 400 {
			s := p.step(w)
			before := len(w.order)
			got, want := w.Do(s), l.do(s)
			if !reflect.DeepEqual(got, want) {
				t.Fatalf("%+v tells\n%+v, not\n%+v", s, got, want)
			}
			p.hear(s.Session, got)
			seen[fmt.Sprint(s.Kind, " ", got.Code)]++
			if len(w.order) < before {
				seen["taken back"] += before - len(w.order)
			}
			if i%10 == 0 || s.Kind == api.StepOpen {
				l.agrees(t, w)
			}
		}
		l.agrees(t, w)
	}
	for _, what := range []string{"1 0", "1 4", "1 8", "1 23", "1 24", "2 0", "2 8", "2 23", "2 24", "3 0", "3 1", "4 0", "5 0", "5 1", "5 8", "6 0", "6 1", "6 8", "7 0", "7 7", "7 8", "7 24", "8 0", "8 1", "8 8", "0 1", "9 1"} {
		if seen[what] < 3 {
			t.Error("too little was seen:", what, seen)
		}
	}
	if seen["taken back"] < 50 {
		t.Error("too little was seen:", seen)
	}
}

// anything gives a T of any fields.
func anything[T any](r *rand.Rand) T {
	var x T
	v, _ := quick.Value(reflect.TypeOf(x), r)
	return v.Interface().(T)
}

// TestAnythingAtAll: whatever is handed in, each call ends, and the same calls tell the same.
func TestAnythingAtAll(t *testing.T) {
	r := rand.New(rand.NewSource(351))
	for range 200 {
		a, b := up(t), newPlain(1<<20, 4096)
		for range 60 {
			s := anything[api.Step](r)
			if r.Intn(3) > 0 {
				s.Kind, s.Session = r.Intn(10), r.Intn(9)
			}
			switch r.Intn(4) {
			case 0:
				s.Bytes = a.bytesOf([]api.Request{start("a", "x"), signal("a", "y"), poll("a"), update("a", "u", 1, 5)}[r.Intn(4)])
			case 1:
				s = api.Step{Kind: api.StepStep, Session: r.Intn(9)}
			}
			s.N %= 1 << 20
			got, want := a.Do(s), b.do(s)
			if !reflect.DeepEqual(got, want) {
				t.Fatalf("%+v tells\n%+v, not\n%+v", s, got, want)
			}
		}
		b.agrees(t, a.World)
	}
}

// driven gives a world behind a script.
func driven(t *testing.T, l []api.Step) *stage {
	t.Helper()
	w := newStage(t, 20000, 300)
	for _, s := range l {
		w.Do(s)
	}
	return w
}

// plays complains unless the bytes drive two worlds alike, and these keep what is promised.
func plays(t *testing.T, b []byte) {
	t.Helper()
	l := script.Parse(b)
	v, w := driven(t, l), driven(t, l)
	if !alike(v.Records(), w.Records()) || !alike(v.Order(), w.Order()) || v.Now() != w.Now() || !bytes.Equal(v.Image(), w.Image()) {
		t.Fatal("the same steps come to another thing")
	}
	w.keeps()
	w.crashes(3, 100)
	w.opens()
	w.keeps()
}

// TestScriptsOfBytes: what a play comes to as bytes, and these cut, turned and put together anew.
func TestScriptsOfBytes(t *testing.T) {
	r := rand.New(rand.NewSource(352))
	for range 40 {
		w, p := up(t), newPeople(r, 3)
		var l []api.Step
		for range 200 {
			s := p.step(w.World)
			l = append(l, s)
			p.hear(s.Session, w.Do(s))
		}
		plays(t, script.Put(l))
		r.Shuffle(len(l), func(i, j int) { l[i], l[j] = l[j], l[i] })
		b := script.Put(l)
		plays(t, b)
		for range 20 {
			b[r.Intn(len(b))] ^= byte(1 << r.Intn(8))
		}
		plays(t, b)
		plays(t, slices.Concat(b[r.Intn(len(b)):], b))
	}
}

// FuzzScript is for the fuzzer; without it, it runs these alone.
func FuzzScript(f *testing.F) {
	b, _ := reqcode.Request(start("a", "x"))
	f.Add(script.Put([]api.Step{{Kind: api.StepInvoke, Bytes: b}, {Kind: api.StepStep}, {Kind: api.StepStep}, {Kind: api.StepCrash, Keeps: []int{9}}, {Kind: api.StepOpen}}))
	f.Fuzz(func(t *testing.T, b []byte) { plays(t, b) })
}
