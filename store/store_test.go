package store

import (
	"bytes"
	"fmt"
	"math"
	"math/rand"
	"slices"
	"strings"
	"testing"

	"usher/api"
	"usher/batch"
	"usher/disk"
	"usher/frame"
	"usher/rows"
	"usher/segment"
	"usher/wal"
)

// all keeps, in a crash, all that was not synced.
var all = []int{math.MaxInt}

func newDisk(t *testing.T, room int) *disk.Disk {
	t.Helper()
	d, e := disk.New(room)
	if e != api.OK {
		t.Fatalf("New(%d): %d", room, e)
	}
	return d
}

// must fails if one of the answers is an error.
func must(t *testing.T, answers ...api.Errno) {
	t.Helper()
	for i, e := range answers {
		if e != api.OK {
			t.Fatalf("answer %d is %d", i, e)
		}
	}
}

func want(t *testing.T, what string, got, want api.Errno) {
	t.Helper()
	if got != want {
		t.Errorf("%s: got %d, want %d", what, got, want)
	}
}

func second(_ int, e api.Errno) api.Errno {
	return e
}

func open(t *testing.T, d *disk.Disk, size int) *Store {
	t.Helper()
	s, e := Open(d, size)
	if e != api.OK || s == nil {
		t.Fatalf("Open: %v, %d", s, e)
	}
	return s
}

// commit does batches, which must go on.
func commit(t *testing.T, s *Store, l ...api.Batch) {
	t.Helper()
	for _, b := range l {
		lsn := s.LSN()
		if n, e := s.Commit(b); e != api.OK || n != lsn+1 || s.LSN() != n {
			t.Fatalf("Commit(%.80v) = %d, %d; LSN was %d and is %d", b, n, e, lsn, s.LSN())
		}
	}
}

// long gives a text of n bytes.
func long(n int) string {
	return strings.Repeat("x", n)
}

// texts gives events of these texts.
func texts(l ...string) [][]byte {
	var out [][]byte
	for _, s := range l {
		out = append(out, []byte(s))
	}
	return out
}

// plain gives a batch without writes.
func plain(key string, expect int, b string) api.Batch {
	return api.Batch{Key: key, Expect: expect, Row: []byte(b)}
}

// few are batches that go on one behind the other: rows made and changed, branches made, written to, forked, one without events.
func few() []api.Batch {
	return []api.Batch{
		{Key: "b", Row: []byte("b1"), Writes: []api.Write{{Branch: "h", Events: texts("x", "y")}}},
		{Key: "a", Row: []byte("a1"), Writes: []api.Write{{Branch: "g"}}},
		{Key: "b", Expect: 1, Row: []byte("b2"), Writes: []api.Write{{Branch: "h", At: 2, Events: texts("z")}, {Branch: "c", Fork: "h", Keep: 3, Events: texts("w")}}},
		{Key: "c"},
		{Key: "b", Expect: 2, Row: []byte("b3"), Writes: []api.Write{{Branch: "c", At: 4, Events: texts("v")}}},
		{Key: "a", Expect: 1, Writes: []api.Write{{Branch: "g", Events: texts("u")}, {Branch: "k", Fork: "g"}}},
		{Key: "d", Row: []byte("d1")},
	}
}

// rowsOf gives what batches make of no rows, one behind the other: of none, of the first one, and so on.
func rowsOf(t *testing.T, l []api.Batch) []api.Rows {
	t.Helper()
	var r api.Rows
	out := []api.Rows{r}
	for _, b := range l {
		var e api.Errno
		if r, e = rows.Apply(r, b); e != api.OK {
			t.Fatalf("Apply(%v): %d", b, e)
		}
		out = append(out, r)
	}
	return out
}

// has fails unless the store has just these rows, in all that it is asked.
func has(t *testing.T, what string, s *Store, r api.Rows) {
	t.Helper()
	if got := s.Image(); !bytes.Equal(got, rows.Encode(r)) {
		t.Errorf("%s: Image = %.200q, want %.200q", what, got, rows.Encode(r))
	}
	var keys []string
	for _, x := range r.Rows {
		keys = append(keys, x.Key)
		if b, v := s.Get(x.Key); v != x.Version || !bytes.Equal(b, x.Bytes) {
			t.Errorf("%s: Get(%q) = %.80q, %d, want %.80q, %d", what, x.Key, b, v, x.Bytes, x.Version)
		}
	}
	if got := s.Keys(); !slices.Equal(got, keys) {
		t.Errorf("%s: Keys = %.200q, want %.200q", what, got, keys)
	}
	for _, x := range r.Branches {
		if l := s.Events(x.Key); !slices.EqualFunc(l, x.Events, bytes.Equal) {
			t.Errorf("%s: Events(%q) = %.200q, want %.200q", what, x.Key, l, x.Events)
		}
	}
	for _, key := range []string{"", "nobody", long(65)} {
		if b, v := s.Get(key); len(b) > 0 || v != 0 {
			t.Errorf("%s: Get(%q) = %q, %d", what, key, b, v)
		}
		if l := s.Events(key); len(l) > 0 {
			t.Errorf("%s: Events(%q) = %q", what, key, l)
		}
	}
}

// stands fails unless the log of the store has that LSN, of which so many are sure.
func stands(t *testing.T, what string, s *Store, lsn, durable int) {
	t.Helper()
	if s.LSN() != lsn || s.Durable() != durable {
		t.Errorf("%s: LSN %d, Durable %d, want %d, %d", what, s.LSN(), s.Durable(), lsn, durable)
	}
}

// bytesOf gives all zones' bytes, also of a dead disk, behind a crash of its copy.
func bytesOf(d *disk.Disk, keeps []int) []string {
	c := d.Copy()
	c.Crash(keeps)
	var out []string
	for zone := range api.MaxZones {
		b, _ := c.Read(zone)
		out = append(out, string(b))
	}
	return out
}

// sameDisk says whether both have the same bytes, and the same of them are sure.
func sameDisk(a, b *disk.Disk) bool {
	return slices.Equal(bytesOf(a, all), bytesOf(b, all)) && slices.Equal(bytesOf(a, nil), bytesOf(b, nil))
}

func TestTheExample(t *testing.T) {
	s := open(t, newDisk(t, 10000), 500)
	if n, e := s.Commit(plain("k", 0, "a")); n != 1 || e != api.OK {
		t.Errorf("Commit = %d, %d", n, e)
	}
	if n, e := s.Commit(plain("k", 0, "b")); n != 0 || e != api.ErrVersion {
		t.Errorf("Commit = %d, %d", n, e)
	}
	has(t, "the first one", s, api.Rows{Rows: []api.Row{{Key: "k", Version: 1, Bytes: []byte("a")}}})
}

func TestANewStore(t *testing.T) {
	d := newDisk(t, 10000)
	s := open(t, d, 500)
	has(t, "a new store", s, api.Rows{})
	stands(t, "a new store", s, 0, 0)
	if s.Stopped() || !bytes.Equal(s.Image(), []byte{0, 0}) {
		t.Errorf("stopped: %v, Image = %x", s.Stopped(), s.Image())
	}
	base := slices.Concat(segment.Head(1, 0), segment.Snap([]byte{0, 0}))
	if got := bytesOf(d, nil); got[0] != string(base) || !slices.Equal(d.Zones(), []int{0}) {
		t.Errorf("zones have %q", got)
	}
	has(t, "opened", open(t, d, 500), api.Rows{})
	if got := bytesOf(d, nil); got[0] != string(base) {
		t.Errorf("opened, zones have %q", got)
	}
}

func TestOpenRefuses(t *testing.T) {
	filled := newDisk(t, 10000)
	commit(t, open(t, filled, 100), few()...)
	must(t, filled.Sync())
	dead := filled.Copy()
	must(t, dead.Fuse(0))
	want(t, "the last change", dead.Append(7, []byte("x")), api.ErrDead)
	full := newDisk(t, 10)
	for _, c := range []struct {
		what string
		d    *disk.Disk
		size int
		want api.Errno
	}{
		{"no disk", nil, 10, api.ErrNil},
		{"no disk, and no size", nil, 0, api.ErrNil},
		{"a disk that no call made", &disk.Disk{}, 10, api.ErrNil},
		{"a size of 0", filled, 0, api.ErrArg},
		{"a size below 0", filled, math.MinInt, api.ErrArg},
		{"a size of 0, of a dead disk", dead, 0, api.ErrArg},
		{"a dead disk", dead, 10, api.ErrDead},
		{"a disk without room", full, 10, api.ErrFull},
	} {
		was := c.d.Copy()
		s, e := Open(c.d, c.size)
		if s != nil || e != c.want {
			t.Errorf("%s: Open = %v, %d, want %d", c.what, s, e, c.want)
		}
		if was != nil && !sameDisk(c.d, was) {
			t.Errorf("%s: the disk has changed", c.what)
		}
	}
	for _, size := range []int{1, 50, math.MaxInt} {
		has(t, "opened", open(t, filled.Copy(), size), rowsOf(t, few())[len(few())])
	}
}

// encoded gives a batch's bytes.
func encoded(t *testing.T, b api.Batch) []byte {
	t.Helper()
	p, e := batch.Encode(b)
	if e != api.OK {
		t.Fatalf("Encode(%v): %d", b, e)
	}
	return p
}

// logged gives a disk with a log of this snapshot and these records.
func logged(t *testing.T, snap []byte, records ...[]byte) *disk.Disk {
	t.Helper()
	d := newDisk(t, api.MaxRoom)
	l, e := wal.Open(d, 200, snap)
	must(t, e)
	for _, rec := range records {
		must(t, second(l.Append(rec)))
	}
	must(t, l.Sync())
	return d
}

func TestOpenOfALog(t *testing.T) {
	l := few()
	made := rowsOf(t, l)
	for n := range l {
		var records [][]byte
		for _, b := range l[n:] {
			records = append(records, encoded(t, b))
		}
		s := open(t, logged(t, rows.Encode(made[n]), records...), 200)
		has(t, fmt.Sprintf("a snapshot behind %d", n), s, made[len(l)])
		stands(t, "opened", s, len(l)-n, len(l)-n)
	}
	last := api.Rows{Rows: []api.Row{{Key: "k", Version: 1 << 31}}}
	has(t, "a version of 2^31", open(t, logged(t, rows.Encode(last)), 200), last)
}

func TestBytesThatNoStoreWrote(t *testing.T) {
	good, none := rows.Encode(rowsOf(t, few())[7]), []byte{0, 0}
	first, again := encoded(t, plain("k", 0, "a")), encoded(t, plain("k", 1, "b"))
	of := func(l ...api.Write) []byte { return encoded(t, api.Batch{Key: "new", Writes: l}) }
	var many api.Rows
	for i := range 10001 {
		many.Rows = append(many.Rows, api.Row{Key: fmt.Sprintf("%06d", i), Version: 1})
	}
	for _, c := range []struct {
		what    string
		snap    []byte
		records [][]byte
	}{
		{"a snapshot of no bytes", nil, nil},
		{"a snapshot of one byte", []byte{0}, nil},
		{"a snapshot with one byte more", []byte{0, 0, 0}, nil},
		{"a snapshot with one byte less", good[:len(good)-1], nil},
		{"a snapshot that is a text", []byte("rows"), nil},
		{"a snapshot of keys that fall", rows.Encode(api.Rows{Rows: []api.Row{{Key: "b", Version: 1}, {Key: "a", Version: 1}}}), nil},
		{"a snapshot of a version of 0", rows.Encode(api.Rows{Rows: []api.Row{{Key: "b"}}}), nil},
		{"a snapshot of a version above 2^31", rows.Encode(api.Rows{Rows: []api.Row{{Key: "b", Version: 1<<31 + 1}}}), nil},
		{"a snapshot of an event of no bytes", rows.Encode(api.Rows{Branches: []api.Branch{{Key: "b", Events: [][]byte{{}}}}}), nil},
		{"a snapshot of 10,001 rows", rows.Encode(many), nil},
		{"a snapshot of no rows, and a record", []byte("rows"), [][]byte{first}},
		{"a record that is no batch", none, [][]byte{[]byte("x")}},
		{"a batch with one byte more", none, [][]byte{append(slices.Clone(first), 0)}},
		{"a batch with one byte less", none, [][]byte{first[:len(first)-1]}},
		{"a batch of no key", none, [][]byte{{0, 0, 0, 0}}},
		{"a batch behind one that is none", none, [][]byte{{0}, first}},
		{"a last record that is no batch", none, [][]byte{first, again, []byte("x")}},
		{"a version that is not there", none, [][]byte{again}},
		{"a version twice", none, [][]byte{first, first}},
		{"a version that the snapshot has not", good, [][]byte{encoded(t, plain("b", 2, ""))}},
		{"a row that the snapshot has", good, [][]byte{encoded(t, plain("c", 0, ""))}},
		{"events that are not there", none, [][]byte{of(api.Write{Branch: "h", At: 1})}},
		{"events that the snapshot has", good, [][]byte{of(api.Write{Branch: "h"})}},
		{"a fork of nothing", none, [][]byte{of(api.Write{Branch: "h", Fork: "i"})}},
		{"a fork to what the snapshot has", good, [][]byte{of(api.Write{Branch: "g", Fork: "h"})}},
		{"too many events", none, [][]byte{of(api.Write{Branch: "h", Events: texts(strings.Split(long(120), "")...)}, api.Write{Branch: "h", At: 120, Events: texts("y")})}},
	} {
		d := logged(t, c.snap, c.records...)
		was := d.Copy()
		for range 2 {
			if s, e := Open(d, 200); s != nil || e != api.ErrLog {
				t.Errorf("%s: Open = %v, %d", c.what, s, e)
			}
		}
		if !sameDisk(d, was) {
			t.Errorf("%s: the disk has changed", c.what)
		}
	}
}

func TestCommit(t *testing.T) {
	for _, size := range []int{1, 60, 10000} {
		d := newDisk(t, 100000)
		s := open(t, d, size)
		made := rowsOf(t, few())
		for i, b := range few() {
			if n, e := s.Commit(b); n != i+1 || e != api.OK {
				t.Fatalf("Commit(%v) = %d, %d", b, n, e)
			}
			has(t, fmt.Sprintf("%d batches", i+1), s, made[i+1])
			stands(t, "committed", s, i+1, i/2*2)
			if i%2 == 1 {
				must(t, s.Sync())
				stands(t, "synced", s, i+1, i+1)
			}
		}
		must(t, d.Crash(all))
		has(t, "opened", open(t, d, size), made[len(few())])
		l, e := wal.Open(d, size, nil)
		must(t, e)
		for i, b := range few() {
			if !bytes.Equal(l.Records()[i], encoded(t, b)) {
				t.Errorf("record %d is %x", i, l.Records()[i])
			}
		}
	}
}

// fails fails unless a commit tells that error, and nothing has changed, on the disk either.
func fails(t *testing.T, what string, s *Store, d *disk.Disk, b api.Batch, code api.Errno) {
	t.Helper()
	image, lsn, durable, stopped, was := s.Image(), s.LSN(), s.Durable(), s.Stopped(), d.Copy()
	if n, e := s.Commit(b); n != 0 || e != code {
		t.Errorf("%s: Commit = %d, %d, want %d", what, n, e, code)
	}
	if !bytes.Equal(s.Image(), image) || s.LSN() != lsn || s.Durable() != durable || s.Stopped() != stopped || !sameDisk(d, was) {
		t.Errorf("%s: it has changed something", what)
	}
}

func TestCommitRefuses(t *testing.T) {
	d := newDisk(t, api.MaxRoom)
	s := open(t, d, 100)
	commit(t, s, few()...)
	of := func(l ...api.Write) api.Batch { return api.Batch{Key: "new", Writes: l} }
	great := texts(strings.SplitAfter(strings.Repeat(long(4095)+",", 119)+long(4096), ",")...)
	for _, c := range []struct {
		what string
		b    api.Batch
		code api.Errno
	}{
		{"no key", api.Batch{}, api.ErrArg},
		{"a key of 65 bytes", plain(long(65), 0, ""), api.ErrArg},
		{"Expect -1", plain("b", -1, ""), api.ErrArg},
		{"Expect 2^31 + 1", plain("b", 1<<31+1, ""), api.ErrArg},
		{"a row of 2^19 + 1 bytes", plain("new", 0, long(1<<19+1)), api.ErrArg},
		{"5 writes", of(make([]api.Write, 5)...), api.ErrArg},
		{"very many writes", of(make([]api.Write, 100000)...), api.ErrArg},
		{"no branch", of(api.Write{}), api.ErrArg},
		{"an event of no bytes", of(api.Write{Branch: "new", Events: [][]byte{nil}}), api.ErrArg},
		{"121 events in all", of(api.Write{Branch: "h", At: 3, Events: great[:118]}), api.ErrArg},
		{"121 events of a fork", of(api.Write{Branch: "new", Fork: "h", Keep: 3, Events: great[:118]}), api.ErrArg},
		{"Expect 0", plain("b", 0, ""), api.ErrVersion},
		{"Expect one below", plain("b", 2, ""), api.ErrVersion},
		{"Expect one above", plain("b", 4, ""), api.ErrVersion},
		{"Expect 1 of no row", plain("new", 1, ""), api.ErrVersion},
		{"At one below", of(api.Write{Branch: "h", At: 2}), api.ErrVersion},
		{"At one above", of(api.Write{Branch: "h", At: 4}), api.ErrVersion},
		{"a fork to what is there", of(api.Write{Branch: "g", Fork: "h"}), api.ErrVersion},
		{"a fork of nothing", of(api.Write{Branch: "new", Fork: "nobody"}), api.ErrVersion},
		{"a fork of fewer", of(api.Write{Branch: "new", Fork: "h", Keep: 4}), api.ErrVersion},
		{"a last write behind others", of(api.Write{Branch: "h", At: 3, Events: texts("n")}, api.Write{Branch: "new", Fork: "h", Keep: 4}, api.Write{Branch: "g", At: 9}), api.ErrVersion},
		{"more than a record", of(api.Write{Branch: "m", Events: great}, api.Write{Branch: "n", Events: great}, api.Write{Branch: "o", Events: great}), api.ErrArg},
	} {
		fails(t, c.what, s, d, c.b, c.code)
	}
	has(t, "all refused", s, rowsOf(t, few())[7])
	commit(t, s, of(api.Write{Branch: "m", Events: great}, api.Write{Branch: "n", Events: great}))
}

// TestTheWritesOfABatch: each is of what those ahead made, also where they name one branch more than once.
func TestTheWritesOfABatch(t *testing.T) {
	l := append(few(), api.Batch{Key: "b", Expect: 3, Row: []byte("b4"), Writes: []api.Write{
		{Branch: "h", At: 3, Events: texts("1")},
		{Branch: "n", Fork: "h", Keep: 4, Events: texts("2")},
		{Branch: "h", At: 4, Events: texts("3")},
		{Branch: "n", At: 5, Events: texts("4")},
	}})
	s := open(t, newDisk(t, 10000), 100)
	commit(t, s, l...)
	has(t, "writes behind each other", s, rowsOf(t, l)[len(l)])
	if got := fmt.Sprintf("%s %s", s.Events("h"), s.Events("n")); got != "[x y z 1 3] [x y z 1 2 4]" {
		t.Errorf("they have %s", got)
	}
}

func TestNoRoom(t *testing.T) {
	d := newDisk(t, 10000)
	s := open(t, d, 10000)
	commit(t, s, few()...)
	b := plain("new", 0, "row")
	size := frame.Size(len(encoded(t, b)))
	for room := d.Used() - 3; room < d.Used()+size; room++ {
		must(t, d.Room(room))
		fails(t, "no room", s, d, b, api.ErrFull)
		fails(t, "no room, refused", s, d, plain("new", 1, "row"), api.ErrVersion)
		want(t, "Checkpoint", s.Checkpoint(), api.ErrFull)
	}
	has(t, "no room", s, rowsOf(t, few())[7])
	must(t, s.Sync(), d.Room(d.Used()+size))
	commit(t, s, b)
	must(t, s.Sync())
	has(t, "room", open(t, d, 10000), rowsOf(t, append(few(), b))[8])
}

// TestNoZone: a log in all zones but one has no room for a record; behind a checkpoint it has.
func TestNoZone(t *testing.T) {
	d := newDisk(t, 100000)
	s := open(t, d, 1)
	var l []api.Batch
	for n := 0; ; n++ {
		b := plain("k", n, fmt.Sprint(n))
		if _, e := s.Commit(b); e != api.OK {
			want(t, "full", e, api.ErrFull)
			break
		}
		l = append(l, b)
	}
	if len(l) != api.MaxZones-2 {
		t.Errorf("%d batches went on", len(l))
	}
	made := rowsOf(t, l)
	has(t, "full", s, made[len(l)])
	must(t, s.Checkpoint())
	commit(t, s, plain("k", len(l), "more"))
	must(t, d.Crash(nil))
	has(t, "opened", open(t, d, 1), made[len(l)])
}

func TestCheckpoint(t *testing.T) {
	l := few()
	made := rowsOf(t, l)
	for n := range len(l) + 1 {
		d := newDisk(t, 10000)
		s := open(t, d, 50)
		commit(t, s, l[:n]...)
		must(t, s.Checkpoint())
		has(t, "a checkpoint", s, made[n])
		stands(t, "a checkpoint", s, n, n)
		w, e := wal.Open(d.Copy(), 50, nil)
		must(t, e)
		if !bytes.Equal(w.Snapshot(), rows.Encode(made[n])) || len(w.Records()) != 0 || w.LSN() != n {
			t.Errorf("behind %d: the log has %q, %q", n, w.Snapshot(), w.Records())
		}
		commit(t, s, l[n:]...)
		has(t, "batches behind it", s, made[len(l)])
		stands(t, "batches behind it", s, len(l), n)
		sure := d.Copy()
		must(t, sure.Crash(nil), d.Crash(all))
		has(t, "opened", open(t, sure, 50), made[n])
		has(t, "opened, all kept", open(t, d, 50), made[len(l)])
	}
}

func TestCheckpointOfTooMuch(t *testing.T) {
	d := newDisk(t, api.MaxRoom)
	s := open(t, d, 1000)
	commit(t, s, plain("a", 0, long(1<<19)), plain("b", 0, long(1<<19-30)))
	must(t, s.Checkpoint())
	commit(t, s, plain("b", 1, long(1<<19)))
	image, was := s.Image(), d.Copy()
	want(t, "more than a frame", s.Checkpoint(), api.ErrArg)
	if !bytes.Equal(s.Image(), image) || !sameDisk(d, was) || s.Stopped() {
		t.Error("it has changed something")
	}
	stands(t, "refused", s, 3, 2)
	must(t, s.Sync())
	if got := open(t, d, 1000); !bytes.Equal(got.Image(), image) {
		t.Error("opened, it has something else")
	}
}

// TestManyRows: at the greatest number of rows and branches that may be.
func TestManyRows(t *testing.T) {
	d := newDisk(t, api.MaxRoom)
	s := open(t, d, 100000)
	r := rand.New(rand.NewSource(12))
	for _, n := range r.Perm(10000) {
		key := fmt.Sprintf("%05d", n)
		commit(t, s, api.Batch{Key: key, Writes: []api.Write{{Branch: "h" + key}}})
	}
	must(t, s.Sync())
	if keys := s.Keys(); len(keys) != 10000 || !slices.IsSorted(keys) || keys[9999] != "09999" {
		t.Errorf("%d keys", len(keys))
	}
	image := s.Image()
	if got, e := rows.Decode(image); e != api.OK || len(got.Branches) != 10000 {
		t.Errorf("Decode: %d", e)
	}
	if !bytes.Equal(open(t, d, 100000).Image(), image) {
		t.Error("opened, it has something else")
	}
	must(t, s.Checkpoint())
	if !bytes.Equal(s.Image(), image) || !bytes.Equal(open(t, d, 100000).Image(), image) {
		t.Error("behind a checkpoint it has something else")
	}
}

// TestTooManyRows: beyond that number a checkpoint could not be read back, so it is refused, and the log goes on.
func TestTooManyRows(t *testing.T) {
	for what, last := range map[string]api.Batch{
		"one row more":    {Key: "last"},
		"one branch more": {Key: "00000", Expect: 1, Writes: []api.Write{{Branch: "last"}}},
	} {
		d := newDisk(t, api.MaxRoom)
		s := open(t, d, 100000)
		for n := range 10000 {
			key := fmt.Sprintf("%05d", n)
			commit(t, s, api.Batch{Key: key, Writes: []api.Write{{Branch: "h" + key}}})
		}
		must(t, s.Checkpoint())
		commit(t, s, last)
		image, was := s.Image(), d.Copy()
		want(t, what, s.Checkpoint(), api.ErrArg)
		if !bytes.Equal(s.Image(), image) || !sameDisk(d, was) || s.Stopped() {
			t.Errorf("%s: it has changed something", what)
		}
		stands(t, what, s, 10001, 10000)
		must(t, s.Sync(), d.Crash(nil))
		s = open(t, d, 100000)
		if !bytes.Equal(s.Image(), image) {
			t.Errorf("%s: opened, it has something else", what)
		}
		must(t, d.Fuse(0))
		want(t, what, s.Sync(), api.ErrDead)
		want(t, what+", stopped", s.Checkpoint(), api.ErrDead)
	}
}

func TestAStoreThatHasStopped(t *testing.T) {
	l := few()
	made := rowsOf(t, l)
	for what, call := range map[string]func(s *Store) api.Errno{
		"Commit":     func(s *Store) api.Errno { return second(s.Commit(l[6])) },
		"Sync":       (*Store).Sync,
		"Checkpoint": (*Store).Checkpoint,
	} {
		d := newDisk(t, 10000)
		s := open(t, d, 1000)
		commit(t, s, l[:4]...)
		must(t, s.Sync())
		commit(t, s, l[4:6]...)
		must(t, d.Fuse(0))
		if s.Stopped() {
			t.Error("it has stopped already")
		}
		want(t, what, call(s), api.ErrDead)
		must(t, d.Crash(all))
		for range 2 { // the disk lives again; the store does not
			fails(t, "Commit", s, d, l[6], api.ErrDead)
			fails(t, "Commit of no batch", s, d, api.Batch{}, api.ErrArg)
			fails(t, "Commit of one that is refused", s, d, l[0], api.ErrVersion)
			want(t, "Sync", s.Sync(), api.ErrDead)
			want(t, "Checkpoint", s.Checkpoint(), api.ErrDead)
			has(t, what, s, made[6])
			stands(t, what, s, 6, 4)
			if !s.Stopped() {
				t.Errorf("%s: it goes on", what)
			}
		}
		has(t, "opened", open(t, d, 1000), made[6])
	}
}

func TestAStoreThatNoCallMade(t *testing.T) {
	var none *Store
	for _, s := range []*Store{none, {}, new(Store)} {
		for _, b := range []api.Batch{{}, plain("k", 0, "a"), plain("k", 1, "a"), few()[0]} {
			if n, e := s.Commit(b); n != 0 || e != api.ErrNil {
				t.Errorf("Commit = %d, %d", n, e)
			}
		}
		want(t, "Sync", s.Sync(), api.ErrNil)
		want(t, "Checkpoint", s.Checkpoint(), api.ErrNil)
		for _, key := range []string{"", "k"} {
			if b, v := s.Get(key); b != nil || v != 0 {
				t.Errorf("Get = %q, %d", b, v)
			}
			if l := s.Events(key); l != nil {
				t.Errorf("Events = %q", l)
			}
		}
		if s.Keys() != nil || s.LSN() != 0 || s.Durable() != 0 || !s.Stopped() || s.Image() != nil {
			t.Error("it has something")
		}
	}
}

func TestNothingIsSharedOrKept(t *testing.T) {
	d := newDisk(t, 10000)
	s := open(t, d, 50)
	l := few()
	made := rowsOf(t, few())
	for i, b := range l {
		commit(t, s, b)
		clear(b.Row)
		for _, w := range b.Writes {
			for _, e := range w.Events {
				clear(e)
			}
			clear(w.Events)
		}
		clear(b.Writes)
		has(t, "arguments changed", s, made[i+1])
	}
	spoil := func(s *Store) {
		for _, key := range []string{"a", "b", "c", "d"} {
			b, _ := s.Get(key)
			clear(b[:cap(b)])
		}
		for _, key := range []string{"c", "g", "h", "k"} {
			events := s.Events(key)
			for _, e := range events {
				clear(e[:cap(e)])
			}
			clear(events[:cap(events)])
		}
		keys, image := s.Keys(), s.Image()
		clear(keys[:cap(keys)])
		clear(image[:cap(image)])
	}
	spoil(s)
	has(t, "answers changed", s, made[7])
	must(t, s.Sync())
	o := open(t, d, 50)
	spoil(o)
	has(t, "answers changed, opened", o, made[7])
	must(t, o.Checkpoint())
	spoil(o)
	has(t, "answers changed behind a checkpoint", o, made[7])
	has(t, "opened", open(t, d, 50), made[7])
}

// TestForksGoTheirOwnWay: what is written to a fork is not written to what it was made of, nor the other way about.
func TestForksGoTheirOwnWay(t *testing.T) {
	s := open(t, newDisk(t, 10000), 500)
	commit(t, s, few()[:1]...)
	commit(t, s, api.Batch{Key: "k", Writes: []api.Write{{Branch: "i", Fork: "h", Keep: 1}, {Branch: "j", Fork: "h", Keep: 1}}})
	commit(t, s, api.Batch{Key: "k", Expect: 1, Writes: []api.Write{{Branch: "i", At: 1, Events: texts("1")}, {Branch: "j", At: 1, Events: texts("2")}, {Branch: "h", At: 2, Events: texts("3")}}})
	if got := fmt.Sprintf("%s %s %s", s.Events("h"), s.Events("i"), s.Events("j")); got != "[x y 3] [x 1] [x 2]" {
		t.Errorf("they have %s", got)
	}
}

// run does what a store is asked to do, up to where it stops: it gives how many batches were done, and how many of them are sure.
func run(t *testing.T, d *disk.Disk, size int, made []api.Rows) (done, sure int) {
	t.Helper()
	s, e := Open(d, size)
	if e != api.OK {
		want(t, "Open", e, api.ErrDead)
		return 0, 0
	}
	l := few()
	for _, step := range "ccscc.c.csc" { // commits, syncs, checkpoints
		switch step {
		case 'c':
			_, e = s.Commit(l[s.LSN()])
		case 's':
			e = s.Sync()
		case '.':
			e = s.Checkpoint()
		}
		has(t, "as far as it went", s, made[s.LSN()])
		if s.Stopped() != (e == api.ErrDead) {
			t.Errorf("told %d, stopped: %v", e, s.Stopped())
		}
		if e != api.OK {
			want(t, string(step), e, api.ErrDead)
			break
		}
	}
	return s.LSN(), s.Durable()
}

// TestCrashesEverywhere cuts a store off at each of its changes, keeps each beginning of what was not synced, and cuts off the opening behind that as well.
func TestCrashesEverywhere(t *testing.T) {
	made := rowsOf(t, few())
	for _, size := range []int{1, 70, 1000} {
		whole := 0
		for n := 0; whole == 0; n++ {
			d := newDisk(t, 10000)
			must(t, d.Fuse(n))
			done, sure := run(t, d, size, made)
			if !d.Dead() {
				whole = n
				if done != len(few()) {
					t.Fatalf("%d batches were done", done)
				}
			}
			found := map[int]int{}
			for kept := range most(d) + 1 {
				for _, keeps := range [][]int{{kept}, {kept, 0}, {kept, math.MaxInt}, {math.MaxInt, kept}} {
					crashed := d.Copy()
					must(t, crashed.Crash(keeps))
					lsn := opened(t, crashed, size, made, kept%7 == 0)
					if lsn < sure || lsn > done {
						t.Fatalf("size %d, a fuse of %d, %v kept: %d batches, where %d were done, and %d sure", size, n, keeps, lsn, done, sure)
					}
					found[lsn]++
				}
			}
			if found[done] == 0 || found[sure] == 0 {
				t.Errorf("size %d, a fuse of %d: found %v, where %d were done, and %d sure", size, n, found, done, sure)
			}
		}
		if whole < 15 {
			t.Errorf("size %d: only %d changes", size, whole)
		}
	}
}

// most says how many bytes of one zone are not sure, at most.
func most(d *disk.Disk) int {
	out := 0
	sure := bytesOf(d, nil)
	for zone, b := range bytesOf(d, all) {
		out = max(out, len(b)-len(sure[zone]))
	}
	return out
}

// opened opens the store that a disk has, again and again, also behind openings that were cut off at each change, and gives how many batches it has.
func opened(t *testing.T, d *disk.Disk, size int, made []api.Rows, deep bool) int {
	t.Helper()
	c := d.Copy()
	s := open(t, c, size)
	lsn := s.LSN()
	stands(t, "opened", s, lsn, lsn)
	if !bytes.Equal(s.Image(), rows.Encode(made[lsn])) {
		t.Fatalf("opened with %d batches it has %q", lsn, s.Image())
	}
	for range 2 {
		if again := open(t, c, size); again.LSN() != lsn || !bytes.Equal(again.Image(), s.Image()) {
			t.Fatalf("opened once more it has %q", again.Image())
		}
		must(t, c.Crash(nil))
	}
	for n := 0; deep; n++ {
		cut := d.Copy()
		must(t, cut.Fuse(n))
		o, e := Open(cut, size)
		if (o == nil) != (e != api.OK) || e != api.OK && e != api.ErrDead {
			t.Fatalf("a fuse of %d: Open = %v, %d", n, o, e)
		}
		must(t, cut.Crash([]int{5 * n}))
		if again := open(t, cut, size); again.LSN() != lsn || !bytes.Equal(again.Image(), s.Image()) {
			t.Fatalf("behind an opening that was cut off at %d it has %q", n, again.Image())
		}
		if e == api.OK {
			break
		}
	}
	return lsn
}

// anyBatch gives a batch that may be, of few keys, of which most are as the rows are.
func anyBatch(r *rand.Rand, now api.Rows) api.Batch {
	key := func() string { return string("abcde"[r.Intn(5)]) }
	near := func(n int) int { return min(120, max(0, n+[]int{0, 0, 0, 0, 0, 1, -1}[r.Intn(7)])) }
	b := api.Batch{Key: key(), Row: []byte(long(r.Intn(9)))}
	old, _ := rows.Get(now, b.Key)
	b.Expect = near(old.Version)
	for range r.Intn(4) {
		w := api.Write{Branch: key(), Events: texts(strings.Split(long(r.Intn(9)), "")...)}
		if r.Intn(3) == 0 {
			w.Fork = key()
			l, _ := rows.Events(now, w.Fork)
			w.Keep = near(len(l))
		} else {
			l, _ := rows.Events(now, w.Branch)
			w.At = near(len(l))
		}
		b.Writes = append(b.Writes, w)
	}
	return b
}

// TestManyRuns holds stores through many crashes, one behind the other, against rows to which the batches are applied.
func TestManyRuns(t *testing.T) {
	r := rand.New(rand.NewSource(13))
	answers, lost := map[api.Errno]int{}, 0
	for range 150 {
		d := newDisk(t, 200+r.Intn(1500))
		size := []int{1, 40, 150, 600}[r.Intn(4)]
		made, sure := []api.Rows{{}}, 0
		for life := range 8 {
			s := open(t, d, size)
			lsn := s.LSN()
			if lsn < sure || lsn >= len(made) {
				t.Fatalf("life %d: %d batches, where %d were done, and %d sure", life, lsn, len(made)-1, sure)
			}
			lost += len(made) - 1 - lsn
			made = made[:lsn+1]
			has(t, "opened", s, made[lsn])
			if r.Intn(3) > 0 {
				must(t, d.Fuse(r.Intn(25)))
			}
			made = live(t, r, s, made, answers)
			sure = s.Durable()
			must(t, d.Crash([]int{r.Intn(90), r.Intn(90), r.Intn(90)}))
		}
	}
	if answers[api.OK] < 1000 || answers[api.ErrVersion] < 500 || answers[api.ErrDead] < 100 || answers[api.ErrFull] < 100 || lost < 100 {
		t.Errorf("answers: %v, %d batches were lost", answers, lost)
	}
}

// live asks a store this and that, perhaps until its disk dies, and gives what its batches made.
func live(t *testing.T, r *rand.Rand, s *Store, made []api.Rows, answers map[api.Errno]int) []api.Rows {
	t.Helper()
	for range 25 {
		var e api.Errno
		now := made[len(made)-1]
		switch r.Intn(10) {
		case 0:
			e = s.Sync()
		case 1:
			e = s.Checkpoint()
		default:
			b := anyBatch(r, now)
			next, code := rows.Apply(now, b)
			var n int
			n, e = s.Commit(b)
			if e == api.OK {
				made = append(made, next)
			}
			if code != api.OK && e != code || (e == api.OK) != (n == len(made)-1 && n > 0) {
				t.Fatalf("Commit(%v) = %d, %d, where Apply tells %d", b, n, e, code)
			}
		}
		answers[e]++
		has(t, "living", s, made[len(made)-1])
		if s.LSN() != len(made)-1 || s.Stopped() != (e == api.ErrDead) {
			t.Fatalf("told %d: LSN %d, %d batches, stopped: %v", e, s.LSN(), len(made)-1, s.Stopped())
		}
		if e == api.ErrDead {
			break
		}
	}
	return made
}

// TestTheSameCallsAnswerTheSame: nothing hangs on the order in which a map is gone through.
func TestTheSameCallsAnswerTheSame(t *testing.T) {
	var image []byte
	var zones []string
	for range 10 {
		d := newDisk(t, 100000)
		s := open(t, d, 200)
		for n := range 40 {
			key := fmt.Sprint(n * 7 % 40)
			commit(t, s, api.Batch{Key: key, Writes: []api.Write{{Branch: "h" + key, Events: texts(key)}}})
		}
		must(t, s.Checkpoint())
		if image == nil {
			image, zones = s.Image(), bytesOf(d, nil)
		}
		if !bytes.Equal(s.Image(), image) || !slices.Equal(bytesOf(d, nil), zones) {
			t.Fatal("another answer")
		}
	}
}
