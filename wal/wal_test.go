package wal

import (
	"bytes"
	"fmt"
	"math"
	"math/rand"
	"slices"
	"strings"
	"testing"

	"usher/api"
	"usher/disk"
	"usher/frame"
	"usher/segment"
)

// all keeps, in a crash, all that was not synced.
var all = []int{math.MaxInt}

func newDisk(t *testing.T, room int) *disk.Disk {
	t.Helper()
	d, e := disk.New(room)
	if e != api.OK {
		t.Fatalf("New(%d): %d", room, e)
	}
	return d
}

// must fails if one of the answers is an error.
func must(t *testing.T, answers ...api.Errno) {
	t.Helper()
	for i, e := range answers {
		if e != api.OK {
			t.Fatalf("answer %d is %d", i, e)
		}
	}
}

func want(t *testing.T, what string, got, want api.Errno) {
	t.Helper()
	if got != want {
		t.Errorf("%s: got %d, want %d", what, got, want)
	}
}

func open(t *testing.T, d *disk.Disk, size int, snap string) *Log {
	t.Helper()
	l, e := Open(d, size, []byte(snap))
	if e != api.OK || l == nil {
		t.Fatalf("Open: %v, %d", l, e)
	}
	return l
}

// put appends records of these texts, which must go on.
func put(t *testing.T, l *Log, texts ...string) {
	t.Helper()
	for _, s := range texts {
		lsn := l.LSN()
		if n, e := l.Append([]byte(s)); e != api.OK || n != lsn+1 || l.LSN() != n {
			t.Fatalf("Append(%.20q) = %d, %d; LSN was %d and is %d", s, n, e, lsn, l.LSN())
		}
	}
}

// tell gives what a log has: the snapshot, the records, the LSN.
func tell(l *Log) string {
	return fmt.Sprintf("%q %q %d", l.Snapshot(), l.Records(), l.LSN())
}

// has fails unless the log has just that.
func has(t *testing.T, what string, l *Log, lsn, durable int, snap string, records ...string) {
	t.Helper()
	if l.LSN() != lsn || l.Durable() != durable {
		t.Errorf("%s: LSN %d, Durable %d, want %d, %d", what, l.LSN(), l.Durable(), lsn, durable)
	}
	var got []string
	for _, r := range l.Records() {
		got = append(got, string(r))
	}
	if string(l.Snapshot()) != snap || !slices.Equal(got, records) {
		t.Errorf("%s: %.200s, want %.100q %.100q", what, tell(l), snap, records)
	}
}

// bytesOf gives all zones' bytes, also of a dead disk, behind a crash of its copy.
func bytesOf(d *disk.Disk, keeps []int) []string {
	c := d.Copy()
	c.Crash(keeps)
	var out []string
	for zone := range api.MaxZones {
		b, _ := c.Read(zone)
		out = append(out, string(b))
	}
	return out
}

// sameDisk says whether both have the same bytes, and the same of them are sure.
func sameDisk(a, b *disk.Disk) bool {
	return slices.Equal(bytesOf(a, all), bytesOf(b, all)) && slices.Equal(bytesOf(a, nil), bytesOf(b, nil))
}

// join puts frames together.
func join(parts ...[]byte) []byte {
	return slices.Concat(parts...)
}

// base gives a segment that has a snapshot; part one that has none.
func base(number, first int, snap string, records ...string) []byte {
	return join(segment.Head(number, first), segment.Snap([]byte(snap)), recordsOf(records))
}

func part(number, first int, records ...string) []byte {
	return join(segment.Head(number, first), recordsOf(records))
}

func recordsOf(texts []string) []byte {
	var out []byte
	for _, s := range texts {
		out = append(out, segment.Record([]byte(s))...)
	}
	return out
}

// diskOf gives a disk whose zones have these bytes, all of them sure.
func diskOf(t *testing.T, zones map[int][]byte) *disk.Disk {
	t.Helper()
	d := newDisk(t, api.MaxRoom)
	for zone, b := range zones {
		must(t, d.Append(zone, b))
	}
	must(t, d.Sync())
	return d
}

// change is one that a call makes of a disk.
type change func(d *disk.Disk) api.Errno

func appends(zone int, b []byte) change {
	return func(d *disk.Disk) api.Errno { return d.Append(zone, b) }
}

func cuts(zone, size int) change {
	return func(d *disk.Disk) api.Errno { return d.Cut(zone, size) }
}

func syncs(d *disk.Disk) api.Errno {
	return d.Sync()
}

// changes fails unless the call makes just these changes, in this order: a fuse shows the disk behind each of them.
func changes(t *testing.T, what string, build func() (*disk.Disk, func() api.Errno), expected ...change) {
	t.Helper()
	for n := range len(expected) + 1 {
		d, call := build()
		plain := d.Copy()
		for _, do := range expected[:n] {
			must(t, do(plain))
		}
		must(t, d.Fuse(n))
		e := call()
		if dies := n < len(expected); d.Dead() != dies || e != api.OK && !dies || e != api.ErrDead && dies {
			t.Errorf("%s: a fuse of %d: told %d, dead: %v", what, n, e, d.Dead())
		}
		if !sameDisk(d, plain) {
			t.Errorf("%s: a fuse of %d leaves %q, want %q", what, n, bytesOf(d, all), bytesOf(plain, all))
		}
	}
}

// opens holds the changes that Open makes of a disk of these zones.
func opens(t *testing.T, what string, zones map[int][]byte, snap string, expected ...change) {
	t.Helper()
	changes(t, what, func() (*disk.Disk, func() api.Errno) {
		d := diskOf(t, zones)
		return d, func() api.Errno {
			l, e := Open(d, 50, []byte(snap))
			if (l == nil) != (e != api.OK) {
				t.Errorf("%s: Open = %v, %d", what, l, e)
			}
			return e
		}
	}, expected...)
}

func TestOpenRefuses(t *testing.T) {
	long := make([]byte, api.MaxFrame+1)
	filled := diskOf(t, map[int][]byte{0: base(1, 0, "s", "a"), 3: []byte("junk")})
	dead := filled.Copy()
	must(t, dead.Fuse(0))
	want(t, "the last change", dead.Append(7, []byte("x")), api.ErrDead)
	for _, c := range []struct {
		what string
		d    *disk.Disk
		size int
		snap []byte
		want api.Errno
	}{
		{"no disk", nil, 10, nil, api.ErrNil},
		{"no disk, no size", nil, 0, long, api.ErrNil},
		{"a disk that no call made", &disk.Disk{}, 10, nil, api.ErrNil},
		{"a size of 0", filled, 0, nil, api.ErrArg},
		{"a size of -1", filled, -1, nil, api.ErrArg},
		{"the least size", filled, math.MinInt, nil, api.ErrArg},
		{"a long snapshot", filled, 10, long, api.ErrArg},
		{"a dead disk", dead, 10, nil, api.ErrDead},
		{"a dead disk, a size of 0", dead, 0, nil, api.ErrArg},
		{"a dead disk, a long snapshot", dead, 1, long, api.ErrArg},
	} {
		was := c.d.Copy()
		if l, e := Open(c.d, c.size, c.snap); l != nil || e != c.want {
			t.Errorf("%s: Open = %v, %d, want none, %d", c.what, l, e, c.want)
		}
		if was != nil && !sameDisk(c.d, was) {
			t.Errorf("%s: the disk has changed", c.what)
		}
	}
}

func TestOpenOfAnEmptyDisk(t *testing.T) {
	for _, n := range []int{0, 1, 239, 240, api.MaxFrame - 1, api.MaxFrame} {
		for _, size := range []int{1, 2, math.MaxInt} {
			d, snap := newDisk(t, api.MaxRoom), strings.Repeat("s", n)
			has(t, "a new log", open(t, d, size, snap), 0, 0, snap)
			if got := bytesOf(d, nil); got[0] != string(base(1, 0, snap)) || d.Used() != len(got[0]) {
				t.Errorf("a snapshot of %d bytes: zone 0 has %d sure ones, the disk %d", n, len(got[0]), d.Used())
			}
			l := open(t, d, size, "another")
			has(t, "opened again", l, 0, 0, snap)
			put(t, l, "a")
		}
	}
	d := newDisk(t, 100)
	if l, e := Open(d, 1, nil); e != api.OK || len(l.Snapshot()) != 0 || l.Stopped() {
		t.Errorf("no snapshot: %v, %d", l, e)
	}
}

func TestOpenOfAFullDisk(t *testing.T) {
	need := len(base(1, 0, "snap"))
	for room := range need {
		d := newDisk(t, room)
		if l, e := Open(d, 9, []byte("snap")); l != nil || e != api.ErrFull || d.Used() != 0 {
			t.Errorf("a room of %d: Open = %v, %d", room, l, e)
		}
	}
	open(t, newDisk(t, need), 9, "snap")

	// What is cut makes room; a log that is there needs none.
	d := newDisk(t, need)
	must(t, d.Append(5, make([]byte, need)))
	open(t, d, 9, "snap")
	must(t, d.Room(0))
	has(t, "without room", open(t, d, 9, "another"), 0, 0, "snap")
}

func TestOpenWithoutAChain(t *testing.T) {
	begin := []change{appends(0, base(1, 0, "snap")), syncs}
	whole := base(1, 0, "old", "a")
	opens(t, "an empty disk", nil, "snap", begin...)
	opens(t, "junk", map[int][]byte{0: []byte("junk"), 39: {0}, 7: make([]byte, 500)}, "snap",
		append([]change{cuts(0, 0), cuts(7, 0), cuts(39, 0)}, begin...)...)
	opens(t, "segments without a snapshot", map[int][]byte{1: part(1, 0, "a"), 2: part(2, 1, "b"), 30: part(3, 2)}, "snap",
		append([]change{cuts(1, 0), cuts(2, 0), cuts(30, 0)}, begin...)...)
	opens(t, "a snapshot that is cut off", map[int][]byte{0: base(1, 0, "old")[:20]}, "snap",
		append([]change{cuts(0, 0)}, begin...)...)
	opens(t, "a snapshot behind a record", map[int][]byte{0: join(part(1, 0, "a"), segment.Snap(nil))}, "snap",
		append([]change{cuts(0, 0)}, begin...)...)
	opens(t, "a number of 0", map[int][]byte{0: base(0, 0, "old")}, "snap",
		append([]change{cuts(0, 0)}, begin...)...)
	opens(t, "a byte ahead of the head", map[int][]byte{4: append([]byte{0}, whole...)}, "snap",
		append([]change{cuts(4, 0)}, begin...)...)
	turned := bytes.Clone(whole)
	turned[len(segment.Head(1, 0))-1] ^= 1
	opens(t, "a head of another sum", map[int][]byte{4: turned}, "snap",
		append([]change{cuts(4, 0)}, begin...)...)

	d := diskOf(t, map[int][]byte{3: part(4, 9, "a", "b")})
	has(t, "what is found", open(t, d, 50, "snap"), 0, 0, "snap")
	has(t, "what is found again", open(t, d, 50, "other"), 0, 0, "snap")
}

// chains are disks with a log, in zones that do not go by its numbers, and what Open is to make of them.
func chains() []struct {
	what    string
	zones   map[int][]byte
	changes []change
	snap    string
	records []string
	lsn     int
} {
	torn := func(b []byte, less int) []byte { return b[:len(b)-less] }
	abc := map[int][]byte{9: base(3, 7, "s", "a"), 2: part(4, 8, "b", "c"), 5: part(5, 10, "d")}
	with := func(zones map[int][]byte, zone int, b []byte) map[int][]byte {
		out := map[int][]byte{zone: b}
		for n, z := range zones {
			if n != zone {
				out[n] = z
			}
		}
		return out
	}
	type row = struct {
		what    string
		zones   map[int][]byte
		changes []change
		snap    string
		records []string
		lsn     int
	}
	return []row{
		{"a base alone", map[int][]byte{39: base(1, 0, "s")}, []change{syncs}, "s", nil, 0},
		{"a base with records", map[int][]byte{0: base(8, 5, "", "a", "b")}, []change{syncs}, "", []string{"a", "b"}, 7},
		{"three segments", abc, []change{syncs}, "s", []string{"a", "b", "c", "d"}, 11},
		{"a record of no bytes", map[int][]byte{0: base(1, 0, "s", "", "a")}, []change{syncs}, "s", []string{"", "a"}, 2},
		{"junk beside them", with(with(abc, 0, []byte("junk")), 39, []byte{1}), []change{cuts(0, 0), cuts(39, 0), syncs}, "s", []string{"a", "b", "c", "d"}, 11},
		{"an older base", with(abc, 1, base(2, 0, "old", "x", "y")), []change{cuts(1, 0), syncs}, "s", []string{"a", "b", "c", "d"}, 11},
		{"a newer base", with(abc, 39, base(6, 11, "new")), []change{cuts(2, 0), cuts(5, 0), cuts(9, 0), syncs}, "new", nil, 11},
		{"a newer base, cut off", with(abc, 39, torn(base(6, 11, "new"), 1)), []change{cuts(39, len(segment.Head(6, 11))), syncs}, "s", []string{"a", "b", "c", "d"}, 11},
		{"a newer base's head alone", with(abc, 39, part(6, 11)), []change{syncs}, "s", []string{"a", "b", "c", "d"}, 11},
		{"two bases of one number", with(abc, 20, base(3, 7, "t", "z")), []change{cuts(20, 0), syncs}, "s", []string{"a", "b", "c", "d"}, 11},
		{"the last one is torn", with(abc, 5, torn(part(5, 10, "d", "e"), 1)), []change{cuts(5, len(part(5, 10, "d"))), syncs}, "s", []string{"a", "b", "c", "d"}, 11},
		{"the last one is torn within its first record", with(abc, 5, torn(part(5, 10, "d"), 1)), []change{cuts(5, len(part(5, 10))), syncs}, "s", []string{"a", "b", "c"}, 10},
		{"the last one is torn within its head", with(abc, 5, torn(part(5, 10), 1)), []change{cuts(5, 0), syncs}, "s", []string{"a", "b", "c"}, 10},
		{"the last one has junk behind it", with(abc, 5, append(part(5, 10, "d"), 0)), []change{cuts(5, len(part(5, 10, "d"))), syncs}, "s", []string{"a", "b", "c", "d"}, 11},
		{"one within is torn", with(abc, 2, torn(part(4, 8, "b", "c"), 1)), []change{cuts(5, 0), cuts(2, len(part(4, 8, "b"))), syncs}, "s", []string{"a", "b"}, 9},
		{"one within is torn, and the next one goes on where that ends", with(with(abc, 2, torn(part(4, 8, "b", "c"), 1)), 5, part(5, 9, "d")), []change{cuts(5, 0), cuts(2, len(part(4, 8, "b"))), syncs}, "s", []string{"a", "b"}, 9},
		{"the base is torn", with(abc, 9, append(base(3, 7, "s", "a"), 1, 2)), []change{cuts(2, 0), cuts(5, 0), cuts(9, len(base(3, 7, "s", "a"))), syncs}, "s", []string{"a"}, 8},
		{"one within has lost a record", with(abc, 2, part(4, 8, "b")), []change{cuts(5, 0), syncs}, "s", []string{"a", "b"}, 9},
		{"one within is not there", with(abc, 2, nil), []change{cuts(5, 0), syncs}, "s", []string{"a"}, 8},
		{"two of one number", with(abc, 39, part(5, 10, "other")), []change{cuts(39, 0), syncs}, "s", []string{"a", "b", "c", "d"}, 11},
		{"two of one number, the first one goes on elsewhere", with(abc, 1, part(5, 9, "other")), []change{cuts(1, 0), syncs}, "s", []string{"a", "b", "c", "d"}, 11},
		{"the greatest number", map[int][]byte{0: base(math.MaxInt-1, 0, "s", "a"), 1: part(math.MaxInt, 1, "b")}, []change{syncs}, "s", []string{"a", "b"}, 2},
		{"the greatest LSN", map[int][]byte{0: base(1, math.MaxInt-1, "s", "a")}, []change{syncs}, "s", []string{"a"}, math.MaxInt},
		{"one beyond the greatest LSN", map[int][]byte{0: base(1, math.MaxInt-1, "s", "a", "b")}, []change{syncs}, "s", []string{"a", "b"}, math.MaxInt},
	}
}

func TestOpenWithAChain(t *testing.T) {
	for _, c := range chains() {
		opens(t, c.what, c.zones, "snap", c.changes...)
		d := diskOf(t, c.zones)
		for range 3 {
			has(t, c.what, open(t, d, 50, "snap"), c.lsn, c.lsn, c.snap, c.records...)
		}
	}
}

// TestOpenCutOff: with a crash behind each change of Open, the next one finds the same.
func TestOpenCutOff(t *testing.T) {
	for _, c := range chains() {
		for n := range len(c.changes) + 1 {
			for _, keeps := range [][]int{nil, all, {1}, {15}} {
				d := diskOf(t, c.zones)
				must(t, d.Fuse(n))
				_, e := Open(d, 50, []byte("snap"))
				if (e == api.OK) != (n == len(c.changes)) {
					t.Errorf("%s: a fuse of %d: Open tells %d", c.what, n, e)
				}
				must(t, d.Crash(keeps))
				has(t, c.what, open(t, d, 50, "snap"), c.lsn, c.lsn, c.snap, c.records...)
			}
		}
	}
}

func TestAppend(t *testing.T) {
	d := newDisk(t, 10000)
	l := open(t, d, 1000, "s")
	put(t, l, "a", "bb")
	has(t, "two records", l, 2, 0, "s", "a", "bb")
	must(t, l.Sync())
	has(t, "synced", l, 2, 2, "s", "a", "bb")
	put(t, l, "a")
	has(t, "a third one", l, 3, 2, "s", "a", "bb", "a")
	if got := bytesOf(d, all); got[0] != string(base(1, 0, "s", "a", "bb", "a")) || d.Used() != len(got[0]) {
		t.Errorf("zone 0 has %q", got[0])
	}
	if got := bytesOf(d, nil); got[0] != string(base(1, 0, "s", "a", "bb")) {
		t.Errorf("zone 0 has %q for sure", got[0])
	}
	must(t, l.Sync(), l.Sync())
	has(t, "all synced", l, 3, 3, "s", "a", "bb", "a")
}

func TestTheExample(t *testing.T) {
	d := newDisk(t, 1000)
	l := open(t, d, 1000, "")
	put(t, l, "a")
	must(t, l.Sync())
	put(t, l, "b")
	must(t, d.Crash([]int{3}))
	has(t, "behind the crash", open(t, d, 1000, ""), 1, 1, "", "a")
}

func TestSizesOfRecords(t *testing.T) {
	d := newDisk(t, api.MaxRoom)
	l := open(t, d, 1000, "")
	for _, rec := range [][]byte{nil, {}, make([]byte, api.MaxFrame+1), make([]byte, 2*api.MaxFrame)} {
		was := d.Copy()
		if n, e := l.Append(rec); n != 0 || e != api.ErrArg || !sameDisk(d, was) || l.Stopped() {
			t.Errorf("Append of %d bytes = %d, %d", len(rec), n, e)
		}
	}
	has(t, "refused", l, 0, 0, "")
	records := []string{"a", strings.Repeat("b", api.MaxFrame-1), strings.Repeat("c", api.MaxFrame)}
	put(t, l, records...)
	has(t, "great ones", l, 3, 0, "", records...)
	must(t, l.Sync())
	has(t, "great ones, opened", open(t, d, 1000, ""), 3, 3, "", records...)
}

// at gives a disk with these zones, and the call on a log that was opened there with that size.
func at(t *testing.T, zones map[int][]byte, size int, call func(l *Log) api.Errno) func() (*disk.Disk, func() api.Errno) {
	return func() (*disk.Disk, func() api.Errno) {
		d := diskOf(t, zones)
		l := open(t, d, size, "s")
		return d, func() api.Errno {
			e := call(l)
			if l.Stopped() != (e == api.ErrDead) {
				t.Errorf("told %d, stopped: %v", e, l.Stopped())
			}
			return e
		}
	}
}

func appendOf(text string) func(l *Log) api.Errno {
	return func(l *Log) api.Errno {
		n, e := l.Append([]byte(text))
		if e == api.OK && n != l.LSN() || e != api.OK && n != 0 {
			panic("Append tells another number than LSN")
		}
		return e
	}
}

func TestChangesOfAppend(t *testing.T) {
	zones := map[int][]byte{0: base(3, 7, "s", "a"), 2: part(4, 8, "b")}
	size := len(zones[2])
	record := segment.Record([]byte("c"))
	changes(t, "a segment of less than size", at(t, zones, size+1, appendOf("c")), appends(2, record))
	changes(t, "a segment of size", at(t, zones, size, appendOf("c")), appends(1, part(5, 9)), appends(1, record))
	changes(t, "a segment of more than size", at(t, zones, size-1, appendOf("c")), appends(1, part(5, 9)), appends(1, record))
	changes(t, "a size of 1", at(t, zones, 1, appendOf("c")), appends(1, part(5, 9)), appends(1, record))
	changes(t, "a size of 1, again", at(t, zones, 1, func(l *Log) api.Errno {
		if e := appendOf("c")(l); e != api.OK {
			return e
		}
		return appendOf("d")(l)
	}), appends(1, part(5, 9)), appends(1, record), appends(3, part(6, 10)), appends(3, segment.Record([]byte("d"))))
	changes(t, "behind a torn one", at(t, map[int][]byte{0: base(3, 7, "s", "a"), 2: append(part(4, 8, "b"), 9)}, size, appendOf("c")),
		appends(1, part(5, 9)), appends(1, record))
	changes(t, "Sync", at(t, zones, size, (*Log).Sync), syncs)
}

func TestSegmentsGrowUpToTheirSize(t *testing.T) {
	head, snap, rec := len(segment.Head(1, 0)), len(segment.Snap([]byte("s"))), len(segment.Record([]byte("a")))
	for _, c := range []struct {
		size, first, later int // how many records the first segment takes, and each later one
	}{
		{1, 0, 1}, {head, 0, 1}, {head + 1, 0, 1}, {head + snap, 0, 1}, {head + snap + 1, 1, 2},
		{head + snap + rec, 1, 2}, {head + snap + rec + 1, 2, 3},
	} {
		d := newDisk(t, 10000)
		l := open(t, d, c.size, "s")
		expected := make([]string, api.MaxZones)
		expected[0] = string(base(1, 0, "s"))
		zone, room := 0, c.first
		for i := range 12 {
			if room == 0 {
				zone, room = zone+1, c.later
				expected[zone] = string(part(zone+1, i))
			}
			room--
			text := string(rune('a' + i))
			expected[zone] += string(segment.Record([]byte(text)))
			put(t, l, text)
			if got := bytesOf(d, all); !slices.Equal(got, expected) {
				t.Fatalf("size %d, record %d: %q, want %q", c.size, i, got, expected)
			}
		}
		must(t, d.Crash(all))
		has(t, "opened", open(t, d, c.size, ""), 12, 12, "s", strings.Split("abcdefghijkl", "")...)
	}
}

// TestTheLeastEmptyZone: segments go where there is room, whatever their numbers are.
func TestTheLeastEmptyZone(t *testing.T) {
	d := diskOf(t, map[int][]byte{2: base(1, 0, "s"), 0: part(2, 0, "a"), 4: part(3, 1, "b")})
	l := open(t, d, 1, "")
	put(t, l, "c", "d", "e")
	if z := d.Zones(); !slices.Equal(z, []int{0, 1, 2, 3, 4, 5}) {
		t.Errorf("Zones = %v", z)
	}
	got := bytesOf(d, all)
	if got[1] != string(part(4, 2, "c")) || got[3] != string(part(5, 3, "d")) || got[5] != string(part(6, 4, "e")) {
		t.Errorf("zones have %q", got)
	}
	must(t, l.Checkpoint([]byte("t")))
	if got = bytesOf(d, nil); got[6] != string(base(7, 5, "t")) || len(d.Zones()) != 1 {
		t.Errorf("zones have %q", got)
	}
	put(t, l, "f")
	if got = bytesOf(d, all); got[0] != string(part(8, 5, "f")) {
		t.Errorf("zones have %q", got)
	}
}

// crowd gives a log of a base and so many segments more, each with a record; its size is 1.
func crowd(t *testing.T, more int) (*disk.Disk, *Log, []string) {
	t.Helper()
	zones := map[int][]byte{0: base(1, 0, "s")}
	var records []string
	for i := range more {
		records = append(records, string(rune('A'+i)))
		zones[i+1] = part(i+2, i, records[i])
	}
	d := diskOf(t, zones)
	return d, open(t, d, 1, ""), records
}

func TestNoZoneIsLeft(t *testing.T) {
	d, l, records := crowd(t, 37) // 38 zones are used: two are empty
	put(t, l, "x")
	records = append(records, "x")
	was := d.Copy()
	for range 2 { // all zones but one are used
		if n, e := l.Append([]byte("y")); n != 0 || e != api.ErrFull || !sameDisk(d, was) {
			t.Errorf("one zone is empty: Append = %d, %d", n, e)
		}
	}
	has(t, "one zone is empty", l, 38, 37, "s", records...)
	want(t, "no record", second(l.Append(nil)), api.ErrArg)
	must(t, l.Sync())
	has(t, "one zone is empty, synced", l, 38, 38, "s", records...)
	must(t, l.Checkpoint([]byte("t")))
	has(t, "checkpoint", l, 38, 38, "t")
	if z := d.Zones(); !slices.Equal(z, []int{39}) {
		t.Errorf("Zones = %v", z)
	}
	put(t, l, "z")

	d, l, records = crowd(t, 39) // no zone is empty
	was = d.Copy()
	want(t, "no zone is empty: Checkpoint", l.Checkpoint([]byte("t")), api.ErrFull)
	want(t, "no zone is empty: Append", second(l.Append([]byte("y"))), api.ErrFull)
	has(t, "no zone is empty", l, 39, 39, "s", records...)
	if !sameDisk(d, was) || l.Stopped() {
		t.Error("it has changed, or stopped")
	}
	l = open(t, d, 1000, "")
	put(t, l, "y") // the last segment is not full
	has(t, "no zone is needed", l, 40, 39, "s", append(records, "y")...)

	d, l, _ = crowd(t, 38) // all zones but one are used
	must(t, l.Checkpoint(nil))
	has(t, "one zone was empty", l, 38, 38, "")
}

func second(_ int, e api.Errno) api.Errno {
	return e
}

func TestTheGreatestNumber(t *testing.T) {
	for _, zones := range []map[int][]byte{
		{0: base(math.MaxInt, 5, "s", "a")},
		{1: base(math.MaxInt-1, 5, "s"), 0: part(math.MaxInt, 5, "a")},
	} {
		d := diskOf(t, zones)
		l := open(t, d, 1, "")
		was := d.Copy()
		want(t, "a new segment", second(l.Append([]byte("b"))), api.ErrFull)
		want(t, "a checkpoint", l.Checkpoint([]byte("t")), api.ErrFull)
		if !sameDisk(d, was) || l.Stopped() {
			t.Error("it has changed, or stopped")
		}
		has(t, "the greatest number", l, 6, 6, "s", "a")
		l = open(t, d, 1000, "")
		put(t, l, "b")
		must(t, l.Sync())
		has(t, "the same segment", l, 7, 7, "s", "a", "b")
		has(t, "opened", open(t, d, 1, ""), 7, 7, "s", "a", "b")
	}
	l := open(t, diskOf(t, map[int][]byte{0: base(math.MaxInt-1, 0, "s")}), 1, "")
	put(t, l, "a")
	want(t, "one more", second(l.Append([]byte("b"))), api.ErrFull)
	l = open(t, diskOf(t, map[int][]byte{0: base(math.MaxInt-1, 0, "s")}), 1, "")
	must(t, l.Checkpoint([]byte("t")))
	want(t, "one more", l.Checkpoint([]byte("u")), api.ErrFull)
	has(t, "the last checkpoint", l, 0, 0, "t")
}

// TestTheGreatestLSN: no record is taken that Open would not find.
func TestTheGreatestLSN(t *testing.T) {
	for _, size := range []int{1, 1000} {
		d := diskOf(t, map[int][]byte{0: base(1, math.MaxInt-1, "s")})
		l := open(t, d, size, "")
		put(t, l, "a")
		must(t, l.Sync())
		want(t, "one more", second(l.Append([]byte("b"))), api.ErrFull)
		has(t, "the greatest LSN", l, math.MaxInt, math.MaxInt, "s", "a")
		has(t, "opened", open(t, d, size, ""), math.MaxInt, math.MaxInt, "s", "a")
		must(t, l.Checkpoint([]byte("t")))
		has(t, "behind a checkpoint", open(t, d, size, ""), math.MaxInt, math.MaxInt, "t")
	}
}

func TestNoRoomForARecord(t *testing.T) {
	d := newDisk(t, 1000)
	l := open(t, d, 1000, "s")
	put(t, l, "a")
	for room := range d.Used() + frame.Size(1) {
		must(t, d.Room(room))
		was := d.Copy()
		if n, e := l.Append([]byte("b")); n != 0 || e != api.ErrFull || !sameDisk(d, was) || l.Stopped() {
			t.Fatalf("a room of %d: Append = %d, %d", room, n, e)
		}
		want(t, "Checkpoint", l.Checkpoint([]byte("long")), api.ErrFull)
		has(t, "no room", l, 1, 0, "s", "a")
	}
	must(t, d.Room(d.Used()+frame.Size(1)))
	put(t, l, "b")
	must(t, l.Sync())
	has(t, "room for one", l, 2, 2, "s", "a", "b")
}

// TestNoRoomBehindAHead: a new segment may be there without the record for which it was made.
func TestNoRoomBehindAHead(t *testing.T) {
	d := newDisk(t, 1000)
	l := open(t, d, 20, "s") // the base is full
	used, head := d.Used(), len(segment.Head(2, 0))
	must(t, d.Room(used+head-1))
	want(t, "no room for the head", second(l.Append([]byte("a"))), api.ErrFull)
	if d.Used() != used {
		t.Error("something was appended")
	}
	must(t, d.Room(used+head+frame.Size(1)-1))
	for range 3 {
		want(t, "room for the head alone", second(l.Append([]byte("a"))), api.ErrFull)
		if got := bytesOf(d, all); got[1] != string(part(2, 0)) || len(d.Zones()) != 2 || l.Stopped() {
			t.Fatalf("zones have %q", got)
		}
		has(t, "room for the head alone", l, 0, 0, "s")
	}
	must(t, d.Room(1000))
	put(t, l, "a", "b")
	if got := bytesOf(d, all); got[1] != string(part(2, 0, "a")) || got[2] != string(part(3, 1, "b")) {
		t.Errorf("zones have %q", got)
	}
	must(t, d.Crash(all))
	has(t, "opened", open(t, d, 20, ""), 2, 2, "s", "a", "b")

	// Where a head alone is as long as a segment is to be, each attempt makes a new one; they are a chain.
	d = newDisk(t, 1000)
	l = open(t, d, 1, "s")
	must(t, d.Room(d.Used()+3*head))
	for range 5 {
		want(t, "no room for the record", second(l.Append(make([]byte, 200))), api.ErrFull)
	}
	if z := d.Zones(); !slices.Equal(z, []int{0, 1, 2, 3}) {
		t.Errorf("Zones = %v", z)
	}
	must(t, d.Room(1000), l.Sync())
	put(t, l, "a")
	must(t, l.Sync())
	has(t, "opened", open(t, d, 1, ""), 1, 1, "s", "a")
}

func TestCheckpoint(t *testing.T) {
	for _, n := range []int{0, 1, 300, api.MaxFrame} {
		d := newDisk(t, api.MaxRoom)
		l, snap := open(t, d, 40, "s"), strings.Repeat("t", n)
		put(t, l, "a", "b", "c", "d")
		must(t, l.Sync())
		put(t, l, "e")
		must(t, l.Checkpoint([]byte(snap)))
		has(t, "checkpoint", l, 5, 5, snap)
		if got := bytesOf(d, nil); got[2] != string(base(3, 5, snap)) || !slices.Equal(d.Zones(), []int{2}) {
			t.Errorf("a snapshot of %d bytes: Zones = %v", n, d.Zones())
		}
		put(t, l, "f")
		has(t, "a record behind it", l, 6, 5, snap, "f")
		must(t, d.Crash(nil))
		has(t, "opened", open(t, d, 40, "s"), 5, 5, snap)
	}
}

func TestChangesOfCheckpoint(t *testing.T) {
	zones := map[int][]byte{0: base(3, 7, "s", "a"), 2: part(4, 8, "b"), 7: part(5, 9)}
	checkpoint := func(l *Log) api.Errno { return l.Checkpoint([]byte("t")) }
	changes(t, "Checkpoint", at(t, zones, 1, checkpoint), appends(1, base(6, 9, "t")), syncs, cuts(0, 0), cuts(2, 0), cuts(7, 0))
	changes(t, "Checkpoint of one segment", at(t, map[int][]byte{1: base(1, 0, "s")}, 1, checkpoint), appends(0, base(2, 0, "t")), syncs, cuts(1, 0))
	changes(t, "two Checkpoints", at(t, nil, 1, func(l *Log) api.Errno {
		if e := l.Checkpoint([]byte("t")); e != api.OK {
			return e
		}
		return l.Checkpoint([]byte("u"))
	}), appends(1, base(2, 0, "t")), syncs, cuts(0, 0), appends(0, base(3, 0, "u")), syncs, cuts(1, 0))
}

func TestCheckpointRefuses(t *testing.T) {
	d := newDisk(t, api.MaxRoom)
	l := open(t, d, 40, "s")
	put(t, l, "a")
	was := d.Copy()
	want(t, "a long snapshot", l.Checkpoint(make([]byte, api.MaxFrame+1)), api.ErrArg)
	has(t, "refused", l, 1, 0, "s", "a")
	if !sameDisk(d, was) || l.Stopped() {
		t.Error("it has changed, or stopped")
	}
}

// TestCheckpointCutOff: the log itself tells the snapshot from the moment on that it is sure.
func TestCheckpointCutOff(t *testing.T) {
	for n := range 5 { // an append, a sync, two cuts
		for _, keeps := range [][]int{nil, all, {1}, {25}, {0, 12}, {10, 13}, {10, 30}} {
			d := newDisk(t, 1000)
			l := open(t, d, 40, "s")
			put(t, l, "a", "b", "c", "d")
			must(t, l.Sync())
			put(t, l, "e")
			must(t, d.Fuse(n))
			e := l.Checkpoint([]byte("t"))
			if n < 4 && (e != api.ErrDead || !l.Stopped()) || n == 4 && e != api.OK {
				t.Fatalf("a fuse of %d: Checkpoint = %d", n, e)
			}
			if n < 2 {
				has(t, "not synced yet", l, 5, 4, "s", "a", "b", "c", "d", "e")
			} else {
				has(t, "synced", l, 5, 5, "t")
			}
			must(t, d.Crash(keeps))
			m := open(t, d, 40, "s")
			got := tell(m)
			switch {
			case got == `"t" [] 5` && n > 0:
			case n < 2 && (got == `"s" ["a" "b" "c" "d"] 4` || got == `"s" ["a" "b" "c" "d" "e"] 5`):
			default:
				t.Errorf("a fuse of %d, %v kept: %s", n, keeps, got)
			}
			if again := tell(open(t, d, 40, "s")); again != got {
				t.Errorf("a fuse of %d, %v kept: %s, opened again: %s", n, keeps, got, again)
			}
		}
	}
}

func TestALogThatHasStopped(t *testing.T) {
	long := make([]byte, api.MaxFrame+1)
	for what, call := range map[string]func(l *Log) api.Errno{
		"Append":     appendOf("x"),
		"Sync":       (*Log).Sync,
		"Checkpoint": func(l *Log) api.Errno { return l.Checkpoint([]byte("t")) },
	} {
		d := newDisk(t, 1000)
		l := open(t, d, 1000, "s")
		put(t, l, "a")
		must(t, l.Sync())
		put(t, l, "b")
		if l.Stopped() {
			t.Error("it has stopped already")
		}
		must(t, d.Fuse(0))
		want(t, what, call(l), api.ErrDead)
		must(t, d.Crash(all))
		was := d.Copy()
		for range 2 { // the disk lives again; the log does not
			want(t, "Append", second(l.Append([]byte("c"))), api.ErrDead)
			want(t, "Append of none", second(l.Append(nil)), api.ErrDead)
			want(t, "Append of too much", second(l.Append(long)), api.ErrDead)
			want(t, "Sync", l.Sync(), api.ErrDead)
			want(t, "Checkpoint", l.Checkpoint([]byte("t")), api.ErrDead)
			want(t, "Checkpoint of too much", l.Checkpoint(long), api.ErrDead)
			has(t, what, l, 2, 1, "s", "a", "b")
			if !l.Stopped() || !sameDisk(d, was) {
				t.Errorf("%s: it goes on", what)
			}
		}
		has(t, "opened", open(t, d, 1000, ""), 2, 2, "s", "a", "b")
	}
}

// TestErrorsThatDoNotStop: what is refused ahead of the disk's dying is told, and the log goes on.
func TestErrorsThatDoNotStop(t *testing.T) {
	d := newDisk(t, 100)
	l := open(t, d, 1000, "s")
	must(t, d.Fuse(0))
	want(t, "no record", second(l.Append(nil)), api.ErrArg)
	want(t, "no snapshot", l.Checkpoint(make([]byte, api.MaxFrame+1)), api.ErrArg)
	want(t, "no room", second(l.Append(make([]byte, 100))), api.ErrFull)
	want(t, "no room", l.Checkpoint(make([]byte, 100)), api.ErrFull)
	if l.Stopped() || d.Dead() {
		t.Error("it has stopped")
	}
	want(t, "the fuse", l.Sync(), api.ErrDead)
	if !l.Stopped() {
		t.Error("it has not stopped")
	}
}

func TestALogThatNoCallMade(t *testing.T) {
	var none *Log
	for _, l := range []*Log{none, {}, new(Log)} {
		for _, b := range [][]byte{nil, []byte("a"), make([]byte, api.MaxFrame+1)} {
			if n, e := l.Append(b); n != 0 || e != api.ErrNil {
				t.Errorf("Append = %d, %d", n, e)
			}
			want(t, "Checkpoint", l.Checkpoint(b), api.ErrNil)
		}
		want(t, "Sync", l.Sync(), api.ErrNil)
		if l.Snapshot() != nil || l.Records() != nil || l.LSN() != 0 || l.Durable() != 0 || !l.Stopped() {
			t.Error("it has something")
		}
	}
}

func TestNothingIsSharedOrKept(t *testing.T) {
	d := newDisk(t, 1000)
	snap, rec, next := []byte("snap"), []byte("record"), []byte("next")
	l, e := Open(d, 1000, snap)
	must(t, e)
	if _, e = l.Append(rec); e != api.OK {
		t.Fatal(e)
	}
	put(t, l, "b")
	spoil := func(l *Log) {
		t.Helper()
		s, r := l.Snapshot(), l.Records()
		clear(s)
		clear(r[0])
		_ = append(s[:0], "longer than it was"...)
		_ = append(r[0][:0], "longer than it was"...)
		r[1] = nil
		_ = append(r[:1], []byte("other"))
	}
	clear(snap)
	clear(rec)
	has(t, "arguments changed", l, 2, 0, "snap", "record", "b")
	spoil(l)
	has(t, "answers changed", l, 2, 0, "snap", "record", "b")
	must(t, l.Sync())
	m := open(t, d, 1000, "")
	spoil(m)
	has(t, "answers changed, opened", m, 2, 2, "snap", "record", "b")
	must(t, m.Checkpoint(next))
	clear(next)
	has(t, "a snapshot changed", m, 2, 2, "next")
	has(t, "opened", open(t, d, 1000, ""), 2, 2, "next")
}

// run does what a log is asked to do, up to where it stops, and gives its LSN, and which states a crash may leave, as tell tells them.
func run(t *testing.T, d *disk.Disk, size int) (int, []string) {
	t.Helper()
	l, e := Open(d, size, []byte("s"))
	may := []string{`"s" [] 0`}
	if e != api.OK {
		return 0, may
	}
	for _, step := range strings.Split("a b sync c d e f sync check=t g h i check=u sync j", " ") {
		switch snap, isCheck := strings.CutPrefix(step, "check="); {
		case isCheck:
			e = l.Checkpoint([]byte(snap))
			done := fmt.Sprintf("%q [] %d", snap, l.LSN())
			may = append(may, done)
			if string(l.Snapshot()) == snap {
				may = []string{done}
			}
		case step == "sync":
			if e = l.Sync(); e == api.OK {
				may = []string{tell(l)}
			}
		default:
			if _, e = l.Append([]byte(step)); e == api.OK {
				may = append(may, tell(l))
			}
		}
		if e != api.OK {
			want(t, step, e, api.ErrDead)
			break
		}
	}
	return l.LSN(), may
}

// TestCrashesEverywhere cuts a log off at each of its changes, with many beginnings of what was not synced, and cuts off the opening behind that as well.
func TestCrashesEverywhere(t *testing.T) {
	kept := []int{0, 1, 8, 9, 10, 11, 12, 19, 20, 21, 22, 30, 31, 40, 1000}
	for _, size := range []int{1, 35, 1000} {
		whole := 0
		for n := 0; whole == 0; n++ {
			d := newDisk(t, 10000)
			must(t, d.Fuse(n))
			lsn, may := run(t, d, size)
			if !d.Dead() {
				whole = n
			}
			for _, first := range kept {
				for _, next := range kept {
					crashed := d.Copy()
					must(t, crashed.Crash([]int{first, next}))
					found := found(t, crashed, size)
					if !slices.Contains(may, found) {
						t.Fatalf("size %d, a fuse of %d, %d and %d kept: %s, which is none of %q", size, n, first, next, found, may)
					}
				}
			}
			must(t, d.Crash(all))
			if l := open(t, d, size, "s"); l.LSN() != lsn || !slices.Contains(may, tell(l)) {
				t.Fatalf("size %d, a fuse of %d, all kept: %s, where LSN was %d", size, n, tell(l), lsn)
			}
		}
		if whole < 20 {
			t.Errorf("size %d: only %d changes", size, whole)
		}
	}
}

// found gives what Open finds on a disk, having cut off others ahead of it at each change.
func found(t *testing.T, d *disk.Disk, size int) string {
	t.Helper()
	c := d.Copy()
	l := open(t, c, size, "s")
	got := tell(l)
	if l.Durable() != l.LSN() {
		t.Fatalf("Durable is %d, LSN %d", l.Durable(), l.LSN())
	}
	if again := tell(open(t, c, size, "other")); again != got {
		t.Fatalf("%s, opened again: %s", got, again)
	}
	for n := 0; ; n++ {
		cut := d.Copy()
		must(t, cut.Fuse(n))
		_, e := Open(cut, size, []byte("s"))
		must(t, cut.Crash([]int{7 * n}))
		if again := tell(open(t, cut, size, "s")); again != got {
			t.Fatalf("%s, behind an opening that was cut off at %d: %s", got, n, again)
		}
		if e == api.OK {
			return got
		}
	}
}

// history is what a log had: the texts of all its records, how many of them its snapshot stands for, and the snapshot of a checkpoint that was cut off.
type history struct {
	snap, cutOff string
	behind       int
	records      []string
}

func (h *history) upto(lsn int) string {
	return fmt.Sprintf("%q %q %d", h.snap, h.records[h.behind:lsn], lsn)
}

// renew notes that a snapshot stands for all that there is.
func (h *history) renew(snap string) {
	h.snap, h.behind = snap, len(h.records)
}

// TestManyRuns holds logs through many crashes, one behind the other, against a list of what was appended.
func TestManyRuns(t *testing.T) {
	r := rand.New(rand.NewSource(9))
	lost, done := 0, 0
	for range 300 {
		d := newDisk(t, 300+r.Intn(2000))
		size := []int{1, 20, 50, 200}[r.Intn(4)]
		h := &history{snap: "s"}
		sure := 0
		for life := range 8 {
			l := open(t, d, size, "s")
			lsn := l.LSN()
			if h.cutOff != "" && string(l.Snapshot()) == h.cutOff {
				h.renew(h.cutOff)
				done++
			}
			h.cutOff = ""
			if lsn < sure || lsn < h.behind || lsn > len(h.records) || tell(l) != h.upto(lsn) {
				t.Fatalf("life %d: %s, which is not of %v, of which %d are sure", life, tell(l), h, sure)
			}
			lost += len(h.records) - lsn
			h.records = h.records[:lsn]
			live(t, r, d, l, h)
			sure = l.Durable()
			must(t, d.Crash([]int{r.Intn(80), r.Intn(80), r.Intn(80)}))
		}
	}
	if lost < 100 || done < 5 {
		t.Errorf("%d records were lost, %d checkpoints done that were cut off", lost, done)
	}
}

// live asks a log this and that, perhaps until its disk dies, and writes into h what it had.
func live(t *testing.T, r *rand.Rand, d *disk.Disk, l *Log, h *history) {
	t.Helper()
	if r.Intn(3) > 0 {
		must(t, d.Fuse(r.Intn(25)))
	}
	for range 30 {
		var e api.Errno
		switch r.Intn(8) {
		case 0:
			e = l.Sync()
		case 1:
			snap := fmt.Sprintf("snap %d", r.Int())
			e = l.Checkpoint([]byte(snap))
			if string(l.Snapshot()) == snap {
				h.renew(snap)
			} else if e == api.ErrDead {
				h.cutOff = snap
			}
		default:
			rec := strings.Repeat(string(rune('a'+r.Intn(26))), 1+r.Intn(12))
			if _, e = l.Append([]byte(rec)); e == api.OK {
				h.records = append(h.records, rec)
			}
		}
		if tell(l) != h.upto(len(h.records)) || l.Durable() > l.LSN() {
			t.Fatalf("it has %s, want %s", tell(l), h.upto(len(h.records)))
		}
		if l.Stopped() != (e == api.ErrDead) || e != api.OK && e != api.ErrDead && e != api.ErrFull {
			t.Fatalf("told %d, stopped: %v", e, l.Stopped())
		}
		if e == api.ErrDead {
			return
		}
	}
}
