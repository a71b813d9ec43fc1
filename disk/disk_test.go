package disk

import (
	"fmt"
	"math"
	"math/rand"
	"slices"
	"strings"
	"testing"

	"usher/api"
)

func newDisk(t *testing.T, room int) *Disk {
	t.Helper()
	d, e := New(room)
	if e != api.OK || d == nil {
		t.Fatalf("New(%d): %d", room, e)
	}
	return d
}

// must fails if one of the answers is an error.
func must(t *testing.T, answers ...api.Errno) {
	t.Helper()
	for i, e := range answers {
		if e != api.OK {
			t.Fatalf("answer %d is %d", i, e)
		}
	}
}

func want(t *testing.T, what string, got, want api.Errno) {
	t.Helper()
	if got != want {
		t.Errorf("%s: got %d, want %d", what, got, want)
	}
}

// has holds all zones' bytes against what is expected, number and text by turns.
func has(t *testing.T, what string, d *Disk, pairs ...any) {
	t.Helper()
	expected, sum := map[int]string{}, 0
	for i := 0; i < len(pairs); i += 2 {
		text := pairs[i+1].(string)
		expected[pairs[i].(int)] = text
		sum += len(text)
	}
	for n := range api.MaxZones {
		if b, e := d.Read(n); e != api.OK || string(b) != expected[n] {
			t.Errorf("%s: zone %d has %q, %d, want %q", what, n, b, e, expected[n])
		}
	}
	if d.Used() != sum {
		t.Errorf("%s: Used = %d, want %d", what, d.Used(), sum)
	}
}

// dead gives a disk that has stopped: "sure" and "not" in zone 2, where the first are sure.
func dead(t *testing.T) *Disk {
	t.Helper()
	d := newDisk(t, 100)
	must(t, d.Append(2, []byte("sure")), d.Sync(), d.Append(2, []byte("not")), d.Fuse(0))
	want(t, "the last change", d.Sync(), api.ErrDead)
	return d
}

func TestNew(t *testing.T) {
	for _, room := range []int{-1, math.MinInt, 1<<24 + 1, math.MaxInt} {
		if d, e := New(room); d != nil || e != api.ErrArg {
			t.Errorf("New(%d) = %v, %d", room, d, e)
		}
	}
	for _, room := range []int{0, 1, 7, 1 << 24} {
		d := newDisk(t, room)
		has(t, "a new disk", d)
		if d.Dead() || d.Used() != 0 || len(d.Zones()) != 0 {
			t.Errorf("New(%d): it is not empty and alive", room)
		}
		want(t, "all the room", d.Append(0, make([]byte, room)), api.OK)
		want(t, "one more", d.Append(1, []byte{1}), api.ErrFull)
	}
}

func TestANewDiskHasNoFuse(t *testing.T) {
	d := newDisk(t, 10)
	for range 1000 {
		must(t, d.Sync())
	}
}

func TestZonesThatThereAre(t *testing.T) {
	d := newDisk(t, 100)
	for _, zone := range []int{-1, 40, 41, math.MinInt, math.MaxInt} {
		want(t, "Append", d.Append(zone, []byte("a")), api.ErrArg)
		want(t, "Append of none", d.Append(zone, nil), api.ErrArg)
		want(t, "Cut", d.Cut(zone, 0), api.ErrArg)
		b, e := d.Read(zone)
		want(t, "Read", e, api.ErrArg)
		if len(b) != 0 {
			t.Errorf("Read(%d) = %q", zone, b)
		}
	}
	has(t, "behind what was refused", d)
	must(t, d.Append(0, []byte("a")), d.Append(39, []byte("z")))
	has(t, "the first and the last", d, 0, "a", 39, "z")
	must(t, d.Cut(0, 0), d.Cut(39, 1))
	has(t, "cut", d, 39, "z")
}

func TestAppend(t *testing.T) {
	d := newDisk(t, 10)
	must(t, d.Append(3, []byte("ab")), d.Append(5, []byte("cd")), d.Append(3, nil), d.Append(3, []byte{}), d.Append(3, []byte("\x00\xff")))
	has(t, "appended", d, 3, "ab\x00\xff", 5, "cd")
	want(t, "five more than the room", d.Append(3, make([]byte, 5)), api.ErrFull)
	want(t, "in another zone", d.Append(9, make([]byte, 5)), api.ErrFull)
	has(t, "behind ErrFull", d, 3, "ab\x00\xff", 5, "cd")
	must(t, d.Append(9, []byte("1234")))
	want(t, "none, of a full disk", d.Append(9, nil), api.OK)
	want(t, "one, of a full disk", d.Append(9, []byte("x")), api.ErrFull)
	must(t, d.Cut(9, 3), d.Append(5, []byte("e")))
	has(t, "room by a Cut", d, 3, "ab\x00\xff", 5, "cde", 9, "123")
}

func TestAppendKeepsNothing(t *testing.T) {
	d := newDisk(t, 100)
	b := []byte("abc")
	must(t, d.Append(0, b))
	b[0] = 'X'
	has(t, "what was handed in changed", d, 0, "abc")
	must(t, d.Append(0, b))
	if string(b) != "Xbc" {
		t.Errorf("Append changed %q", b)
	}
}

func TestReadIsNewMemory(t *testing.T) {
	d := newDisk(t, 100)
	must(t, d.Append(0, []byte("abcdef")), d.Cut(0, 3))
	a, _ := d.Read(0)
	b, _ := d.Read(0)
	a[0] = 'X'
	_ = append(a, "YYY"...)
	if string(b) != "abc" {
		t.Errorf("two answers share memory: %q", b)
	}
	has(t, "an answer was changed", d, 0, "abc")
	must(t, d.Append(0, []byte("ghi")))
	if string(a) != "Xbc" || string(b) != "abc" {
		t.Error("an answer changed")
	}
	z := d.Zones()
	z[0] = 33
	if got := d.Zones(); !slices.Equal(got, []int{0}) {
		t.Errorf("Zones = %v", got)
	}
}

func TestCut(t *testing.T) {
	d := newDisk(t, 100)
	must(t, d.Append(7, []byte("abcdef")))
	for _, size := range []int{-1, 7, math.MinInt, math.MaxInt} {
		want(t, fmt.Sprint("Cut to ", size), d.Cut(7, size), api.ErrArg)
	}
	want(t, "one byte of an empty zone", d.Cut(8, 1), api.ErrArg)
	has(t, "behind ErrArg", d, 7, "abcdef")
	must(t, d.Cut(7, 6))
	has(t, "cut to all", d, 7, "abcdef")
	must(t, d.Cut(7, 2), d.Cut(8, 0))
	has(t, "cut to two", d, 7, "ab")
	want(t, "what is there no more", d.Cut(7, 3), api.ErrArg)
	must(t, d.Append(7, []byte("XY")))
	has(t, "gone on", d, 7, "abXY")
	must(t, d.Cut(7, 0))
	has(t, "cut to none", d)
	if len(d.Zones()) != 0 {
		t.Errorf("Zones = %v", d.Zones())
	}
}

func TestCutAndWhatIsSure(t *testing.T) {
	for _, c := range []struct {
		size int
		left string
	}{
		{0, "new"}, {2, "abnew"}, {4, "abcdnew"}, {5, "abcdenew"}, {6, "abcdefnew"},
	} {
		d := newDisk(t, 100)
		must(t, d.Append(0, []byte("abcd")), d.Sync(), d.Append(0, []byte("ef")), d.Cut(0, c.size), d.Append(0, []byte("new")))
		has(t, "cut, and gone on", d, 0, c.left)
		must(t, d.Crash(nil))
		if sure := "abcd"[:min(c.size, 4)]; sure == "" {
			has(t, "a crash", d)
		} else {
			has(t, "a crash", d, 0, sure)
		}
	}
}

func TestSync(t *testing.T) {
	d := newDisk(t, 100)
	must(t, d.Append(0, []byte("a")), d.Append(39, []byte("bc")), d.Append(11, []byte("def")), d.Sync(), d.Crash(nil))
	has(t, "synced", d, 0, "a", 39, "bc", 11, "def")
	must(t, d.Append(0, []byte("x")), d.Crash(nil))
	has(t, "not synced", d, 0, "a", 39, "bc", 11, "def")
}

func TestTheExample(t *testing.T) {
	d := newDisk(t, 100)
	must(t, d.Append(3, []byte("ab")), d.Sync(), d.Append(3, []byte("cd")), d.Crash([]int{1}))
	has(t, "a crash", d, 3, "abc")
}

func TestCrash(t *testing.T) {
	for _, c := range []struct {
		keeps            []int
		z1, z4, z20, z39 string
	}{
		{nil, "ab", "", "sure", "x"},
		{[]int{}, "ab", "", "sure", "x"},
		{[]int{0}, "ab", "", "sure", "x"},
		{[]int{-1}, "ab", "", "sure", "x"},
		{[]int{math.MinInt}, "ab", "", "sure", "x"},
		{[]int{1}, "abc", "e", "sure", "xy"},
		{[]int{2}, "abcd", "ef", "sure", "xyz"},
		{[]int{3}, "abcd", "efg", "sure", "xyz"},
		{[]int{math.MaxInt}, "abcd", "efg", "sure", "xyz"},
		{[]int{1, 2}, "abc", "ef", "sure", "xy"},
		{[]int{0, 9}, "ab", "efg", "sure", "x"},
		{[]int{-5, 1}, "ab", "e", "sure", "x"},
		{[]int{2, 0, 1}, "abcd", "", "sure", "xy"},
		{[]int{1, 3, 2, 0}, "abc", "efg", "sure", "xyz"},
		{[]int{0, 0, 0, 2, 2}, "ab", "", "sure", "x"},
	} {
		d := newDisk(t, 100)
		must(t, d.Append(39, []byte("x")), d.Append(20, []byte("sure")), d.Append(1, []byte("ab")), d.Sync())
		must(t, d.Append(39, []byte("yz")), d.Append(4, []byte("efg")), d.Append(1, []byte("cd")))
		keeps := slices.Clone(c.keeps)
		must(t, d.Crash(keeps))
		if !slices.Equal(keeps, c.keeps) {
			t.Errorf("Crash changed its keeps to %v", keeps)
		}
		what := fmt.Sprint("Crash of ", c.keeps)
		has(t, what, d, 1, c.z1, 4, c.z4, 20, c.z20, 39, c.z39)
		must(t, d.Crash(nil))
		has(t, what+", and another one", d, 1, c.z1, 4, c.z4, 20, c.z20, 39, c.z39)
	}
}

func TestCrashOfADeadDisk(t *testing.T) {
	d := dead(t)
	must(t, d.Crash([]int{2}))
	if d.Dead() {
		t.Error("it is dead yet")
	}
	has(t, "behind the crash", d, 2, "sureno")
	must(t, d.Append(0, []byte("on")), d.Sync(), d.Cut(0, 1), d.Fuse(1), d.Room(50))
}

func TestCrashTakesTheFuse(t *testing.T) {
	d := newDisk(t, 100)
	must(t, d.Fuse(1), d.Sync(), d.Crash(nil))
	for range 5 {
		must(t, d.Append(0, []byte("a")))
	}
}

func TestCrashLeavesTheRoom(t *testing.T) {
	d := newDisk(t, 3)
	must(t, d.Append(0, []byte("abc")), d.Crash(nil), d.Append(0, []byte("ab")))
	want(t, "two more", d.Append(0, []byte("cd")), api.ErrFull)
	must(t, d.Append(0, []byte("c")))
}

func TestFuse(t *testing.T) {
	for n := range 4 {
		for last, change := range map[string]func(d *Disk) api.Errno{
			"Append":         func(d *Disk) api.Errno { return d.Append(0, []byte("x")) },
			"Append of none": func(d *Disk) api.Errno { return d.Append(0, nil) },
			"Sync":           func(d *Disk) api.Errno { return d.Sync() },
			"Cut":            func(d *Disk) api.Errno { return d.Cut(0, 1) },
			"Cut of all":     func(d *Disk) api.Errno { return d.Cut(0, 2) },
			"Cut of none":    func(d *Disk) api.Errno { return d.Cut(5, 0) },
		} {
			d := newDisk(t, 3)
			must(t, d.Append(0, []byte("ab")), d.Fuse(n))
			for range n {
				must(t, change(d.Copy()))
				must(t, d.Append(0, nil))
			}
			if d.Dead() {
				t.Fatalf("%s: dead ahead of its time", last)
			}
			want(t, "Append of too much", d.Append(0, []byte("yz")), api.ErrFull)
			want(t, "Append to no zone", d.Append(40, nil), api.ErrArg)
			want(t, "Cut of one more", d.Cut(0, 3), api.ErrArg)
			has(t, last, d, 0, "ab")
			want(t, last, change(d), api.ErrDead)
			if !d.Dead() || d.Used() != 2 {
				t.Errorf("%s behind a fuse of %d: dead %v, %d bytes", last, n, d.Dead(), d.Used())
			}
			must(t, d.Crash([]int{1}))
			has(t, last+" has changed nothing", d, 0, "a")
		}
	}
}

func TestFuseOfNone(t *testing.T) {
	d := newDisk(t, 10)
	want(t, "Fuse of -1", d.Fuse(-1), api.ErrArg)
	want(t, "Fuse of the least", d.Fuse(math.MinInt), api.ErrArg)
	must(t, d.Sync(), d.Sync(), d.Fuse(1))
	want(t, "Fuse of -1", d.Fuse(-1), api.ErrArg)
	must(t, d.Sync())
	want(t, "the fuse that was refused", d.Sync(), api.ErrDead)
}

func TestALaterFuse(t *testing.T) {
	d := newDisk(t, 10)
	must(t, d.Fuse(0), d.Fuse(2), d.Sync(), d.Fuse(2), d.Sync(), d.Sync())
	want(t, "behind them", d.Sync(), api.ErrDead)
	want(t, "a fuse of a dead disk", d.Fuse(5), api.ErrDead)
	d = newDisk(t, 10)
	must(t, d.Fuse(100), d.Sync(), d.Fuse(0))
	want(t, "a shorter one", d.Sync(), api.ErrDead)
	d = newDisk(t, 10)
	must(t, d.Fuse(math.MaxInt), d.Sync(), d.Sync())
}

func TestReadsDoNotBurnTheFuse(t *testing.T) {
	d := newDisk(t, 10)
	must(t, d.Append(0, []byte("a")), d.Fuse(1), d.Room(5))
	for range 3 {
		has(t, "read", d, 0, "a")
		d.Zones()
		d.Copy()
	}
	must(t, d.Sync())
	want(t, "the one behind", d.Sync(), api.ErrDead)
}

func TestRoom(t *testing.T) {
	d := newDisk(t, 4)
	for _, n := range []int{-1, 1<<24 + 1, math.MinInt, math.MaxInt} {
		want(t, fmt.Sprint("Room of ", n), d.Room(n), api.ErrArg)
	}
	must(t, d.Append(0, []byte("abcd")))
	want(t, "the room is as it was", d.Append(0, []byte("e")), api.ErrFull)
	must(t, d.Room(3))
	want(t, "none, with less room than is there", d.Append(0, nil), api.ErrFull)
	want(t, "one, with less room than is there", d.Append(0, []byte("e")), api.ErrFull)
	has(t, "more than the room", d, 0, "abcd")
	must(t, d.Sync(), d.Cut(0, 3))
	want(t, "none, with just the room", d.Append(0, nil), api.OK)
	want(t, "one, with just the room", d.Append(0, []byte("e")), api.ErrFull)
	must(t, d.Room(0))
	want(t, "none, with no room", d.Append(1, []byte{}), api.ErrFull)
	must(t, d.Cut(0, 0), d.Append(1, nil))
	must(t, d.Room(1<<24), d.Append(0, make([]byte, 1<<24)))
	want(t, "one more", d.Append(0, []byte("e")), api.ErrFull)
}

func TestARoomThatIsTooSmallDoesNotBurnTheFuse(t *testing.T) {
	d := newDisk(t, 4)
	must(t, d.Append(0, []byte("abcd")), d.Room(1), d.Fuse(0))
	want(t, "none", d.Append(0, nil), api.ErrFull)
	if d.Dead() {
		t.Error("it is dead")
	}
	want(t, "Sync", d.Sync(), api.ErrDead)
}

func TestADeadDiskAtEachCall(t *testing.T) {
	d := dead(t)
	for range 2 {
		want(t, "Append", d.Append(2, []byte("a")), api.ErrDead)
		want(t, "Append of none", d.Append(2, nil), api.ErrDead)
		want(t, "Append of too much", d.Append(2, make([]byte, 1000)), api.ErrDead)
		want(t, "Append to no zone", d.Append(-1, nil), api.ErrArg)
		want(t, "Sync", d.Sync(), api.ErrDead)
		want(t, "Cut", d.Cut(2, 0), api.ErrDead)
		want(t, "Cut of too much", d.Cut(2, 8), api.ErrArg)
		want(t, "Cut of no zone", d.Cut(40, 0), api.ErrArg)
		want(t, "Fuse", d.Fuse(3), api.ErrDead)
		want(t, "Fuse of -1", d.Fuse(-1), api.ErrArg)
		want(t, "Room", d.Room(3), api.ErrDead)
		want(t, "Room of -1", d.Room(-1), api.ErrArg)
		b, e := d.Read(2)
		want(t, "Read", e, api.ErrDead)
		_, no := d.Read(40)
		want(t, "Read of no zone", no, api.ErrArg)
		if len(b) != 0 || !d.Dead() || d.Used() != 7 || !slices.Equal(d.Zones(), []int{2}) {
			t.Errorf("%q, %v, %d, %v", b, d.Dead(), d.Used(), d.Zones())
		}
		c := d.Copy()
		if !c.Dead() || c.Used() != 7 || !slices.Equal(c.Zones(), []int{2}) {
			t.Errorf("its copy: %v, %d, %v", c.Dead(), c.Used(), c.Zones())
		}
		want(t, "Sync of its copy", c.Sync(), api.ErrDead)
		must(t, c.Crash([]int{1}))
		has(t, "its copy", c, 2, "suren")
		d = d.Copy()
	}
	must(t, d.Crash(nil))
	has(t, "behind a crash", d, 2, "sure")
}

func TestADiskThatNoCallMade(t *testing.T) {
	var none *Disk
	for _, d := range []*Disk{none, {}, new(Disk)} {
		for _, zone := range []int{0, -1} {
			want(t, "Append", d.Append(zone, []byte("a")), api.ErrNil)
			want(t, "Cut", d.Cut(zone, 0), api.ErrNil)
			b, e := d.Read(zone)
			want(t, "Read", e, api.ErrNil)
			if b != nil {
				t.Errorf("Read = %q", b)
			}
			want(t, "Fuse", d.Fuse(zone), api.ErrNil)
			want(t, "Room", d.Room(zone), api.ErrNil)
		}
		want(t, "Sync", d.Sync(), api.ErrNil)
		want(t, "Crash", d.Crash([]int{1}), api.ErrNil)
		want(t, "Crash of none", d.Crash(nil), api.ErrNil)
		if d.Used() != 0 || len(d.Zones()) != 0 || d.Dead() || d.Copy() != nil {
			t.Error("it has something")
		}
	}
}

func TestZonesRise(t *testing.T) {
	d := newDisk(t, 1000)
	var expected []int
	for n := range api.MaxZones {
		expected = append(expected, n)
		must(t, d.Append((n*17+5)%api.MaxZones, []byte("a")))
	}
	if got := d.Zones(); !slices.Equal(got, expected) || d.Used() != 40 {
		t.Errorf("Zones = %v, Used = %d", got, d.Used())
	}
	for n := 0; n < api.MaxZones; n += 2 {
		must(t, d.Cut(n, 0))
	}
	expected = slices.DeleteFunc(expected, func(n int) bool { return n%2 == 0 })
	if got := d.Zones(); !slices.Equal(got, expected) {
		t.Errorf("Zones = %v", got)
	}
	must(t, d.Crash(nil))
	if got := d.Zones(); len(got) != 0 || d.Used() != 0 {
		t.Errorf("Zones = %v", got)
	}
}

func TestCopyGoesItsOwnWay(t *testing.T) {
	d := newDisk(t, 20) // the first bytes are cut back, so that there is memory behind them in which the two could meet
	must(t, d.Append(0, []byte("abcdef")), d.Sync(), d.Append(0, []byte("g--------")), d.Cut(0, 7), d.Append(1, []byte("x")), d.Fuse(5))
	c := d.Copy()
	must(t, c.Append(0, []byte("COPY")), d.Append(0, []byte("own")), c.Append(2, []byte("2")), d.Cut(1, 0))
	has(t, "the copy", c, 0, "abcdefgCOPY", 1, "x", 2, "2")
	has(t, "the first one", d, 0, "abcdefgown")
	must(t, c.Room(12), d.Append(3, make([]byte, 10)))
	want(t, "the copy's room", c.Append(0, nil), api.ErrFull)
	must(t, c.Sync(), c.Sync(), c.Sync(), d.Sync(), d.Sync())
	want(t, "the copy's fuse", c.Sync(), api.ErrDead)
	want(t, "the fuse", d.Sync(), api.ErrDead)
	must(t, d.Crash(nil))
	if !c.Dead() || d.Dead() {
		t.Error("they do not die alone")
	}
}

func TestCopyKeepsTheRoom(t *testing.T) {
	c := newDisk(t, 3).Copy()
	want(t, "four", c.Append(0, make([]byte, 4)), api.ErrFull)
	must(t, c.Append(0, make([]byte, 3)))
	for range 100 {
		must(t, c.Sync())
	}
}

// cell is a byte, and whether it is sure.
type cell struct {
	c    byte
	sure bool
}

// plain is a disk as the document tells it, byte by byte.
type plain struct {
	zones      [api.MaxZones][]cell
	room, fuse int
	fused      bool
	dead       bool
}

func (p *plain) used() int {
	n := 0
	for _, z := range p.zones {
		n += len(z)
	}
	return n
}

func (p *plain) burn() bool {
	if p.fused && p.fuse == 0 {
		p.dead = true
		return false
	}
	p.fuse--
	return true
}

func (p *plain) append(zone int, b []byte) api.Errno {
	if zone < 0 || zone > 39 {
		return api.ErrArg
	}
	if p.dead {
		return api.ErrDead
	}
	if p.used()+len(b) > p.room {
		return api.ErrFull
	}
	if !p.burn() {
		return api.ErrDead
	}
	for _, c := range b {
		p.zones[zone] = append(p.zones[zone], cell{c, false})
	}
	return api.OK
}

func (p *plain) sync() api.Errno {
	if p.dead || !p.burn() {
		return api.ErrDead
	}
	for _, z := range p.zones {
		for i := range z {
			z[i].sure = true
		}
	}
	return api.OK
}

func (p *plain) cut(zone, size int) api.Errno {
	if zone < 0 || zone > 39 || size < 0 || size > len(p.zones[zone]) {
		return api.ErrArg
	}
	if p.dead || !p.burn() {
		return api.ErrDead
	}
	p.zones[zone] = slices.Clone(p.zones[zone][:size])
	return api.OK
}

func (p *plain) crash(keeps []int) api.Errno {
	i := 0
	for n, z := range p.zones {
		if !slices.ContainsFunc(z, func(c cell) bool { return !c.sure }) {
			continue
		}
		keep := 0
		if len(keeps) > 0 {
			keep = keeps[i%len(keeps)]
		}
		i++
		var out []cell
		for _, c := range z {
			if !c.sure {
				if keep <= 0 {
					break
				}
				keep--
			}
			out = append(out, cell{c.c, true})
		}
		p.zones[n] = out
	}
	p.fused, p.dead = false, false
	return api.OK
}

func (p *plain) setFuse(n int) api.Errno {
	if n < 0 {
		return api.ErrArg
	}
	if p.dead {
		return api.ErrDead
	}
	p.fused, p.fuse = true, n
	return api.OK
}

func (p *plain) setRoom(n int) api.Errno {
	if n < 0 || n > 1<<24 {
		return api.ErrArg
	}
	if p.dead {
		return api.ErrDead
	}
	p.room = n
	return api.OK
}

// tell gives all that a disk has, dead or not.
func (p *plain) tell() string {
	var zones []int
	var texts []string
	for n, z := range p.zones {
		if len(z) > 0 {
			zones = append(zones, n)
		}
		var b []byte
		for _, c := range z {
			b = append(b, c.c)
		}
		texts = append(texts, string(b))
	}
	return fmt.Sprintf("%v %d %v %q", p.dead, p.used(), zones, texts)
}

// tell gives the same of d. A dead one's bytes are read behind a crash of its copy that keeps all.
func tell(d *Disk) string {
	alive := d
	if d.Dead() {
		alive = d.Copy()
		alive.Crash([]int{math.MaxInt})
	}
	var texts []string
	for n := range api.MaxZones {
		b, _ := alive.Read(n)
		texts = append(texts, string(b))
	}
	return fmt.Sprintf("%v %d %v %q", d.Dead(), d.Used(), d.Zones(), texts)
}

// TestManyCalls holds many calls at random against a disk that keeps its bytes one by one.
func TestManyCalls(t *testing.T) {
	src := rand.New(rand.NewSource(6))
	zone := func() int { return []int{-1, 0, 1, 2, 17, 38, 39, 40}[src.Intn(8)] }
	for range 300 {
		d, p := newDisk(t, 30), &plain{room: 30}
		for step := range 60 {
			var got, want api.Errno
			var call string
			switch src.Intn(12) {
			case 0, 1, 2, 3:
				z, b := zone(), make([]byte, src.Intn(7))
				for i := range b {
					b[i] = byte('a' + src.Intn(26))
				}
				call, got, want = fmt.Sprintf("Append(%d, %q)", z, b), d.Append(z, b), p.append(z, b)
			case 4, 5:
				call, got, want = "Sync()", d.Sync(), p.sync()
			case 6, 7:
				z, size := zone(), src.Intn(9)-1
				call, got, want = fmt.Sprintf("Cut(%d, %d)", z, size), d.Cut(z, size), p.cut(z, size)
			case 8:
				n := src.Intn(12) - 1
				call, got, want = fmt.Sprintf("Fuse(%d)", n), d.Fuse(n), p.setFuse(n)
			case 9:
				n := []int{-1, 0, 5, 20, 30, 40, 1 << 24, 1<<24 + 1}[src.Intn(8)]
				call, got, want = fmt.Sprintf("Room(%d)", n), d.Room(n), p.setRoom(n)
			case 10:
				keeps := make([]int, src.Intn(4))
				for i := range keeps {
					keeps[i] = src.Intn(7) - 1
				}
				call, got, want = fmt.Sprintf("Crash(%v)", keeps), d.Crash(keeps), p.crash(keeps)
			case 11:
				call = "Copy()"
				c := d.Copy()
				d.Append(0, []byte("gone"))
				d.Crash(nil)
				d = c
			}
			if got != want || tell(d) != p.tell() {
				t.Fatalf("step %d, %s: got %d and %s, want %d and %s", step, call, got, tell(d), want, p.tell())
			}
		}
	}
}

// TestWhatWasSyncedIsThere: behind a crash a zone has what was sure and not cut since, and a beginning of what was there.
func TestWhatWasSyncedIsThere(t *testing.T) {
	src := rand.New(rand.NewSource(66))
	for range 500 {
		d := newDisk(t, 1000)
		sure := map[int]string{}
		for range 20 {
			z := src.Intn(4)
			switch src.Intn(4) {
			case 0, 1:
				must(t, d.Append(z, []byte(strings.Repeat(string(rune('a'+src.Intn(26))), 1+src.Intn(5)))))
			case 2:
				must(t, d.Sync())
				for n := range 4 {
					b, _ := d.Read(n)
					sure[n] = string(b)
				}
			case 3:
				b, _ := d.Read(z)
				size := src.Intn(len(b) + 1)
				must(t, d.Cut(z, size))
				sure[z] = sure[z][:min(size, len(sure[z]))]
			}
		}
		ahead := d.Copy()
		must(t, d.Crash([]int{src.Intn(8), src.Intn(8), src.Intn(8)}))
		for n := range 4 {
			was, _ := ahead.Read(n)
			is, _ := d.Read(n)
			if !strings.HasPrefix(string(is), sure[n]) || !strings.HasPrefix(string(was), string(is)) {
				t.Fatalf("zone %d: %q was there, %q was sure, %q is there", n, was, sure[n], is)
			}
		}
	}
}
