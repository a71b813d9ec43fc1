package policy

import (
	"bytes"
	"fmt"
	"math"
	"math/rand"
	"slices"
	"testing"

	"usher/api"
	"usher/floats"
	"usher/pack"
)

const (
	theNaN        uint64 = 0x7ff8000000000000
	otherNaN      uint64 = 0x7ff0000000000001
	minusNaN      uint64 = 0xfff8000000000000
	allOnes       uint64 = math.MaxUint64
	infinity      uint64 = 0x7ff0000000000000
	minusInfinity uint64 = 0xfff0000000000000
	minus0        uint64 = 1 << 63
	below1        uint64 = 0x3fefffffffffffff
	just1         uint64 = 0x3ff0000000000000
	above1        uint64 = 0x3ff0000000000001
)

// most: the longest delay, as the document has it.
const most = 1 << 30

func bits(f float64) uint64 {
	return math.Float64bits(f)
}

// delays: Firsts and Mosts that may be.
func delays() []int {
	return []int{0, 1, 2, 7, 239, 240, 1000, most - 1, most}
}

// noDelays: those that may not.
func noDelays() []int {
	return []int{-1, most + 1, 2 * most, 1 << 40, math.MinInt, math.MaxInt}
}

// coefs: those that may be.
func coefs() []uint64 {
	return []uint64{0, minus0, 1, minus0 | 1, bits(0.5), bits(0.7), below1, just1, above1, bits(1.1), bits(2), bits(1e300), bits(math.MaxFloat64), infinity, minusInfinity, bits(-0.5), bits(-1), bits(-2), bits(-math.MaxFloat64)}
}

// noCoefs: those that may not.
func noCoefs() []uint64 {
	return []uint64{theNaN, otherNaN, minusNaN, allOnes, theNaN + 1, theNaN | minus0 | 5, minusInfinity + 1}
}

// good: policies that may be.
func good() []api.Policy {
	var out []api.Policy
	for _, first := range delays() {
		for _, coef := range coefs() {
			for _, last := range delays() {
				out = append(out, api.Policy{First: first, Coef: coef, Most: last})
			}
		}
	}
	return out
}

// bad: policies that may not be, each by one field alone, and by all.
func bad() []api.Policy {
	var out []api.Policy
	for _, n := range noDelays() {
		out = append(out, api.Policy{First: n, Coef: just1, Most: 9}, api.Policy{First: 5, Coef: just1, Most: n}, api.Policy{First: n}, api.Policy{Most: n})
	}
	for _, x := range noCoefs() {
		out = append(out, api.Policy{First: 5, Coef: x, Most: 9}, api.Policy{Coef: x}, api.Policy{First: -1, Coef: x, Most: most + 1})
	}
	return out
}

// attempts: below 1, and up to behind those that are told apart.
func attempts() []int {
	return []int{math.MinInt, math.MinInt + 1, -1000, -1, 0, 1, 2, 3, 4, 5, 10, 998, 999, 1000, 1001, 1002, 5000, math.MaxInt - 1, math.MaxInt}
}

// byTheBook reckons a delay of a policy that may be with floats themselves.
func byTheBook(p api.Policy, attempt int) int {
	x := float64(p.First)
	for i := 1; i < attempt && i < 1000; i++ {
		x = float64(x * math.Float64frombits(p.Coef))
	}
	switch {
	case math.IsNaN(x) || x >= float64(p.Most):
		return p.Most
	case x <= 0:
		return 0
	}
	return int(math.Floor(x))
}

func TestCheck(t *testing.T) {
	for _, p := range good() {
		if e := Check(p); e != api.OK {
			t.Errorf("Check(%+v) = %d", p, e)
		}
	}
	for _, p := range bad() {
		if e := Check(p); e != api.ErrArg {
			t.Errorf("Check(%+v) = %d", p, e)
		}
	}
	if Check(api.Policy{}) != api.OK {
		t.Error("the zero policy may be")
	}
}

func TestTheExamples(t *testing.T) {
	p := api.Policy{First: 10, Coef: bits(2), Most: 35}
	if got := Delays(p, 4); !slices.Equal(got, []int{10, 20, 35, 35}) {
		t.Error(got)
	}
	p = api.Policy{First: 0, Coef: infinity, Most: 9}
	if got := Delays(p, 2); !slices.Equal(got, []int{0, 9}) {
		t.Error(got)
	}
}

func TestDelaysAtTheEdges(t *testing.T) {
	for _, c := range []struct {
		what string
		p    api.Policy
		want []int
	}{
		{"the zero policy", api.Policy{}, []int{0, 0, 0}},
		{"First above Most", api.Policy{First: 40, Coef: just1, Most: 35}, []int{35, 35, 35}},
		{"First just Most", api.Policy{First: 35, Coef: above1, Most: 35}, []int{35, 35, 35}},
		{"a product just Most", api.Policy{First: 5, Coef: bits(2), Most: 10}, []int{5, 10, 10}},
		{"a product one below Most", api.Policy{First: 5, Coef: bits(2), Most: 11}, []int{5, 10, 11}},
		{"a product above Most, that falls again", api.Policy{First: 1, Coef: bits(-4), Most: 9}, []int{1, 0, 9, 0, 9, 0}},
		{"Most 0", api.Policy{First: 10, Coef: bits(2), Most: 0}, []int{0, 0, 0}},
		{"Most 2^30", api.Policy{First: most, Coef: bits(2), Most: most}, []int{most, most, most}},
		{"Most 2^30, come to", api.Policy{First: most / 4, Coef: bits(2), Most: most}, []int{most / 4, most / 2, most, most}},
		{"a product that is an infinity", api.Policy{First: 3, Coef: bits(math.MaxFloat64), Most: 77}, []int{3, 77, 77}},
		{"an infinity", api.Policy{First: 3, Coef: infinity, Most: 77}, []int{3, 77, 77, 77}},
		{"an infinity of 0", api.Policy{Coef: infinity, Most: 77}, []int{0, 77, 77, 77}},
		{"an infinity of 0, Most 0", api.Policy{Coef: infinity}, []int{0, 0, 0}},
		{"minus an infinity", api.Policy{First: 3, Coef: minusInfinity, Most: 77}, []int{3, 0, 77, 0, 77}},
		{"minus an infinity of 0", api.Policy{Coef: minusInfinity, Most: 77}, []int{0, 77, 77, 77}},
		{"Coef 0", api.Policy{First: 3, Most: 77}, []int{3, 0, 0}},
		{"Coef -0", api.Policy{First: 3, Coef: minus0, Most: 77}, []int{3, 0, 0}},
		{"Coef -1", api.Policy{First: 3, Coef: bits(-1), Most: 77}, []int{3, 0, 3, 0}},
		{"Coef 1", api.Policy{First: 3, Coef: just1, Most: 77}, []int{3, 3, 3}},
		{"a Coef just below 1", api.Policy{First: 3, Coef: below1, Most: 77}, []int{3, 2, 2}},
		{"a Coef just above 1", api.Policy{First: 3, Coef: above1, Most: 77}, []int{3, 3, 3}},
		{"Coef a half", api.Policy{First: 10, Coef: bits(0.5), Most: 77}, []int{10, 5, 2, 1, 0, 0}},
		{"the least Coef", api.Policy{First: most, Coef: 1, Most: 77}, []int{77, 0, 0}},
		// Rounded at each attempt: 100 times the square of 0.7 would be below 49, that of 1.7 below 289.
		{"Coef 0.7", api.Policy{First: 100, Coef: bits(0.7), Most: most}, []int{100, 70, 49}},
		{"Coef 1.7", api.Policy{First: 100, Coef: bits(1.7), Most: most}, []int{100, 170, 289}},
		{"Coef 1.5", api.Policy{First: 3, Coef: bits(1.5), Most: 12}, []int{3, 4, 6, 10, 12, 12}},
	} {
		if got := Delays(c.p, len(c.want)); !slices.Equal(got, c.want) {
			t.Errorf("%s: Delays %v, want %v", c.what, got, c.want)
		}
		for i, want := range c.want {
			if got := Delay(c.p, i+1); got != want {
				t.Errorf("%s: Delay %d is %d, want %d", c.what, i+1, got, want)
			}
		}
	}
}

// slow grows by one from attempt to attempt, so that each of the first thousand has another delay.
func slow() api.Policy {
	return api.Policy{First: 1 << 20, Coef: bits(1 + 1.0/(1<<20)), Most: most}
}

func TestAttemptsThatAreToldApart(t *testing.T) {
	p := slow()
	for attempt, more := range map[int]int{
		math.MinInt: 0, math.MinInt + 1: 0, -1: 0, 0: 0, 1: 0,
		2: 1, 3: 2, 999: 998, 1000: 999,
		1001: 999, 1002: 999, 1 << 40: 999, math.MaxInt: 999,
	} {
		if got := Delay(p, attempt); got != 1<<20+more {
			t.Errorf("Delay(%d) = %d, want %d", attempt, got, 1<<20+more)
		}
	}
}

func TestHowManyDelays(t *testing.T) {
	for n, want := range map[int]int{math.MinInt: 0, -1: 0, 0: 0, 1: 1, 2: 2, 999: 999, 1000: 1000, 1001: 1000, math.MaxInt: 1000} {
		for _, p := range []api.Policy{slow(), {}, {First: 0, Coef: infinity, Most: 9}, {First: 9, Coef: theNaN, Most: 10}, {First: -1, Coef: just1, Most: 10}} {
			got := Delays(p, n)
			if len(got) != want {
				t.Fatalf("%d Delays(%+v, %d), want %d", len(got), p, n, want)
			}
			for i, d := range got {
				if d != Delay(p, i+1) {
					t.Fatalf("Delays(%+v, %d)[%d] = %d, want %d", p, n, i, d, Delay(p, i+1))
				}
			}
		}
	}
}

func TestDelaysAreNewMemory(t *testing.T) {
	p := slow()
	first, want := Delays(p, 5), Delays(p, 5)
	for i := range first {
		first[i] = -1
	}
	if got := Delays(p, 5); !slices.Equal(got, want) {
		t.Error(got)
	}
}

func TestDelayOfAPolicyThatMayNotBe(t *testing.T) {
	for _, p := range bad() {
		for _, n := range attempts() {
			if got := Delay(p, n); got != 0 {
				t.Errorf("Delay(%+v, %d) = %d", p, n, got)
			}
		}
		if got := Delays(p, 4); !slices.Equal(got, []int{0, 0, 0, 0}) {
			t.Errorf("Delays(%+v, 4) = %v", p, got)
		}
	}
}

// some gives a policy that may be, of any bits, or of a Coef that one would choose.
func some(r *rand.Rand) api.Policy {
	p := api.Policy{First: r.Intn(most + 1), Most: r.Intn(most + 1)}
	if r.Intn(2) == 0 {
		p.First >>= r.Intn(31)
	}
	switch r.Intn(3) {
	case 0:
		p.Coef = bits(1 + r.Float64()*math.Pow(2, float64(-r.Intn(52))))
	case 1:
		p.Coef = coefs()[r.Intn(len(coefs()))]
	default:
		p.Coef = r.Uint64()
	}
	if f := math.Float64frombits(p.Coef); math.IsNaN(f) {
		p.Coef = bits(2)
	}
	return p
}

func TestDelayByTheBook(t *testing.T) {
	check := func(p api.Policy) {
		for _, n := range attempts() {
			if got, want := Delay(p, n), byTheBook(p, n); got != want {
				t.Fatalf("Delay(%+v, %d) = %d, want %d", p, n, got, want)
			}
		}
	}
	for _, p := range good() {
		check(p)
	}
	r := rand.New(rand.NewSource(13))
	for range 2000 {
		check(some(r))
	}
}

func TestNoAttemptWaitsLess(t *testing.T) {
	r := rand.New(rand.NewSource(134))
	policies := good()
	for range 2000 {
		policies = append(policies, some(r))
	}
	grow := 0
	for _, p := range policies {
		rises := !floats.Less(p.Coef, just1)
		last := 0
		for i, d := range Delays(p, 60) {
			if d > p.Most || d < 0 {
				t.Fatalf("%+v: attempt %d waits %d", p, i+1, d)
			}
			if rises && d < last {
				t.Fatalf("%+v: attempt %d waits %d behind %d", p, i+1, d, last)
			}
			last = d
		}
		if rises {
			grow++
		}
	}
	if grow < 500 {
		t.Error("too few policies of a Coef of at least 1:", grow)
	}
}

func TestPutBytes(t *testing.T) {
	for _, c := range []struct {
		p    api.Policy
		want string
	}{
		{api.Policy{}, "00" + "0000000000000000" + "00"},
		{api.Policy{First: 10, Coef: bits(2), Most: 35}, "0a" + "4000000000000000" + "23"},
		{api.Policy{First: 239, Coef: minus0, Most: 240}, "ef" + "8000000000000000" + "f0f0"},
		{api.Policy{First: most, Coef: above1, Most: 300}, "f340000000" + "3ff0000000000001" + "f1012c"},
		{api.Policy{First: 1, Coef: minusInfinity, Most: most}, "01" + "fff0000000000000" + "f340000000"},
		// No error is named for one that may not be: its fields are written.
		{api.Policy{First: -1, Coef: otherNaN, Most: most + 1}, "00" + "7ff0000000000001" + "f340000001"},
	} {
		if got := fmt.Sprintf("%x", Put(nil, c.p)); got != c.want {
			t.Errorf("%+v: %s, want %s", c.p, got, c.want)
		}
	}
}

func TestPutWritesBehindInNewMemory(t *testing.T) {
	p := api.Policy{First: 300, Coef: bits(1.5), Most: most}
	own := Put(nil, p)
	room := bytes.Repeat([]byte{9}, 64)
	before := slices.Clone(room)
	got := Put(room[:3], p)
	want := append([]byte{9, 9, 9}, own...)
	if !bytes.Equal(got, want) {
		t.Errorf("%x, want %x", got, want)
	}
	if !bytes.Equal(room, before) {
		t.Errorf("Put wrote into what it was given: %x", room)
	}
	room[0], room[2] = 1, 1
	if !bytes.Equal(got, want) {
		t.Error("Put shares memory with what it was given")
	}
	if !bytes.Equal(Put([]byte{}, p), own) {
		t.Error("nil and empty differ")
	}
}

func TestReadsWhatWasPut(t *testing.T) {
	r := rand.New(rand.NewSource(135))
	policies := good()
	for range 2000 {
		policies = append(policies, some(r))
	}
	for _, p := range policies {
		for _, behind := range [][]byte{nil, {0}, {255, 255, 255}} {
			r := pack.Open(slices.Concat([]byte{1}, Put(nil, p), behind))
			r.Flag()
			if got := Read(r); got != p || r.Err() != api.OK || r.Left() != len(behind) {
				t.Fatalf("%+v is read as %+v, error %d, %d left", p, got, r.Err(), r.Left())
			}
		}
	}
}

// refused complains unless Read of r gives the zero policy, and r has the error e, and nothing left.
func refused(t *testing.T, what string, r *pack.Reader, e api.Errno) {
	t.Helper()
	if got := Read(r); got != (api.Policy{}) || r.Err() != e || r.Left() != 0 {
		t.Errorf("%s: %+v, error %d, want %d, %d left", what, got, r.Err(), e, r.Left())
	}
}

func TestReadRefuses(t *testing.T) {
	two := pack.Bits(nil, bits(2))
	for _, c := range []struct {
		what  string
		parts [][]byte
		want  api.Errno
	}{
		{"First 2^30 + 1", [][]byte{pack.Num(nil, most+1), two, {5}}, api.ErrLong},
		{"First 2^63 - 1", [][]byte{pack.Num(nil, math.MaxInt), two, {5}}, api.ErrLong},
		{"Most 2^30 + 1", [][]byte{{5}, two, pack.Num(nil, most+1)}, api.ErrLong},
		{"Most 2^63 - 1", [][]byte{{5}, two, pack.Num(nil, math.MaxInt)}, api.ErrLong},
		{"First in too many bytes", [][]byte{{240, 5}, two, {5}}, api.ErrForm},
		{"Most in too many bytes", [][]byte{{5}, two, {241, 0, 255}}, api.ErrForm},
		{"First that is no number", [][]byte{{248}, two, {5}}, api.ErrForm},
		// The bytes' own errors are named first.
		{"First too great, a NaN", [][]byte{pack.Num(nil, most+1), pack.Bits(nil, theNaN), {5}}, api.ErrLong},
		{"a NaN, Most too great", [][]byte{{5}, pack.Bits(nil, theNaN), pack.Num(nil, most+1)}, api.ErrLong},
		{"a NaN, no Most", [][]byte{{5}, pack.Bits(nil, otherNaN)}, api.ErrShort},
		{"First too great, no Most", [][]byte{pack.Num(nil, most+1), two}, api.ErrLong},
	} {
		refused(t, c.what, pack.Open(slices.Concat(c.parts...)), c.want)
	}
	for _, x := range noCoefs() {
		for _, behind := range [][]byte{nil, {0}, {1, 2, 3}} {
			b := slices.Concat([]byte{5}, pack.Bits(nil, x), []byte{9}, behind)
			refused(t, fmt.Sprintf("Coef %x", x), pack.Open(b), api.ErrForm)
		}
	}
}

func TestEachBeginningIsShort(t *testing.T) {
	for _, p := range []api.Policy{{}, {First: 300, Coef: bits(2), Most: 70000}, {First: most, Coef: infinity, Most: most}} {
		b := Put(nil, p)
		for i := range b {
			refused(t, fmt.Sprintf("%d bytes of %x", i, b), pack.Open(b[:i]), api.ErrShort)
		}
	}
}

func TestReadOfAReaderWithAnError(t *testing.T) {
	b := Put(nil, api.Policy{First: 1, Coef: bits(2), Most: 3})
	r := pack.Open(b)
	r.Fail(api.ErrVersion)
	refused(t, "a reader that has an error", r, api.ErrVersion)
	refused(t, "nil", nil, api.ErrNil)
	refused(t, "a reader that no call made", &pack.Reader{}, api.ErrNil)
}

// TestReadOfAnyBytes: whatever is read has those bytes, and may be.
func TestReadOfAnyBytes(t *testing.T) {
	r := rand.New(rand.NewSource(136))
	read := 0
	for range 50000 {
		b := Put(nil, some(r))
		for range r.Intn(3) {
			b[r.Intn(len(b))] = byte(r.Intn(256))
		}
		b = b[:len(b)-r.Intn(2)*r.Intn(len(b))]
		reader := pack.Open(b)
		p := Read(reader)
		if reader.Err() != api.OK {
			if p != (api.Policy{}) {
				t.Fatalf("%x: %+v beside the error %d", b, p, reader.Err())
			}
			continue
		}
		read++
		if own := Put(nil, p); Check(p) != api.OK || !bytes.Equal(own, b[:len(b)-reader.Left()]) {
			t.Fatalf("%x is read as %+v, whose bytes are %x", b, p, own)
		}
	}
	if read < 5000 {
		t.Error("too few were read:", read)
	}
}
