package value

import (
	"bytes"
	"fmt"
	"maps"
	"math"
	"math/rand"
	"slices"
	"strings"
	"testing"

	"usher/api"
	"usher/floats"
	"usher/pack"
)

const (
	theNaN   uint64 = 0x7ff8000000000000
	otherNaN uint64 = 0x7ff0000000000001
	minusNaN uint64 = 0xfff8000000000000
	minus0   uint64 = 1 << 63
	infinity uint64 = 0x7ff0000000000000
)

// nested gives v within so many lists.
func nested(lists int, v api.Value) api.Value {
	for range lists {
		v = api.Value{Kind: api.VList, List: []api.Value{v}}
	}
	return v
}

// many gives n values, whole numbers from 0 on.
func many(n int) []api.Value {
	out := make([]api.Value, n)
	for i := range out {
		out[i] = api.Value{Kind: api.VInt, Int: i}
	}
	return out
}

func listOf(l ...api.Value) api.Value {
	return api.Value{Kind: api.VList, List: l}
}

// sized gives a list of texts whose bytes are n, 812 to 1012: four texts of 200 bytes and one of the rest.
func sized(n int) api.Value {
	long := Text(strings.Repeat("x", 200))
	return listOf(long, long, long, long, Text(strings.Repeat("y", n-812)))
}

// good: values that may be, each of them once.
func good() []api.Value {
	out := []api.Value{
		{},
		{Kind: api.VInt, Int: math.MinInt}, Int(-1), Int(0), Int(1), Int(math.MaxInt),
		{Kind: api.VFloat, Bits: 0xfff0000000000000}, {Kind: api.VFloat, Bits: floats.Of(-1)}, {Kind: api.VFloat, Bits: minus0}, {Kind: api.VFloat}, {Kind: api.VFloat, Bits: 1}, {Kind: api.VFloat, Bits: floats.Of(1)}, {Kind: api.VFloat, Bits: infinity}, {Kind: api.VFloat, Bits: theNaN},
		Text(""), Text("\x00"), Text("a"), Text("a\x00"), Text("aa"), Text("b"), Text("\xff\xfe"),
		Text(strings.Repeat("\xff", 199)), Text(strings.Repeat("\xff", 200)),
		listOf(), listOf(api.Value{}), listOf(api.Value{}, api.Value{}), listOf(Int(1)), listOf(Int(1), Text("a")), listOf(Int(2)),
		listOf(listOf()), nested(3, listOf()), nested(3, Int(1)), nested(4, Int(1)), nested(4, Text("a")),
		listOf(many(11)...), listOf(many(12)...), nested(3, listOf(many(12)...)),
		sized(812), sized(999), sized(1000), nested(3, sized(994)),
	}
	return out
}

// bad: values that may not be, by why.
func bad() map[string]api.Value {
	one := []api.Value{{}}
	out := map[string]api.Value{
		"Kind -1":            {Kind: -1},
		"Kind 5":             {Kind: 5},
		"Kind 260":           {Kind: 260},
		"least Kind":         {Kind: math.MinInt},
		"greatest Kind":      {Kind: math.MaxInt},
		"VNone with Int":     {Int: 1},
		"VNone with Bits":    {Bits: 1},
		"VNone with Text":    {Text: "a"},
		"VNone with List":    {List: one},
		"VInt with Bits":     {Kind: api.VInt, Int: 1, Bits: 1},
		"VInt with Text":     {Kind: api.VInt, Int: 1, Text: "a"},
		"VInt with List":     {Kind: api.VInt, Int: 1, List: one},
		"VInt with -0":       {Kind: api.VInt, Bits: minus0},
		"VFloat with Int":    {Kind: api.VFloat, Int: 1},
		"VFloat with Text":   {Kind: api.VFloat, Text: "a"},
		"VFloat with List":   {Kind: api.VFloat, List: one},
		"VText with Int":     {Kind: api.VText, Int: -1, Text: "a"},
		"VText with Bits":    {Kind: api.VText, Bits: 1, Text: "a"},
		"VText with List":    {Kind: api.VText, List: one, Text: "a"},
		"VList with Int":     {Kind: api.VList, Int: 1, List: one},
		"VList with Bits":    {Kind: api.VList, Bits: 1, List: one},
		"VList with Text":    {Kind: api.VList, Text: "a"},
		"another NaN":        {Kind: api.VFloat, Bits: otherNaN},
		"a NaN below 0":      {Kind: api.VFloat, Bits: minusNaN},
		"text of 201":        {Kind: api.VText, Text: strings.Repeat("x", 201)},
		"text of 5000":       {Kind: api.VText, Text: strings.Repeat("x", 5000)},
		"list of 13":         listOf(many(13)...),
		"list of 300":        listOf(many(300)...),
		"five deep":          nested(5, Int(1)),
		"five deep, empty":   nested(4, listOf()),
		"six deep":           nested(6, Int(1)),
		"1001 bytes":         sized(1001),
		"1012 bytes":         sized(1012),
		"1001 bytes, deeper": nested(3, sized(995)),
		"many lists":         listOf(sized(900), sized(900)),
	}
	for why, v := range maps.Clone(out) {
		out["last of a list: "+why] = listOf(Int(1), v)
	}
	return out
}

// sharing gives a value within which it all is shared, to see that nobody hangs on what it costs to write it.
func sharing() api.Value {
	v := Text(strings.Repeat("x", 200))
	for range 4 {
		v = listOf(slices.Repeat([]api.Value{v}, 12)...)
	}
	return v
}

func TestMakers(t *testing.T) {
	for _, c := range []struct {
		got, want api.Value
	}{
		{Int(0), api.Value{Kind: 1}},
		{Int(-7), api.Value{Kind: 1, Int: -7}},
		{Int(math.MinInt), api.Value{Kind: 1, Int: math.MinInt}},
		{Float(0), api.Value{Kind: 2}},
		{Float(minus0), api.Value{Kind: 2, Bits: minus0}},
		{Float(infinity), api.Value{Kind: 2, Bits: infinity}},
		{Float(theNaN), api.Value{Kind: 2, Bits: theNaN}},
		{Float(otherNaN), api.Value{Kind: 2, Bits: theNaN}},
		{Float(minusNaN), api.Value{Kind: 2, Bits: theNaN}},
		{Float(math.MaxUint64), api.Value{Kind: 2, Bits: theNaN}},
		{Text(""), api.Value{Kind: 3}},
		{Text("a\xff"), api.Value{Kind: 3, Text: "a\xff"}},
		{Text(strings.Repeat("t", 201)), api.Value{Kind: 3, Text: strings.Repeat("t", 201)}},
		{List(), api.Value{Kind: 4}},
		{List(nil...), api.Value{Kind: 4}},
		{List(Int(1), Text("a")), api.Value{Kind: 4, List: []api.Value{{Kind: 1, Int: 1}, {Kind: 3, Text: "a"}}}},
		{List(many(13)...), api.Value{Kind: 4, List: many(13)}},
		{List(nested(9, Int(1))), nested(10, Int(1))},
		{List(api.Value{Kind: 77, Text: "odd"}), api.Value{Kind: 4, List: []api.Value{{Kind: 77, Text: "odd"}}}},
	} {
		if !identical(c.got, c.want) {
			t.Errorf("got %v, want %v", c.got, c.want)
		}
	}
}

// identical holds two values against each other by how they are told, so that Same is not asked about itself.
func identical(a, b api.Value) bool {
	return fmt.Sprint(a) == fmt.Sprint(b)
}

func TestListsAreNewMemory(t *testing.T) {
	for name, make := range map[string]func([]api.Value) api.Value{
		"List":  func(l []api.Value) api.Value { return List(l...) },
		"Clone": func(l []api.Value) api.Value { return Clone(listOf(l...)) },
		"Clone of what may not be": func(l []api.Value) api.Value {
			return Clone(api.Value{Kind: 9, List: l})
		},
	} {
		deepest := many(2)
		inner := []api.Value{listOf(deepest...)}
		outer := []api.Value{listOf(inner...), Int(5)}
		v := make(outer)
		want := fmt.Sprint(v.List)
		deepest[0], inner[0], outer[1] = Int(100), Int(200), Int(300)
		if got := fmt.Sprint(v.List); got != want {
			t.Errorf("%s: it changed with what was handed in: %s, was %s", name, got, want)
		}
		v.List[0] = Text("own")
		if outer[0].Kind != api.VList {
			t.Errorf("%s: what was handed in changed", name)
		}
	}
}

func TestClone(t *testing.T) {
	for _, v := range good() {
		if c := Clone(v); !identical(c, v) {
			t.Errorf("Clone(%v) = %v", v, c)
		}
	}
	for why, v := range bad() {
		if c := Clone(v); !identical(c, v) {
			t.Errorf("%s: Clone(%v) = %v", why, v, c)
		}
	}
}

func TestCheck(t *testing.T) {
	for _, v := range good() {
		if e := Check(v); e != api.OK {
			t.Errorf("Check(%v) = %d", v, e)
		}
	}
	for why, v := range bad() {
		if e := Check(v); e != api.ErrArg {
			t.Errorf("%s: Check = %d", why, e)
		}
	}
	if e := Check(sharing()); e != api.ErrArg {
		t.Errorf("Check of millions of bytes = %d", e)
	}
}

func TestAnEmptyListIsAsNone(t *testing.T) {
	for kind := range 5 {
		none, empty := api.Value{Kind: kind}, api.Value{Kind: kind, List: []api.Value{}}
		if Check(empty) != api.OK || !Same(none, empty) || !Same(empty, none) || Order(none, empty) != 0 || Order(empty, none) != 0 || !Same(Clone(empty), none) || !bytes.Equal(Put(nil, none), Put(nil, empty)) {
			t.Errorf("Kind %d: an empty list is not as none", kind)
		}
	}
	if !Same(listOf(listOf()), listOf(api.Value{Kind: api.VList, List: []api.Value{}})) {
		t.Error("within a list an empty list is not as none")
	}
}

func TestSame(t *testing.T) {
	all := append(good(), ordered()...)
	for _, v := range bad() {
		all = append(all, v)
	}
	for _, a := range all {
		for _, b := range all {
			if got, want := Same(a, b), identical(a, b); got != want {
				t.Errorf("Same(%v, %v) = %v", a, b, got)
			}
		}
	}
}

func TestSameHoldsBitsAsTheyAre(t *testing.T) {
	a, b := api.Value{Kind: api.VFloat, Bits: theNaN}, api.Value{Kind: api.VFloat, Bits: otherNaN}
	if Same(a, b) || !Same(b, b) || Same(Float(minus0), Float(0)) {
		t.Error("bits are fields like others")
	}
}

// ordered: any values, each below the next one.
func ordered() []api.Value {
	return []api.Value{
		{Kind: math.MinInt, Int: 9},
		{Kind: -1, Text: "z"},
		{Int: math.MinInt, Text: "b"},
		{Int: -1, Bits: theNaN},
		{Bits: floats.Of(-1), Text: "z"},
		{Bits: minus0, Text: "z"},
		{},
		{List: []api.Value{{}}},
		{Text: "a", List: many(3)},
		{Bits: 1},
		{Int: 1},
		{Kind: 1, Int: math.MinInt}, Int(-1), Int(0),
		{Kind: 1, Text: "a"},
		Int(1), Int(math.MaxInt),
		{Kind: 2, Bits: 0xfff0000000000000}, {Kind: 2, Bits: floats.Of(-2)}, {Kind: 2, Bits: floats.Of(-1)}, {Kind: 2, Bits: minus0 | 1}, {Kind: 2, Bits: minus0}, {Kind: 2}, {Kind: 2, Bits: 1}, {Kind: 2, Bits: floats.Of(1)}, {Kind: 2, Bits: floats.Of(2)}, {Kind: 2, Bits: infinity}, {Kind: 2, Bits: theNaN},
		{Kind: 2, Bits: otherNaN, Text: "a"},
		Text(""), Text("\x00"), Text("Z"), Text("a"), Text("a\x00"), Text("ab"), Text("b"), Text("\xc3\xa9"), Text("\xff"),
		listOf(), listOf(api.Value{}), listOf(api.Value{}, api.Value{}), listOf(api.Value{}, Int(1)), listOf(Int(1)), listOf(Int(1), Int(1)), listOf(Int(1), Int(2)), listOf(Int(1), Int(2), Int(0)), listOf(Int(2)), listOf(Float(minus0)), listOf(Float(0)), listOf(Text("a")), listOf(Text("b")), listOf(listOf()), listOf(listOf(), Int(0)), listOf(listOf(Int(0))), listOf(listOf(Int(1))),
		{Kind: 5}, {Kind: 5, Int: 1}, {Kind: math.MaxInt, Int: -1},
	}
}

func TestOrder(t *testing.T) {
	l := ordered()
	for i, a := range l {
		for j, b := range l {
			want := 0
			if i < j {
				want = -1
			} else if i > j {
				want = 1
			}
			if got := Order(a, b); got != want {
				t.Errorf("Order(%v, %v) = %d, want %d", a, b, got, want)
			}
		}
	}
}

func TestOrderTakesAllNaNsAsTheOne(t *testing.T) {
	for _, x := range []uint64{theNaN, otherNaN, minusNaN} {
		if Order(api.Value{Kind: 2, Bits: x}, Float(theNaN)) != 0 || Order(Float(infinity), api.Value{Kind: 2, Bits: x}) != -1 {
			t.Errorf("the NaN %x stands elsewhere", x)
		}
	}
}

// TestOrderIsAnOrder: of all threes of values that were made at random, it goes through; it is 0 just of the same.
func TestOrderIsAnOrder(t *testing.T) {
	src := rand.New(rand.NewSource(5))
	l := append(good(), ordered()...)
	for range 30 {
		l = append(l, someValue(src, 3))
	}
	for _, a := range l {
		for _, b := range l {
			ab := Order(a, b)
			if ab != -Order(b, a) || ab < -1 || ab > 1 {
				t.Fatalf("Order(%v, %v) = %d, and %d the other way about", a, b, ab, Order(b, a))
			}
			if Check(a) == api.OK && Check(b) == api.OK && (ab == 0) != Same(a, b) {
				t.Fatalf("Order(%v, %v) = %d, Same %v", a, b, ab, Same(a, b))
			}
			for _, c := range l {
				if ab <= 0 && Order(b, c) <= 0 && Order(a, c) > 0 {
					t.Fatalf("%v, %v, %v: the order does not go through", a, b, c)
				}
			}
		}
	}
}

// someValue gives a value at random, that may be, with at most deep lists within one another.
func someValue(src *rand.Rand, deep int) api.Value {
	kinds := 5
	if deep == 0 {
		kinds = 4
	}
	switch src.Intn(kinds) {
	case 1:
		return Int([]int{0, 1, -1, math.MinInt, math.MaxInt, src.Int()}[src.Intn(6)])
	case 2:
		return Float([]uint64{0, minus0, theNaN, infinity, src.Uint64(), src.Uint64()}[src.Intn(6)])
	case 3:
		return Text(strings.Repeat(string([]byte{byte(src.Intn(256))}), src.Intn(4)))
	case 4:
		v := api.Value{Kind: api.VList}
		for range src.Intn(4) {
			v.List = append(v.List, someValue(src, deep-1))
		}
		return v
	}
	return api.Value{}
}

// form is a value's bytes as the document tells them, without package pack.
func form(v api.Value) []byte {
	word := func(x uint64) []byte {
		return []byte{byte(x >> 56), byte(x >> 48), byte(x >> 40), byte(x >> 32), byte(x >> 24), byte(x >> 16), byte(x >> 8), byte(x)}
	}
	b := []byte{byte(v.Kind)}
	switch v.Kind {
	case 1:
		b = append(b, word(uint64(v.Int)+1<<63)...)
	case 2:
		b = append(b, word(v.Bits)...)
	case 3:
		b = append(append(b, byte(len(v.Text))), v.Text...)
	case 4:
		b = append(b, byte(len(v.List)))
		for _, w := range v.List {
			b = append(b, form(w)...)
		}
	}
	return b
}

func TestPut(t *testing.T) {
	for _, v := range good() {
		for _, ahead := range []string{"", "a", "ahead of it"} {
			want := append([]byte(ahead), form(v)...)
			if got := Put([]byte(ahead), v); !bytes.Equal(got, want) {
				t.Errorf("Put(%q, %v) = %x, want %x", ahead, v, got, want)
			}
		}
	}
	for why, v := range bad() {
		if got := Put([]byte("ab"), v); string(got) != "ab" || len(Put(nil, v)) != 0 {
			t.Errorf("%s: Put = %x", why, got)
		}
	}
	if got := Put([]byte("ab"), sharing()); string(got) != "ab" {
		t.Errorf("Put of millions of bytes = %x", got)
	}
}

func TestTheExample(t *testing.T) {
	if got := fmt.Sprintf("%x", Put(nil, List(Int(1)))); got != "0401018000000000000001" {
		t.Errorf("got %s", got)
	}
}

func TestPutIsNewMemory(t *testing.T) {
	for _, v := range []api.Value{Int(1), {Kind: 9}} {
		backing := []byte("abcdefghijklmnopqrstuvwxyz")
		got := Put(backing[:2], v)
		if string(backing) != "abcdefghijklmnopqrstuvwxyz" {
			t.Fatalf("Put wrote behind what was handed in: %q", backing)
		}
		got[0] = 'X'
		if backing[0] != 'a' {
			t.Errorf("Put(%v) shares what was handed in", v)
		}
	}
}

func TestPutSharesNothingOfTwoCalls(t *testing.T) {
	v := listOf(Text("abc"))
	a, b := Put([]byte("x"), v), Put([]byte("x"), v)
	a[3] = 99
	if bytes.Equal(a, b) {
		t.Error("two answers share memory")
	}
}

func TestParseOfPut(t *testing.T) {
	src := rand.New(rand.NewSource(1))
	l := good()
	for range 3000 {
		l = append(l, someValue(src, 4))
	}
	for _, v := range l {
		b := Put(nil, v)
		got, e := Parse(b)
		if e != api.OK || !identical(got, v) {
			t.Fatalf("Parse(%x) = %v, %d, want %v", b, got, e, v)
		}
	}
}

// TestWhatIsParsedHasThoseBytes goes through all short texts over the bytes that matter.
func TestWhatIsParsedHasThoseBytes(t *testing.T) {
	alphabet := []byte{0, 1, 2, 3, 4, 5, 12, 13, 0x7f, 200, 240, 248}
	parsed := 0
	var walk func(b []byte, left int)
	walk = func(b []byte, left int) {
		if v, e := Parse(b); e == api.OK {
			parsed++
			if got := Put(nil, v); !bytes.Equal(got, b) {
				t.Fatalf("Parse(%x) = %v, whose bytes are %x", b, v, got)
			}
		} else if !identical(v, api.Value{}) {
			t.Fatalf("Parse(%x) = %v beside the error %d", b, v, e)
		}
		if left > 0 {
			for _, c := range alphabet {
				walk(append(slices.Clone(b), c), left-1)
			}
		}
	}
	walk(nil, 5)
	if parsed < 100 {
		t.Errorf("only %d texts were parsed", parsed)
	}
}

func raw(parts ...any) []byte {
	var out []byte
	for _, p := range parts {
		switch x := p.(type) {
		case int:
			out = append(out, byte(x))
		case string:
			out = append(out, x...)
		case []byte:
			out = append(out, x...)
		}
	}
	return out
}

// notValues: bytes of no value, and the error that they have.
func notValues() []struct {
	why  string
	b    []byte
	want api.Errno
} {
	nan := "\x7f\xf0\x00\x00\x00\x00\x00\x01"
	four := "\x04\x01\x04\x01\x04\x01\x04\x01"
	long := strings.Repeat("\x03\xc8"+strings.Repeat("x", 200), 4) // four texts of 200 bytes
	return []struct {
		why  string
		b    []byte
		want api.Errno
	}{
		{"nothing", nil, api.ErrShort},
		{"Kind 5", raw(5), api.ErrLong},
		{"Kind 239", raw(239, 1, 1), api.ErrLong},
		{"a Kind of two bytes", raw(240, 240), api.ErrLong},
		{"a Kind of two bytes, cut", raw(240), api.ErrShort},
		{"a Kind longer than it must be", raw(240, 4, 0), api.ErrForm},
		{"a Kind of no form", raw(248, 1), api.ErrForm},
		{"no Int", raw(1), api.ErrShort},
		{"half an Int", raw(1, "1234567"), api.ErrShort},
		{"no Bits", raw(2), api.ErrShort},
		{"half of Bits", raw(2, "1234567"), api.ErrShort},
		{"another NaN", raw(2, nan), api.ErrForm},
		{"a NaN below 0", raw(2, "\xff\xf8\x00\x00\x00\x00\x00\x00"), api.ErrForm},
		{"all ones", raw(2, "\xff\xff\xff\xff\xff\xff\xff\xff"), api.ErrForm},
		{"no text", raw(3), api.ErrShort},
		{"half a text", raw(3, 2, "a"), api.ErrShort},
		{"a text of 201", raw(3, 201, strings.Repeat("x", 201)), api.ErrLong},
		{"a text of 201, cut", raw(3, 201), api.ErrLong},
		{"a text of 240", raw(3, 240, 240, strings.Repeat("x", 240)), api.ErrLong},
		{"a text whose length is longer than it must be", raw(3, 240, 1, "a"), api.ErrForm},
		{"no list", raw(4), api.ErrShort},
		{"a list of 13", raw(4, 13, make([]byte, 13)), api.ErrLong},
		{"a list of 13, cut", raw(4, 13), api.ErrLong},
		{"a list whose length is longer than it must be", raw(4, 240, 1, 0), api.ErrForm},
		{"a list that lacks its last", raw(4, 12, make([]byte, 11)), api.ErrShort},
		{"a list that lacks all", raw(4, 1), api.ErrShort},
		{"a list of half a text", raw(4, 1, 3, 5, "abcd"), api.ErrShort},
		{"a list with a Kind 5", raw(4, 2, 0, 5), api.ErrLong},
		{"five deep", raw(four, 4, 0), api.ErrLong},
		{"five deep, cut", raw(four, 4), api.ErrLong},
		{"five deep, a number of no form", raw(four, 4, 250), api.ErrLong},
		{"five deep, and a NaN behind", raw(four, 4, 1, 2, nan), api.ErrLong},
		{"five deep in the second place", raw(4, 2, 0, four[2:], 4, 1, 4, 0), api.ErrLong},
		{"a NaN, and then cut", raw(4, 2, 2, nan), api.ErrForm},
		{"a NaN, and then five deep", raw(4, 2, 2, nan, four, 4), api.ErrForm},
		{"a NaN, and others behind", raw(2, nan, "abc"), api.ErrForm},
		{"1001 bytes", raw(4, 5, long, 3, 189, strings.Repeat("y", 189)), api.ErrLong},
		{"1001 bytes, and others behind", raw(4, 5, long, 3, 189, strings.Repeat("y", 190)), api.ErrLong},
		{"1012 bytes", raw(4, 5, long, 3, 200, strings.Repeat("y", 200)), api.ErrLong},
		{"1012 bytes, cut by one", raw(4, 5, long, 3, 200, strings.Repeat("y", 199)), api.ErrShort},
		{"too long, with a NaN at its end", raw(4, 7, long, 3, 200, strings.Repeat("y", 200), 0, 2, nan), api.ErrForm},
		{"too long in all, each part short enough", raw(4, 2, 4, 4, long, 4, 4, long), api.ErrLong},
	}
}

func TestReadOfNoValue(t *testing.T) {
	for _, c := range notValues() {
		r := pack.Open(c.b)
		if v := Read(r); !identical(v, api.Value{}) || r.Err() != c.want || r.Left() != 0 {
			t.Errorf("%s: Read = %v, %d, %d left, want %d", c.why, v, r.Err(), r.Left(), c.want)
		}
		if v, e := Parse(c.b); !identical(v, api.Value{}) || e != c.want {
			t.Errorf("%s: Parse = %v, %d, want %d", c.why, v, e, c.want)
		}
	}
}

func TestReadGoesOn(t *testing.T) {
	var b []byte
	for _, v := range good() {
		b = pack.Text(Put(b, v), "between")
	}
	r := pack.Open(b)
	for _, v := range good() {
		left := r.Left()
		if got := Read(r); !identical(got, v) {
			t.Fatalf("Read = %v, want %v", got, v)
		}
		if left-r.Left() != len(form(v)) || r.Text(7) != "between" {
			t.Fatalf("behind %v: %d bytes were read", v, left-r.Left())
		}
	}
	if e := r.End(); e != api.OK {
		t.Error("End", e)
	}
}

func TestReadBehindAnError(t *testing.T) {
	r := pack.Open(Put(nil, Int(1)))
	r.Fail(api.ErrEvent)
	if v := Read(r); !identical(v, api.Value{}) || r.Err() != api.ErrEvent {
		t.Errorf("Read = %v, %d", v, r.Err())
	}
	long := pack.Open(raw(5, make([]byte, 2000)))
	if v := Read(long); !identical(v, api.Value{}) || long.Err() != api.ErrLong || !identical(Read(long), api.Value{}) {
		t.Errorf("Read = %v, %d", v, long.Err())
	}
}

func TestReadersThatNoCallMade(t *testing.T) {
	var none *pack.Reader
	for _, r := range []*pack.Reader{none, {}} {
		if v := Read(r); !identical(v, api.Value{}) || r.Err() != api.ErrNil {
			t.Errorf("Read = %v, %d", v, r.Err())
		}
	}
}

func TestParseWithBytesBehind(t *testing.T) {
	for _, v := range good() {
		for _, behind := range []string{"\x00", "abc"} {
			if got, e := Parse(append(form(v), behind...)); e != api.ErrForm || !identical(got, api.Value{}) {
				t.Errorf("Parse of %v and %q = %v, %d", v, behind, got, e)
			}
		}
		b := form(v)
		for n := range b {
			if got, e := Parse(b[:n]); e != api.ErrShort || !identical(got, api.Value{}) {
				t.Errorf("Parse of %d bytes of %v = %v, %d", n, v, got, e)
			}
		}
	}
}

func TestParseSharesNothing(t *testing.T) {
	b := form(listOf(Text("abc"), listOf(Text("def"))))
	before := string(b)
	v, _ := Parse(b)
	v.List[0] = Int(1)
	v.List[1].List[0] = Int(2)
	if string(b) != before {
		t.Error("what was handed in changed")
	}
	w, _ := Parse(b)
	clear(b)
	if !identical(w, listOf(Text("abc"), listOf(Text("def")))) {
		t.Errorf("it changed with what was handed in: %v", w)
	}
}
