package names

import (
	"math"
	"strconv"
	"strings"
	"testing"

	"usher/api"
)

const (
	letters = "abcdefghijklmnopqrstuvwxyzABCDEFGHIJKLMNOPQRSTUVWXYZ"
	digits  = "0123456789"
	first   = letters + digits + "_"
	inner   = first + "-."
)

func someNames() []string {
	return []string{"a", "Z", "0", "9", "_", "a.b", "a-", "a.", "a..b", "x--", "_._", "A1_b-C.d", "1", "10", "h", "w", "w-h", strings.Repeat("n", 23), strings.Repeat("N", 24)}
}

// noNames: texts beside names, by one byte or by many.
func noNames() []string {
	return []string{"", ".", "-", ".a", "-a", "..", "/", "a/b", "a/", "/a", " ", "a b", "a\x00", "\x00", "a\n", "\xff", "é", "aé", "名", "a:b", "a@b", "a[b", "a`b", "a{b", "a,b", "w/a", "h/a/1", strings.Repeat("n", 25), strings.Repeat("n", 1000)}
}

func TestEachByteOfAName(t *testing.T) {
	for c := range 256 {
		s := string([]byte{byte(c)})
		if got, want := Name(s), strings.Contains(first, s); got != want {
			t.Errorf("Name(%q) = %v", s, got)
		}
		if got, want := Name("."+s), false; got != want {
			t.Errorf("Name(%q) = %v", "."+s, got)
		}
		for _, whole := range []string{"a" + s, "a" + s + "b", "abc" + s, strings.Repeat("a", 23) + s} {
			if got, want := Name(whole), strings.Contains(inner, s); got != want {
				t.Errorf("Name(%q) = %v", whole, got)
			}
		}
	}
}

func TestLengthsOfAName(t *testing.T) {
	for n := range 60 {
		for _, c := range []string{"a", "Z", "5", "_"} {
			s := strings.Repeat(c, n)
			if got, want := Name(s), n >= 1 && n <= 24; got != want {
				t.Errorf("Name of %d bytes %s = %v", n, c, got)
			}
		}
	}
}

func TestNames(t *testing.T) {
	for _, s := range someNames() {
		if !Name(s) {
			t.Errorf("%q is a name", s)
		}
	}
	for _, s := range noNames() {
		if Name(s) {
			t.Errorf("%q is no name", s)
		}
	}
}

func TestTexts(t *testing.T) {
	for _, c := range []struct {
		text string
		want bool
	}{
		{"", true},
		{"any thing", true},
		{"\x00\xff", true},
		{strings.Repeat("x", 199), true},
		{strings.Repeat("\xff", 200), true},
		{strings.Repeat("x", 201), false},
		{strings.Repeat("é", 100), true},
		{strings.Repeat("é", 101), false},
		{strings.Repeat("x", 100000), false},
	} {
		if Text(c.text) != c.want {
			t.Errorf("Text of %d bytes is not %v", len(c.text), c.want)
		}
	}
}

func TestKeysOfRows(t *testing.T) {
	for _, s := range append(someNames(), noNames()...) {
		if got := Row(s); got != "w/"+s {
			t.Errorf("Row(%q) = %q", s, got)
		}
	}
}

func TestKeysOfBranches(t *testing.T) {
	for _, c := range []struct {
		run  int
		want string
	}{
		{math.MinInt, "0"}, {-1000, "0"}, {-2, "0"}, {-1, "0"}, {0, "0"}, {1, "1"}, {9, "9"}, {10, "10"}, {11, "11"}, {100, "100"}, {1234567890, "1234567890"}, {math.MaxInt, "9223372036854775807"},
	} {
		for _, s := range append(someNames(), noNames()...) {
			if got := Branch(s, c.run); got != "h/"+s+"/"+c.want {
				t.Errorf("Branch(%q, %d) = %q", s, c.run, got)
			}
		}
	}
}

func TestRowsAreReadBack(t *testing.T) {
	for _, s := range someNames() {
		if got, ok := ParseRow(Row(s)); got != s || !ok {
			t.Errorf("ParseRow(%q) = %q, %v", Row(s), got, ok)
		}
	}
	for _, s := range noNames() {
		refuseRow(t, Row(s))
	}
}

func refuseRow(t *testing.T, key string) {
	t.Helper()
	if got, ok := ParseRow(key); got != "" || ok {
		t.Errorf("ParseRow(%q) = %q, %v", key, got, ok)
	}
}

func TestKeysThatAreNoRows(t *testing.T) {
	for _, key := range []string{"", "w", "w/", "/", "a", "wa", "W/a", "w\\a", "w//a", "/w/a", " w/a", "w /a", "w/a ", "w/a/", "w/a/1", "w/w/a", "h/a", "h/a/1", "x/a", "ww/a"} {
		refuseRow(t, key)
	}
}

func TestBranchesAreReadBack(t *testing.T) {
	for _, s := range someNames() {
		for run := 1; run <= 10; run++ {
			if got, n, ok := ParseBranch(Branch(s, run)); got != s || n != run || !ok {
				t.Errorf("ParseBranch(%q) = %q, %d, %v", Branch(s, run), got, n, ok)
			}
		}
		for _, run := range []int{math.MinInt, -1, 0, 11, 12, 20, 100, 101, 1 << 32, 1<<32 + 1, math.MaxInt} {
			refuseBranch(t, Branch(s, run))
		}
	}
	for _, s := range noNames() {
		for run := range 12 {
			refuseBranch(t, Branch(s, run))
		}
	}
}

func refuseBranch(t *testing.T, key string) {
	t.Helper()
	if got, n, ok := ParseBranch(key); got != "" || n != 0 || ok {
		t.Errorf("ParseBranch(%q) = %q, %d, %v", key, got, n, ok)
	}
}

func TestRunsThatAreWrittenOtherwise(t *testing.T) {
	for _, run := range []string{"", "0", "00", "01", "010", "001", "+1", "-1", "-0", "+", "-", " 1", "1 ", "1.", "1.0", "1e0", "0x1", "1_0", "a", "1a", "a1", "11", "1/", "/1", "1/1", "١", "१", "18446744073709551617", "4294967297", "99999999999999999999999999"} {
		refuseBranch(t, "h/a/"+run)
	}
}

func TestKeysThatAreNoBranches(t *testing.T) {
	for _, key := range []string{"", "h", "h/", "h//", "h//1", "/", "/a/1", "a/1", "h/a", "h/a/", "ha/1", "H/a/1", "w/a", "w/a/1", "h\\a\\1", "h/a\\1", "hh/a/1", "h/h/a/1", "/h/a/1", " h/a/1", "h/a//1", "h/a/b/1", "h/a/1/2", "h/.a/1", "h/-/1", "h/" + strings.Repeat("n", 25) + "/1"} {
		refuseBranch(t, key)
	}
}

// Every text of few bytes out of those that keys are made of: what is read is what was made, and no key is of both kinds.
func TestShortKeys(t *testing.T) {
	texts := []string{""}
	for at := 0; len(texts[at]) < 6; at++ {
		for _, c := range []byte("wh/a.01") {
			texts = append(texts, texts[at]+string([]byte{c}))
		}
	}
	for _, key := range texts {
		flow, isRow := ParseRow(key)
		if isRow && (!Name(flow) || Row(flow) != key) {
			t.Fatalf("ParseRow(%q) = %q", key, flow)
		}
		of, run, isBranch := ParseBranch(key)
		if isBranch && (!Name(of) || run < 1 || run > 10 || Branch(of, run) != key) {
			t.Fatalf("ParseBranch(%q) = %q, %d", key, of, run)
		}
		if isRow && isBranch {
			t.Fatalf("%q is a row and a branch", key)
		}
	}
}

func TestKeysAreShortAndApart(t *testing.T) {
	seen := map[string]string{}
	put := func(key, what string) {
		if len(key) > api.MaxKey {
			t.Errorf("%q has %d bytes", key, len(key))
		}
		if seen[key] != "" {
			t.Errorf("%q is the key of %s and of %s", key, seen[key], what)
		}
		seen[key] = what
	}
	for _, s := range someNames() {
		put(Row(s), "row "+s)
		refuseBranch(t, Row(s))
		for run := 1; run <= api.MaxRuns; run++ {
			put(Branch(s, run), "branch "+s+" "+strconv.Itoa(run))
			refuseRow(t, Branch(s, run))
		}
	}
}
