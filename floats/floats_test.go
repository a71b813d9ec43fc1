package floats

import (
	"math"
	"math/big"
	"testing"

	"usher/api"
)

const (
	minus   uint64 = 1 << 63
	inf     uint64 = 0x7ff0000000000000
	one     uint64 = 0x3ff0000000000000
	half    uint64 = 0x3fe0000000000000
	maximum uint64 = 0x7fefffffffffffff
)

// nans: the one NaN and others, quiet and signaling, of both signs.
func nans() []uint64 {
	return []uint64{theNaN, theNaN | minus, inf + 1, inf + 1 | minus, 0x7fffffffffffffff, 0xffffffffffffffff, 0x7ff7ffffffffffff, 0x7ff8000000000001, 0xfff4000000000000}
}

// ascending: floats that are no NaN, each above the one ahead of it.
func ascending() []uint64 {
	up := []uint64{0, 1, 2, leastNormal - 1, leastNormal, leastNormal + 1, half, one - 1, one, one + 1, 0x3ff8000000000000, Of(2), Of(7), Of(1 << 53), Of(1 << 62), Of(1<<62) + 1, Of(math.MaxInt), maximum, inf}
	var all []uint64
	for i := len(up) - 1; i >= 0; i-- {
		all = append(all, up[i]|minus)
	}
	return append(all, up...)
}

// everything: ascending ones, NaNs, and bits from a fixed rule.
func everything() []uint64 {
	all := append(ascending(), nans()...)
	x := uint64(88172645463325252)
	for range 60 {
		x ^= x << 13
		x ^= x >> 7
		x ^= x << 17
		all = append(all, x)
	}
	return all
}

func isNaN(x uint64) bool { return x&^minus > inf }

func TestCanonMakesEachNaNTheOne(t *testing.T) {
	for _, x := range nans() {
		if got := Canon(x); got != 0x7ff8000000000000 {
			t.Errorf("Canon(%x) = %x", x, got)
		}
	}
}

func TestCanonKeepsAllElse(t *testing.T) {
	for _, x := range ascending() {
		if got := Canon(x); got != x {
			t.Errorf("Canon(%x) = %x", x, got)
		}
	}
}

func TestOf(t *testing.T) {
	for _, c := range []struct {
		n    int
		want uint64
	}{
		{0, 0},
		{1, one},
		{-1, one | minus},
		{2, 0x4000000000000000},
		{7, 0x401c000000000000},
		{1 << 53, 0x4340000000000000},
		{1<<53 + 1, 0x4340000000000000}, // a tie, to even: down
		{1<<53 + 3, 0x4340000000000002}, // a tie, to even: up
		{-(1<<53 + 1), 0xc340000000000000},
		{math.MaxInt, 0x43e0000000000000},
		{math.MinInt, 0xc3e0000000000000},
	} {
		if got := Of(c.n); got != c.want {
			t.Errorf("Of(%d) = %x, want %x", c.n, got, c.want)
		}
	}
}

func TestOrderStandsAsWorth(t *testing.T) {
	all := ascending()
	for i, a := range all {
		for j, b := range all {
			want := 0
			if i < j {
				want = -1
			} else if i > j {
				want = 1
			}
			if got := Order(a, b); got != want {
				t.Errorf("Order(%x, %x) = %d, want %d", a, b, got, want)
			}
		}
	}
}

func TestOrderHasNaNAboveAll(t *testing.T) {
	for _, n := range nans() {
		for _, x := range ascending() {
			if Order(n, x) != 1 || Order(x, n) != -1 {
				t.Errorf("Order of %x and %x: %d, %d", n, x, Order(n, x), Order(x, n))
			}
		}
		for _, m := range nans() {
			if Order(n, m) != 0 {
				t.Errorf("Order(%x, %x) = %d", n, m, Order(n, m))
			}
		}
	}
}

func TestOrderIsAnOrder(t *testing.T) {
	all := everything()
	for _, a := range all {
		for _, b := range all {
			if Order(a, b) != -Order(b, a) {
				t.Errorf("Order(%x, %x) is not the other way about", a, b)
			}
			if (Order(a, b) == 0) != (Canon(a) == Canon(b)) {
				t.Errorf("Order(%x, %x) = %d", a, b, Order(a, b))
			}
			for _, c := range all {
				if Order(a, b) <= 0 && Order(b, c) <= 0 && Order(a, c) > 0 {
					t.Errorf("Order does not go through: %x %x %x", a, b, c)
				}
			}
		}
	}
}

func TestLess(t *testing.T) {
	all := ascending()
	for i, a := range all {
		for j, b := range all {
			want := i < j && (a<<1 != 0 || b<<1 != 0) // of the two zeros neither
			if got := Less(a, b); got != want {
				t.Errorf("Less(%x, %x) = %v", a, b, got)
			}
		}
		for _, n := range nans() {
			if Less(a, n) || Less(n, a) {
				t.Errorf("Less of %x and %x", a, n)
			}
		}
	}
	for _, n := range nans() {
		for _, m := range nans() {
			if Less(n, m) {
				t.Errorf("Less(%x, %x)", n, m)
			}
		}
	}
}

func TestLessGoesWithOrder(t *testing.T) {
	for _, a := range everything() {
		for _, b := range everything() {
			if isNaN(a) || isNaN(b) || a<<1 == 0 && b<<1 == 0 {
				continue
			}
			if Less(a, b) != (Order(a, b) < 0) {
				t.Errorf("Less(%x, %x) = %v, Order %d", a, b, Less(a, b), Order(a, b))
			}
		}
	}
}

func TestAddAtEdges(t *testing.T) {
	for _, c := range []struct{ a, b, want uint64 }{
		{Of(2), Of(3), Of(5)},
		{inf, inf | minus, theNaN},
		{inf, inf, inf},
		{inf | minus, Of(9), inf | minus},
		{0, minus, 0},
		{minus, minus, minus},
		{one, one | minus, 0},
		{maximum, maximum, inf},
		{maximum, 0x7c90000000000000, inf},     // half of its last place: a tie, to even
		{maximum, 0x7c8fffffffffffff, maximum}, // right below that
		{1, 1, 2},
		{leastNormal, 1 | minus, leastNormal - 1},
		{Of(1 << 53), one, Of(1 << 53)},
		{Of(1<<53 + 2), one, Of(1<<53 + 4)},
		{theNaN, one, theNaN},
		{inf + 1, one, theNaN},
		{one, 0xffffffffffffffff, theNaN},
	} {
		if got := Add(c.a, c.b); got != c.want {
			t.Errorf("Add(%x, %x) = %x, want %x", c.a, c.b, got, c.want)
		}
	}
}

func TestMulAtEdges(t *testing.T) {
	for _, c := range []struct{ a, b, want uint64 }{
		{Of(2), Of(3), Of(6)},
		{inf, minus, theNaN},
		{inf, 0, theNaN},
		{inf, Of(-2), inf | minus},
		{0, Of(-2), minus},
		{minus, minus, 0},
		{1, half, 0}, // a tie, to even
		{3, half, 2}, // a tie, to even
		{1 | minus, half, minus},
		{leastNormal, half, leastNormal >> 1},
		{maximum, Of(2), inf},
		{one + 1, one + 1, one + 2}, // the square's last bits are lost
		{theNaN | minus, 0, theNaN},
		{0x7ff7ffffffffffff, one, theNaN},
	} {
		if got := Mul(c.a, c.b); got != c.want {
			t.Errorf("Mul(%x, %x) = %x, want %x", c.a, c.b, got, c.want)
		}
	}
}

// rounded gives the float64 nearest to an exact sum or product that is no zero.
func rounded(exact *big.Float) uint64 {
	f, _ := exact.Float64()
	return math.Float64bits(f)
}

func TestAddAndMulRoundToTheNearest(t *testing.T) {
	var finite []uint64
	for _, x := range everything() {
		if !isNaN(x) && x&^minus != inf && x<<1 != 0 {
			finite = append(finite, x)
		}
	}
	for _, a := range finite {
		for _, b := range finite {
			x := new(big.Float).SetPrec(5000).SetFloat64(math.Float64frombits(a))
			y := new(big.Float).SetPrec(5000).SetFloat64(math.Float64frombits(b))
			if p := rounded(new(big.Float).SetPrec(5000).Mul(x, y)); Mul(a, b) != p {
				t.Errorf("Mul(%x, %x) = %x, want %x", a, b, Mul(a, b), p)
			}
			sum := new(big.Float).SetPrec(5000).Add(x, y)
			if want := rounded(sum); sum.Sign() != 0 && Add(a, b) != want {
				t.Errorf("Add(%x, %x) = %x, want %x", a, b, Add(a, b), want)
			}
		}
	}
}

func TestAddAndMulDoNotDependOnWhichComesFirst(t *testing.T) {
	for _, a := range everything() {
		for _, b := range everything() {
			if Add(a, b) != Add(b, a) || Mul(a, b) != Mul(b, a) {
				t.Errorf("%x and %x", a, b)
			}
			if Add(a, b) != Canon(Add(a, b)) || Mul(a, b) != Canon(Mul(a, b)) {
				t.Errorf("a NaN of %x and %x is not the one", a, b)
			}
		}
	}
}

func TestMulIsRoundedAheadOfAdd(t *testing.T) {
	a := one + 1<<25 // 1 + 2^-27: its square is 1 + 2^-26 + 2^-54, of which the last part is lost
	if got := Add(Mul(a, a), Of(-1)); got != 0x3e50000000000000 {
		t.Errorf("the square less 1 is %x", got)
	}
}

func TestWhole(t *testing.T) {
	for _, c := range []struct {
		x    uint64
		most int
		want int
	}{
		{Of(7), 5, 5},
		{Of(7), 7, 7},
		{Of(7), 8, 7},
		{Of(7) - 1, 8, 6},
		{0x401f000000000000, 100, 7}, // 7.75
		{half, 5, 0},
		{one - 1, 5, 0},
		{one, 5, 1},
		{1, 5, 0},
		{0, 5, 0},
		{minus, 5, 0},
		{Of(-3), 5, 0},
		{inf | minus, 5, 0},
		{inf, 5, 5},
		{inf, 0, 0},
		{Of(3), 0, 0},
		{maximum, math.MaxInt, math.MaxInt},
		{Of(1 << 53), 1<<53 + 1, 1 << 53}, // most has no float64 of its own
		{Of(math.MaxInt), math.MaxInt, math.MaxInt},      // 2^63
		{Of(math.MaxInt) - 1, math.MaxInt, 1<<63 - 1024}, // the last one below it
		{Of(math.MaxInt) - 1, 1<<63 - 1024, 1<<63 - 1024},
		{Of(math.MaxInt) - 1, 1<<63 - 1025, 1<<63 - 1025},
	} {
		if got, e := Whole(c.x, c.most); got != c.want || e != api.OK {
			t.Errorf("Whole(%x, %d) = %d, %d, want %d", c.x, c.most, got, e, c.want)
		}
	}
}

func TestWholeRefuses(t *testing.T) {
	for _, x := range nans() {
		for _, most := range []int{0, 5, math.MaxInt, -1} {
			if n, e := Whole(x, most); n != 0 || e != api.ErrArg {
				t.Errorf("Whole(%x, %d) = %d, %d", x, most, n, e)
			}
		}
	}
	for _, x := range ascending() {
		for _, most := range []int{-1, math.MinInt} {
			if n, e := Whole(x, most); n != 0 || e != api.ErrArg {
				t.Errorf("Whole(%x, %d) = %d, %d", x, most, n, e)
			}
		}
	}
}

func TestWholeOfAWholeNumberIsIt(t *testing.T) {
	check := func(n int) {
		if got, e := Whole(Of(n), n); got != n || e != api.OK {
			t.Errorf("Whole(Of(%d)) = %d, %d", n, got, e)
		}
		if got, e := Whole(Of(n), math.MaxInt); got != n || e != api.OK {
			t.Errorf("Whole(Of(%d), the greatest) = %d, %d", n, got, e)
		}
	}
	for n := range 300 {
		check(n)
		check(1<<53 - n)
	}
	for k := range 53 {
		check(1 << k)
		check(1<<k - 1)
		check(1<<k + 1)
	}
}

func TestKind(t *testing.T) {
	for _, x := range nans() {
		if Kind(x) != 1 {
			t.Errorf("Kind(%x) = %d", x, Kind(x))
		}
	}
	for _, c := range []struct {
		x    uint64
		want int
	}{
		{inf, 2}, {0, 3}, {1, 4}, {leastNormal / 2, 4}, {leastNormal - 1, 4}, {leastNormal, 5}, {leastNormal + 1, 5}, {one, 5}, {half, 5}, {maximum, 5},
	} {
		if Kind(c.x) != c.want || Kind(c.x|minus) != c.want {
			t.Errorf("Kind(%x) = %d, with a sign %d, want %d", c.x, Kind(c.x), Kind(c.x|minus), c.want)
		}
	}
}
