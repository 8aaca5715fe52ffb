package tests

import (
	"math/big"
	"math/rand"
	"testing"

	"loop.example/g00047/impl"
)

func TestSimplestInByHand(t *testing.T) {
	for _, c := range []struct {
		lo, hi, want string
	}{
		{"7/22", "9/22", "1/3"}, {"1/3", "1/2", "1/2"}, {"2/5", "3/7", "2/5"}, {"5/12", "3/7", "3/7"}, {"0", "1", "0"}, {"1", "2", "1"}, {"3", "5", "3"},
		{"5/2", "9/2", "3"}, {"5/2", "3", "3"}, {"5/2", "14/5", "5/2"}, {"157/50", "63/20", "22/7"},
		{"1/" + tenTo(399), "1", "1"}, {"1/2", "1/2", "1/2"}, {"0", "0", "0"}, {"-7", "-7", "-7"}, {"-22/7", "-22/7", "-22/7"},
		{"-9/22", "-7/22", "-1/3"}, {"-5", "-3", "-3"}, {"-9/2", "-5/2", "-3"}, {"-3", "-5/2", "-3"}, {"-14/5", "-5/2", "-5/2"}, {"-1/2", "-1/3", "-1/2"},
		{"-1", "1", "0"}, {"-1/2", "1/3", "0"}, {"-5/2", "0", "0"}, {"0", "5/2", "0"}, {"-" + nines(400), nines(400), "0"},
		{"1", "0", ""}, {"1/2", "1/3", ""}, {"-1/3", "-1/2", ""}, {"1", "-1", ""}, {nines(400), nines(399), ""}, {"1/" + tenTo(399), "1/" + nines(400), ""},
		{nines(400), nines(400), nines(400)}, {"1/" + nines(400), "1/" + nines(400), "1/" + nines(400)},
		{nines(400) + "/" + tenTo(399), "10", "10"}, {"-10", "-" + nines(400) + "/" + tenTo(399), "-10"}, {nines(399), nines(400), nines(399)},
		{"1/" + nines(400), "1/" + tenTo(399), "1/" + tenTo(399)},
	} {
		if got := impl.SimplestIn(c.lo, c.hi); got != c.want {
			t.Errorf("SimplestIn(%.60q, %.60q): got %.60q, want %.60q", c.lo, c.hi, got, c.want)
		}
	}
}

// simplestBySearch tries lower number by lower number, and takes of the first that has any between the one of least size.
func simplestBySearch(lo *big.Rat, hi *big.Rat) string {
	for d := int64(1); ; d++ {
		var best *big.Rat
		for n := -12 * d; n <= 12*d; n++ {
			q := big.NewRat(n, d)
			if q.Cmp(lo) < 0 || q.Cmp(hi) > 0 {
				continue
			}
			if best == nil || new(big.Rat).Abs(q).Cmp(new(big.Rat).Abs(best)) < 0 {
				best = q
			}
		}
		if best != nil {
			return best.RatString()
		}
	}
}

func TestSimplestInAgainstSearch(t *testing.T) {
	r := rand.New(rand.NewSource(4))
	for range 3000 {
		lo := big.NewRat(r.Int63n(121)-60, 1+r.Int63n(20))
		by := big.NewRat(r.Int63n(30), 1+r.Int63n(300))
		hi := new(big.Rat).Add(lo, by)
		if lo.Cmp(big.NewRat(-10, 1)) < 0 || hi.Cmp(big.NewRat(10, 1)) > 0 {
			continue
		}
		want := simplestBySearch(lo, hi)
		if got := impl.SimplestIn(lo.RatString(), hi.RatString()); got != want {
			t.Errorf("SimplestIn(%s, %s): got %q, want %q", lo.RatString(), hi.RatString(), got, want)
		}
	}
}

func TestSimplestInOfOnePoint(t *testing.T) {
	for _, a := range append(ordinary(), goodTexts()...) {
		if got := impl.SimplestIn(a, a); got != a {
			t.Errorf("SimplestIn(%.60q, itself): %.60q", a, got)
		}
	}
}

// The simplest one lies between, is no less simple than the ends, and is the mirror of the mirrored ends' one.
func TestSimplestInLiesBetween(t *testing.T) {
	r := rand.New(rand.NewSource(5))
	for i := range 400 {
		lo, hi := rat(t, randomFrac(r, 1+i)), rat(t, randomFrac(r, 1+i))
		if i%2 == 0 {
			hi = new(big.Rat).Add(lo, big.NewRat(1, 1+r.Int63n(1<<40)))
		}
		if lo.Cmp(hi) > 0 {
			lo, hi = hi, lo
		}
		if textOf(lo) == "" || textOf(hi) == "" {
			continue
		}
		s := impl.SimplestIn(textOf(lo), textOf(hi))
		mid := rat(t, s)
		if mid.Cmp(lo) < 0 || mid.Cmp(hi) > 0 || mid.Denom().Cmp(lo.Denom()) > 0 || mid.Denom().Cmp(hi.Denom()) > 0 {
			t.Errorf("SimplestIn(%.60q, %.60q): %.60q", textOf(lo), textOf(hi), s)
		}
		back := impl.SimplestIn(textOf(new(big.Rat).Neg(hi)), textOf(new(big.Rat).Neg(lo)))
		if back != textOf(new(big.Rat).Neg(mid)) {
			t.Errorf("mirrored: %.60q and %.60q", s, back)
		}
	}
}

// Neighbours in the Stern-Brocot tree, F(n)/F(n+1): the way down is as long as 400 digits can make it.
func TestSimplestInOfLongWays(t *testing.T) {
	a, b := big.NewInt(1), big.NewInt(1)
	for {
		next := new(big.Int).Add(a, b)
		if len(next.String()) > 400 {
			break
		}
		a, b = b, next
	}
	lo, hi := new(big.Rat).SetFrac(new(big.Int).Sub(b, a), a), new(big.Rat).SetFrac(a, b)
	if lo.Cmp(hi) > 0 {
		lo, hi = hi, lo
	}
	want := new(big.Rat).SetFrac(new(big.Int).Sub(b, a), a)
	if got := impl.SimplestIn(textOf(lo), textOf(hi)); got != textOf(want) {
		t.Errorf("got %.60q", got)
	}
	if got := impl.SimplestIn(textOf(hi), textOf(hi)); got != textOf(hi) {
		t.Errorf("got %.60q", got)
	}
}
