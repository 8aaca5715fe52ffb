package tests

import (
	"math/big"
	"math/rand"
	"slices"
	"testing"

	"loop.example/g00047/impl"
)

// moving is a body at 0, 0.
func moving(mass string, u string, v string) impl.Body {
	return impl.Body{Mass: mass, X: "0", Y: "0", U: u, V: v}
}

type strikeCase struct {
	a, b      impl.Body
	nx, ny, e string
	want      [4]string
}

func strikeCases() []strikeCase {
	two, still := moving("1", "2", "1"), moving("1", "0", "0")
	return []strikeCase{
		// As heavy: they change their speeds along the normal, or go on together.
		{two, still, "1", "0", "1", [4]string{"0", "1", "2", "0"}},
		{two, still, "1", "0", "0", [4]string{"1", "1", "1", "0"}},
		{two, still, "1", "0", "1/2", [4]string{"1/2", "1", "3/2", "0"}},
		// The normal's length is nothing to it, nor a part that is 0.
		{two, still, "7", "0", "1", [4]string{"0", "1", "2", "0"}},
		{two, still, "1/7", "0", "1/2", [4]string{"1/2", "1", "3/2", "0"}},
		{two, still, "0", "1", "1", [4]string{"2", "0", "0", "1"}},
		{two, still, "0", "5", "0", [4]string{"2", "1/2", "0", "1/2"}},
		{two, still, "1", "1", "1", [4]string{"1/2", "-1/2", "3/2", "3/2"}},
		{two, still, "3", "4", "1", [4]string{"4/5", "-3/5", "6/5", "8/5"}},
		{two, still, "30", "40", "1", [4]string{"4/5", "-3/5", "6/5", "8/5"}},
		// w is 0, or below 0: they go past or apart, whatever the rest.
		{two, still, "-1", "0", "1", [4]string{"2", "1", "0", "0"}},
		{two, still, "-1", "0", "0", [4]string{"2", "1", "0", "0"}},
		{two, still, "0", "-1", "1", [4]string{"2", "1", "0", "0"}},
		{two, still, "1", "-2", "1", [4]string{"2", "1", "0", "0"}},
		{two, still, "-1", "2", "0", [4]string{"2", "1", "0", "0"}},
		{still, still, "1", "0", "1", [4]string{"0", "0", "0", "0"}},
		{two, two, "1", "1", "1/2", [4]string{"2", "1", "2", "1"}},
		{still, two, "1", "0", "1", [4]string{"0", "0", "2", "1"}},
		{still, two, "-1", "0", "1", [4]string{"2", "0", "0", "1"}},
		{two, still, "1", "-1", "1", [4]string{"3/2", "3/2", "1/2", "-1/2"}},
		// A heavier and a lighter one.
		{moving("3", "4", "0"), moving("1", "0", "7"), "1", "0", "1", [4]string{"2", "0", "6", "7"}},
		{moving("1", "4", "0"), moving("3", "0", "7"), "2", "0", "1", [4]string{"-2", "0", "2", "7"}},
		{moving("1", "4", "0"), moving("3", "0", "7"), "2", "0", "0", [4]string{"1", "0", "1", "7"}},
		{moving("1/2", "4", "0"), moving("3/2", "-4", "7"), "1", "0", "1/3", [4]string{"-4", "0", "-4/3", "7"}},
	}
}

func TestStrikes(t *testing.T) {
	for _, c := range strikeCases() {
		got, ok := impl.Strike(c.a, c.b, c.nx, c.ny, c.e)
		if !ok || len(got) != 2 || [4]string{got[0].U, got[0].V, got[1].U, got[1].V} != c.want {
			t.Errorf("Strike of %q, %q, %s, %s, %s: %q %v, want %q", c.a, c.b, c.nx, c.ny, c.e, got, ok, c.want)
		}
		checkStrike(t, c.a, c.b, c.nx, c.ny, c.e)
	}
}

func TestStrikesOfSmallNumbers(t *testing.T) {
	for _, e := range []string{"0", "1/3", "1"} {
		for n := range 9 {
			nx, ny := big.NewRat(int64(n%3)-1, 1).RatString(), big.NewRat(int64(n/3)-1, 1).RatString()
			for s := range 81 {
				at := func(by int) string { return big.NewRat(int64(s/by%3)-1, 1).RatString() }
				a := impl.Body{Mass: "1", X: at(27), Y: at(1), U: at(1), V: at(3)}
				b := impl.Body{Mass: "2", X: at(3), Y: at(9), U: at(9), V: at(27)}
				checkStrike(t, a, b, nx, ny, e)
			}
		}
	}
}

func TestStrikesOfDrawnNumbers(t *testing.T) {
	r := rand.New(rand.NewSource(90))
	for _, digits := range []int{1, 2, 5, 20, 60, 150} {
		for range 60 {
			a, b := drawnBody(r, digits), drawnBody(r, digits)
			nx, ny := randomFrac(r, digits), randomFrac(r, digits)
			for _, e := range []string{"0", "1", "1/2", "2/3", nines(20) + "/" + tenTo(20)} {
				checkStrike(t, a, b, nx, ny, e)
			}
		}
	}
}

// along is the text of what leads from b's place to a's, so long as by, and whether it is anywhere.
func along(t *testing.T, a impl.Body, b impl.Body, by *big.Rat) (string, string, bool) {
	t.Helper()
	way := lumpOf(t, a).at.sub(lumpOf(t, b).at).by(by)
	return textOf(way.re), textOf(way.im), way.square().Sign() != 0
}

// Whirl is kept where the normal lies on the line through both, to either side and of any length, and where both are at one place, whatever the normal.
func TestStrikesKeepWhirl(t *testing.T) {
	r, struck := rand.New(rand.NewSource(91)), 0
	for range 300 {
		a, b := drawnBody(r, 6), drawnBody(r, 6)
		if r.Intn(3) == 0 {
			b.X, b.Y = a.X, a.Y
		}
		nx, ny, apart := along(t, a, b, big.NewRat(r.Int63n(9)-10, 1+r.Int63n(9)))
		if !apart {
			nx, ny = randomFrac(r, 4), drawnLength(r, 4)
		}
		for _, e := range []string{"0", "1/2", "1"} {
			got, ok := impl.Strike(a, b, nx, ny, e)
			was, _ := impl.Whirl([]impl.Body{a, b})
			is, told := impl.Whirl(got)
			if !ok || !told || is != was {
				t.Errorf("Whirl of %q, %q struck along %s, %s: %s, then %s", a, b, nx, ny, was, is)
			}
			checkStrike(t, a, b, nx, ny, e)
			if ok && got[0] != a {
				struck++
			}
		}
	}
	if struck < 100 {
		t.Error("too few of them come together:", struck)
	}
}

// The rest tells how fast they part along the normal; the other way round it is the same strike; a longer normal changes nothing.
func TestStrikesPartByTheRest(t *testing.T) {
	r := rand.New(rand.NewSource(92))
	for range 300 {
		a, b := drawnBody(r, 5), drawnBody(r, 5)
		n := spot{small(r, 5), plus(small(r, 5), big.NewRat(1, 3))}
		for _, e := range []string{"0", "1/2", "6/7", "1"} {
			got, ok := impl.Strike(a, b, textOf(n.re), textOf(n.im), e)
			if !ok {
				t.Fatal("no strike:", a, b, n, e)
			}
			before := dot(lumpOf(t, a).speed.sub(lumpOf(t, b).speed), n)
			after := dot(lumpOf(t, got[0]).speed.sub(lumpOf(t, got[1]).speed), n)
			if want := negative(times(before, rat(t, e))); before.Sign() > 0 && after.Cmp(want) != 0 {
				t.Errorf("%q and %q part by %s, want %s", a, b, after, want)
			}
			turned, _ := impl.Strike(b, a, textOf(negative(n.re)), textOf(negative(n.im)), e)
			slices.Reverse(turned)
			longer, _ := impl.Strike(a, b, textOf(times(n.re, big.NewRat(22, 7))), textOf(times(n.im, big.NewRat(22, 7))), e)
			if !slices.Equal(turned, got) || !slices.Equal(longer, got) {
				t.Errorf("three of one strike: %q, %q, %q", got, turned, longer)
			}
		}
	}
}

// What is told has at most 400 digits; what comes up on the way may have more.
func TestStrikesOfLongNumbers(t *testing.T) {
	still := moving("1", "0", "0")
	six := "6" + tenTo(399)[1:]
	for _, c := range []struct {
		a, b   impl.Body
		nx, ny string
		fits   bool
	}{
		// Twice as heavy: the other one gets four thirds of the speed.
		{moving("2", six, "0"), still, "1", "0", true},
		{moving("2", nines(400), "0"), still, "1", "0", false},
		{moving("2", "0", six), still, "0", "1", true},
		{moving("2", "0", nines(400)), still, "0", "1", false},
		{moving("2", "0", "0"), moving("1", "0", "-"+nines(400)), "0", "1", true},
		{moving("1", "0", "0"), moving("2", "0", "-"+six), "0", "1", true},
		{moving("1", "0", "0"), moving("2", "0", "-"+nines(400)), "0", "1", false},
		{moving("1", "0", "0"), moving("2", "-"+nines(400), "0"), "1", "0", false},
		// Below the line.
		{moving("2", "1/"+nines(399), "0"), still, "1", "0", true},
		{moving("2", "1/"+nines(400), "0"), still, "1", "0", false},
		{moving("2", "1", "0"), moving("1", "0", "1/"+nines(400)), "1", "0", true},
		// As heavy they only change: squares and sums of what is long fall away again.
		{moving(nines(400), nines(400), "-"+nines(400)), moving(nines(400), "-1/"+nines(400), "1/3"), "1", "0", true},
		{moving("1/"+nines(400), nines(400)+"/7", "7"), moving("1/"+nines(400), "-"+nines(400), "7"), nines(400) + "/7", "0", true},
		{moving("1", nines(400), nines(400)), moving("1", "-"+nines(400), "-"+nines(400)), nines(400), nines(400), true},
		{moving(nines(400), "1", "2"), moving(nines(400), "-1", "2"), "1/" + nines(400), "1/" + nines(400), true},
		{moving(nines(400), "1", "2"), moving(tenTo(399), "-1", "2"), "1/" + nines(400), "1/" + nines(400), false},
		{moving(nines(400), "1", "2"), moving(tenTo(399), "1", "2"), "1/" + nines(400), "1/" + nines(400), true},
	} {
		if got, ok := impl.Strike(c.a, c.b, c.nx, c.ny, "1"); ok != c.fits || !ok && len(got) != 0 {
			t.Errorf("Strike of %.100q, %.100q: %.300q %v", c.a, c.b, got, ok)
		}
		checkStrike(t, c.a, c.b, c.nx, c.ny, "1")
		checkStrike(t, c.a, c.b, c.nx, c.ny, "0")
	}
	// A rest that is as long as it may be.
	for _, e := range []string{"1/" + nines(400), tenTo(399) + "/" + nines(400)} {
		checkStrike(t, moving("1", "2", "0"), moving("1", "2", "1"), "1", "0", e)
		checkStrike(t, moving("1", "1", "0"), moving("1", "0", "1"), "1", "0", e)
		checkStrike(t, moving("1", nines(400), "0"), moving("1", "0", "1"), "1", "0", e)
	}
}
