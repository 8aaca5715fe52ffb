package tests

import (
	"fmt"
	"math/big"
	"math/rand"
	"slices"
	"testing"

	"loop.example/g00047/impl"
)

// trackCase is a track, its greatest speed, push and jerk, and its least and greatest place, told by hand.
type trackCase struct{ l, most, least, greatest string }

func trackCases() []trackCase {
	return []trackCase{
		// The greatest speed is within the piece, at its first end, at its last one; each on the side below 0, too.
		{"0 0 0 | 2 4 0", "3 6 6", "0", "4"},
		{"0 0 0 | 2 -4 0", "3 6 6", "-4", "0"},
		{"0 4 0 | 2 0 0", "3 6 6", "0", "4"},
		{"0 0 5 | 1 1 0", "5 14 18", "0", "275/243"},
		{"0 0 -5 | 1 -1 0", "5 14 18", "-275/243", "0"},
		{"0 0 0 | 1 -1 5", "5 26 42", "-2048/1323", "0"},
		{"0 0 0 | 1 1 -5", "5 26 42", "0", "2048/1323"},
		// The greatest push at the first end, at the last one, and the same at both.
		{"0 0 0 | 1 1 3", "3 6 6", "0", "1"},
		{"-1 -1 3 | 0 0 0", "3 6 6", "-1", "0"},
		{"0 0 0 | 1 -1 -3", "3 6 6", "-1", "0"},
		{"-2 -2 9 | 2 2 9", "9 12 6", "-2", "2"},
		{"1 1 3 | 2 8 12", "12 12 6", "1", "8"},
		{"-2 -8 12 | -1 -1 3", "12 12 6", "-8", "-1"},
		// Degree 0, 1 and 2.
		{"0 5 0 | 1 5 0", "0 0 0", "5", "5"},
		{"0 0 0 | 1 0 0", "0 0 0", "0", "0"},
		{"0 0 2 | 3 6 2", "2 0 0", "0", "6"},
		{"0 0 -2 | 3 -6 -2", "2 0 0", "-6", "0"},
		{"0 0 0 | 2 4 4", "4 2 0", "0", "4"},
		{"-1 1 -2 | 1 1 2", "2 2 0", "0", "1"},
		{"-1 -1 2 | 1 -1 -2", "2 2 0", "-1", "0"},
		// Turning points: two within, both at the ends, both outside, one within, one at an end and one outside.
		{"-3/2 9/8 15/4 | 3/2 -9/8 15/4", "15/4 9 6", "-2", "2"},
		{"-1 2 0 | 1 -2 0", "3 6 6", "-2", "2"},
		{"2 2 9 | 3 18 24", "24 18 6", "2", "18"},
		{"0 0 -3 | 2 2 9", "9 12 6", "-2", "2"},
		{"0 0 -3 | 1 -2 0", "3 6 6", "-2", "0"},
		{"-1/2 11/8 -9/4 | 1/2 -11/8 -9/4", "3 3 6", "-11/8", "11/8"},
		{"1 -2 0 | 2 2 9", "9 12 6", "-2", "2"},
		// The speed touches 0 without turning; it comes near, and doesn't.
		{"-1 -1 3 | 1 1 3", "3 6 6", "-1", "1"},
		{"0 -1/3 1 | 2 1/3 1", "1 2 2", "-1/3", "1/3"},
		{"-1 -4/3 2 | 1 4/3 2", "2 2 2", "-4/3", "4/3"},
		// Turning points that are no fractions: nothing is told of them.
		{"0 0 -2 | 2 -4/3 2", "2 4 2", "-4/3", "0"},
		{"-2 4/3 2 | 2 -4/3 2", "2 4 2", "-4/3", "4/3"},
		{"-2 4/3 2 | 0 0 -2", "2 4 2", "0", "4/3"},
		// They are beside the piece.
		{"2 -4/3 2 | 3 3 7", "7 6 2", "-4/3", "3"},
		// Several pieces: each one may have the greatest of something.
		{"0 0 0 | 1 1 0 | 2 2 0", "3/2 6 12", "0", "2"},
		{"0 5 0 | 1 5 0 | 3 9 0", "3 6 6", "5", "9"},
		{"0 5 0 | 2 9 0 | 3 9 0", "3 6 6", "5", "9"},
		{"0 0 -2 | 2 -4/3 2 | 3 -4/3 -2", "2 4 2", "-4/3", "0"},
		{"0 0 0 | 1/2 1 0 | 9 1 0 | 29 -39 0", "3 24 96", "-39", "1"},
		{"0 0 0 | 1/10 1/100 1/5 | 1/5 2/100 0 | 50/5 2/100 0 | 55/5 502/100 9", "9 12 6", "0", "251/50"},
	}
}

func TestTrackMostByHand(t *testing.T) {
	for _, c := range trackCases() {
		l := slices.Clone(trackOf(c.l))
		for i, k := range l {
			l[i] = impl.Knot{Time: reduced(k.Time), Place: reduced(k.Place), Speed: reduced(k.Speed)}
		}
		if got, ok := impl.TrackMost(l); got != limitsOf(c.most) || !ok {
			t.Errorf("TrackMost of %s: %q %v, want %s", c.l, got, ok, c.most)
		}
		if lo, hi, ok := impl.TrackRange(l); lo != c.least || hi != c.greatest || !ok {
			t.Errorf("TrackRange of %s: %s %s %v, want %s %s", c.l, lo, hi, ok, c.least, c.greatest)
		}
		checkTrack(t, l)
		checkInstants(t, rand.New(rand.NewSource(296)), l, 50)
	}
}

func TestTrackMostOfDrawnTracks(t *testing.T) {
	r := rand.New(rand.NewSource(297))
	for range 300 {
		l := drawnTrack(r, drawnBetween(r, 2, mostKnots))
		checkTrack(t, l)
		checkInstants(t, r, l, 12)
	}
}

// What is told is reached: the speed at some instant, the push at an end of a piece, the jerk is what the push changes by.
func TestTrackMostIsReached(t *testing.T) {
	r := rand.New(rand.NewSource(298))
	within, atEnds := 0, 0
	for range 200 {
		l := drawnTrack(r, 2)
		most, _ := impl.TrackMost(l)
		first, last := rat(t, l[0].Time), rat(t, l[1].Time)
		one, push, _ := impl.TrackAt(l, l[0].Time)
		two, pushLast, _ := impl.TrackAt(l, l[1].Time)
		rise := minus(rat(t, pushLast), rat(t, push))
		if jerk := sizeOf(quotient(rise, minus(last, first))); textOf(jerk) != most.Jerk {
			t.Errorf("TrackMost of %q: %q, the push changes by %s", l, most, jerk)
		}
		if got := textOf(greater(sizeOf(rat(t, push)), sizeOf(rat(t, pushLast)))); got != most.Push {
			t.Errorf("TrackMost of %q: %q, the push at an end is %s", l, most, got)
		}
		fastest := greater(sizeOf(rat(t, one.Speed)), sizeOf(rat(t, two.Speed)))
		if textOf(fastest) == most.Speed {
			atEnds++
			continue
		}
		// Otherwise it is where the push is 0.
		at := minus(first, quotient(times(rat(t, push), minus(last, first)), rise))
		k, none, ok := impl.TrackAt(l, textOf(at))
		if !ok || none != "0" || textOf(sizeOf(rat(t, k.Speed))) != most.Speed {
			t.Errorf("TrackMost of %q: %q, at %s there is %q %q", l, most, at, k, none)
		}
		within++
	}
	if within < 20 || atEnds < 20 {
		t.Errorf("%d within, %d at the ends", within, atEnds)
	}
}

// A speed with two noughts that are known: k (s - a) (s - b), with knots around, at, and between them.
func TestTrackRangeOfKnownTurns(t *testing.T) {
	r := rand.New(rand.NewSource(299))
	for range 300 {
		a, b, k, c := small(r, 4), small(r, 4), small(r, 3), small(r, 9)
		third := big.NewRat(1, 3)
		coefs := []*big.Rat{c, times(k, times(a, b)), negative(half(times(k, plus(a, b)))), times(k, third)}
		at := risingRats(r, drawnBetween(r, 2, mostKnots))
		switch r.Intn(4) {
		case 0:
			at = []*big.Rat{a, plus(a, big.NewRat(1+r.Int63n(9), 2))}
		case 1:
			at = []*big.Rat{minus(b, big.NewRat(1+r.Int63n(9), 2)), b}
		}
		l := polyTrack(coefs, at...)
		first, last := at[0], at[len(at)-1]
		lo, hi := polyValue(coefs, first), polyValue(coefs, first)
		for _, x := range append(at, a, b) {
			if x.Cmp(first) >= 0 && x.Cmp(last) <= 0 {
				lo, hi = lesser(lo, polyValue(coefs, x)), greater(hi, polyValue(coefs, x))
			}
		}
		if gotLo, gotHi, ok := impl.TrackRange(l); gotLo != textOf(lo) || gotHi != textOf(hi) || !ok {
			t.Errorf("TrackRange of %q (it turns at %s and %s): %s %s %v, want %s %s", l, a, b, gotLo, gotHi, ok, lo, hi)
		}
		checkTrack(t, l)
		checkInstants(t, r, l, 5)
	}
}

// A speed of (s - a)^2 - c: it turns at fractions just where c is a square. Otherwise the knots alone are told, and the places between may be beyond.
func TestTrackRangeOfRoots(t *testing.T) {
	r := rand.New(rand.NewSource(300))
	beyond := 0
	for c := int64(-3); c <= 30; c++ {
		for _, below := range []int64{1, 4, 9, 2, 3} {
			a, square := small(r, 3), big.NewRat(c, below)
			coefs := []*big.Rat{small(r, 5), minus(times(a, a), square), negative(a), big.NewRat(1, 3)}
			at := []*big.Rat{minus(a, whole(6)), plus(a, whole(6))}
			l := polyTrack(coefs, at...)
			lo, hi := lesser(polyValue(coefs, at[0]), polyValue(coefs, at[1])), greater(polyValue(coefs, at[0]), polyValue(coefs, at[1]))
			root, exact := rootOf(square)
			if c > 0 && exact {
				for _, x := range []*big.Rat{minus(a, root), plus(a, root)} {
					lo, hi = lesser(lo, polyValue(coefs, x)), greater(hi, polyValue(coefs, x))
				}
			}
			if gotLo, gotHi, ok := impl.TrackRange(l); gotLo != textOf(lo) || gotHi != textOf(hi) || !ok {
				t.Errorf("TrackRange of %q (the square is %s): %s %s %v, want %s %s", l, square, gotLo, gotHi, ok, lo, hi)
			}
			checkTrack(t, l)
			// Close to a turning point that is no fraction.
			if c > 0 && !exact {
				near, _ := new(big.Float).SetPrec(200).Sqrt(new(big.Float).SetPrec(200).SetRat(square)).Rat(nil)
				k, _, ok := impl.TrackAt(l, textOf(plus(a, near)))
				if ok && rat(t, k.Place).Cmp(lo) < 0 {
					beyond++
				}
			}
		}
	}
	if beyond < 20 {
		t.Errorf("only %d places are beyond what is told", beyond)
	}
}

// One piece turns at a fraction, another one does not: what can be told is told.
func TestTrackRangeOfSomeTurns(t *testing.T) {
	for _, c := range []struct{ l, least, greatest string }{
		{"0 0 -2 | 2 -4/3 2 | 3 -4/3 -2", "-4/3", "0"},
		{"0 0 -2 | 2 -4/3 2 | 10 -4/3 -2", "-4/3", "8/3"},
		{"0 0 -2 | 2 -4/3 2 | 10 -4/3 -2 | 18 -4/3 2", "-16/3", "8/3"},
		{"-8 -4/3 -2 | 0 -4/3 2 | 8 -4/3 -2", "-16/3", "8/3"},
	} {
		if lo, hi, ok := impl.TrackRange(trackOf(c.l)); lo != c.least || hi != c.greatest || !ok {
			t.Errorf("TrackRange of %s: %s %s %v, want %s %s", c.l, lo, hi, ok, c.least, c.greatest)
		}
		checkTrack(t, trackOf(c.l))
	}
}

// Each limit met exactly, missed by little, and far off, by itself.
func TestTrackKeepsItsLimits(t *testing.T) {
	r := rand.New(rand.NewSource(301))
	little := rat(t, "1/"+tenTo(60))
	for range 60 {
		l := drawnTrack(r, drawnBetween(r, 2, mostKnots))
		most, ok := impl.TrackMost(l)
		if !ok || !impl.TrackKeeps(l, most) {
			t.Fatalf("TrackKeeps of %q, %q is false", l, most)
		}
		for i := range 3 {
			for _, by := range []*big.Rat{negative(little), little, big.NewRat(-1, 100), whole(7)} {
				m := most
				texts := []*string{&m.Speed, &m.Push, &m.Jerk}
				*texts[i] = textOf(plus(rat(t, *texts[i]), by))
				if want := by.Sign() > 0; impl.TrackKeeps(l, m) != want {
					t.Errorf("TrackKeeps of %q, %q: %v; the most is %q", l, m, !want, most)
				}
				checkKeeps(t, l, m)
			}
		}
	}
}

func TestTrackKeepsLimitsOfNought(t *testing.T) {
	for _, c := range []struct {
		l, m string
		want bool
	}{
		{"0 5 0 | 1 5 0", "0 0 0", true},
		{"0 5 0 | 1 5 0 | 7 5 0 | 8 5 0", "0 0 0", true},
		{"0 5 0 | 1 6 0", "0 0 0", false},
		{"0 5 0 | 1 5 0 | 7 5 0 | 8 5 1", "0 0 0", false},
		{"0 0 2 | 3 6 2", "2 0 0", true},
		{"0 0 2 | 3 6 2", "0 0 0", false},
		{"0 0 2 | 3 6 2", "1 0 0", false},
		{"0 0 2 | 3 6 2 | 4 8 2", "2 0 0", true},
		{"0 0 0 | 2 4 4", "4 2 0", true},
		{"0 0 0 | 2 4 4", "4 0 0", false},
		{"0 0 0 | 2 4 4", "0 2 0", false},
		{"0 0 0 | 2 4 0", "3 6 0", false},
		{"0 0 0 | 2 4 0", "3 6 6", true},
		{"0 0 0 | 2 4 0", "3 6 7", true},
		{"0 0 0 | 2 4 0", "3 6 599/100", false},
		{"0 0 0 | 2 4 0", "3 599/100 6", false},
		{"0 0 0 | 2 4 0", "299/100 6 6", false},
		{"0 0 0 | 2 4 0", "6 6 3", false},
		{"0 0 0 | 2 4 0", "6 3 6", false},
		{"0 0 0 | 2 -4 0", "3 6 6", true},
		{"0 0 0 | 2 -4 0", "2 6 6", false},
		{"0 0 0 | 2 4 0", nines(400) + " " + nines(400) + " " + nines(400), true},
		{"0 0 0 | 2 4 0", "1/" + nines(400) + " 9 9", false},
	} {
		if impl.TrackKeeps(trackOf(c.l), limitsOf(c.m)) != c.want {
			t.Errorf("TrackKeeps of %s, %.100s: %v", c.l, c.m, !c.want)
		}
		checkKeeps(t, trackOf(c.l), limitsOf(c.m))
	}
}

// One piece of several that is above the limits is enough, wherever it is.
func TestTrackKeepsOfEachPiece(t *testing.T) {
	for n := 2; n <= mostKnots; n++ {
		for wild := range n - 1 {
			l := []impl.Knot{}
			for i := range n {
				l = append(l, impl.Knot{Time: fmt.Sprint(i), Place: "0", Speed: "0"})
				if i > wild {
					l[i].Place = "2"
				}
			}
			if !impl.TrackKeeps(l, limitsOf("3 12 24")) || impl.TrackKeeps(l, limitsOf("2 12 24")) || impl.TrackKeeps(l, limitsOf("3 11 24")) || impl.TrackKeeps(l, limitsOf("3 12 23")) {
				most, _ := impl.TrackMost(l)
				t.Errorf("TrackKeeps of %q, whose most is %q", l, most)
			}
			checkTrack(t, l)
		}
	}
}
