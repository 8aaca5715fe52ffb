package tests

import (
	"fmt"
	"math/big"
	"math/rand"
	"slices"
	"testing"

	"loop.example/g00047/impl"
)

func TestGoodTracksOfAllNumbersOfKnots(t *testing.T) {
	for n := range mostKnots + 3 {
		l := []impl.Knot{}
		for i := range n {
			l = append(l, impl.Knot{Time: fmt.Sprint(i), Place: "1", Speed: "2"})
		}
		if want := n >= 2 && n <= mostKnots; impl.GoodTrack(l) != want {
			t.Errorf("GoodTrack of %d knots: %v", n, !want)
		}
		journey{l, "1", limitsOf("99 99 99"), "2", []impl.Knot{{Time: "3/2", Place: "0", Speed: "0"}}}.check(t)
		journey{l, "0", limitsOf("1 1 1"), "1/2", l}.check(t)
	}
}

func TestGoodTracksHaveRisingTimes(t *testing.T) {
	for _, c := range []struct {
		times string
		good  bool
	}{
		{"0 1", true}, {"1 0", false}, {"0 0", false}, {"-2 -1", true}, {"-1 -2", false}, {"1/3 1/2", true}, {"1/2 1/3", false}, {"9 10", true}, {"10 9", false}, {"-1/2 1/3", true},
		{"0 1 2", true}, {"0 0 2", false}, {"0 2 2", false}, {"1 0 2", false}, {"0 2 1", false}, {"2 1 0", false}, {"0 1 0", false},
		{"0 1 2 3 4 5 6 7", true}, {"0 0 2 3 4 5 6 7", false}, {"0 1 2 3 4 5 6 6", false}, {"1 0 2 3 4 5 6 7", false}, {"0 1 2 3 4 5 7 6", false}, {"0 1 2 3 3 5 6 7", false}, {"0 1 2 4 3 5 6 7", false},
		{nines(400) + " " + tenTo(399), false}, {tenTo(399) + " " + nines(400), true}, {"-" + nines(400) + " " + nines(400), true}, {"0 1/" + nines(400), true}, {"1/" + nines(400) + " 0", false},
		{"1/" + nines(400) + " 1/" + nines(399), true}, {"1/" + nines(400) + " 1/" + nines(400), false},
	} {
		l := []impl.Knot{}
		for i, time := range square(c.times)[0] {
			l = append(l, impl.Knot{Time: time, Place: fmt.Sprint(i % 3), Speed: "1"})
		}
		if impl.GoodTrack(l) != c.good {
			t.Errorf("GoodTrack with the times %.100s: %v", c.times, !c.good)
		}
		for _, k := range l {
			journey{l, k.Time, limitsOf("9 9 9"), "3", l[len(l)-1:]}.check(t)
		}
		// One that stands still can always be told.
		for i := range l {
			l[i].Place, l[i].Speed = "1", "0"
		}
		if _, _, ok := impl.TrackAt(l, l[0].Time); ok != c.good || impl.TrackKeeps(l, limitsOf("0 0 0")) != c.good {
			t.Errorf("TrackAt with the times %.100s: %v", c.times, ok)
		}
	}
}

// Told by hand: what a track is at an instant.
func TestTrackAtByHand(t *testing.T) {
	for _, c := range []struct{ l, time, place, speed, push string }{
		{"0 0 0 | 2 4 0", "1", "2", "3", "0"},
		{"0 0 0 | 2 4 0", "0", "0", "0", "6"},
		{"0 0 0 | 2 4 0", "2", "4", "0", "-6"},
		{"0 0 0 | 2 4 0", "1/2", "5/8", "9/4", "3"},
		{"7 0 0 | 9 4 0", "8", "2", "3", "0"},
		{"-7 1 0 | -5 5 0", "-6", "3", "3", "0"},
		// It stands still, goes straight on, is a square, is a cube.
		{"0 5 0 | 1 5 0", "2/3", "5", "0", "0"},
		{"0 1 2 | 3 7 2", "1/2", "2", "2", "0"},
		{"-1 1 -2 | 1 1 2", "0", "0", "0", "2"},
		{"-1 1 -2 | 1 1 2", "1/3", "1/9", "2/3", "2"},
		{"0 0 0 | 2 8 12", "1", "1", "3", "6"},
		{"0 0 0 | 2 8 12", "3/2", "27/8", "27/4", "9"},
		// The push leaps at 1: the piece that begins there tells it.
		{"0 0 0 | 1 1 0 | 2 2 0", "1", "1", "0", "6"},
		{"0 0 0 | 1 1 0 | 2 2 0", "999/1000", "999997002/1000000000", "5994/1000000", "-5988/1000"},
		{"0 0 0 | 1 1 0 | 2 2 0", "1001/1000", "1000002998/1000000000", "5994/1000000", "5988/1000"},
		{"0 0 0 | 1 1 0 | 2 2 0", "0", "0", "0", "6"},
		{"0 0 0 | 1 1 0 | 2 2 0", "2", "2", "0", "-6"},
		{"0 0 0 | 1 5 0 | 2 5 0 | 3 5 0", "1", "5", "0", "0"},
		{"0 5 0 | 1 5 0 | 2 6 0", "1", "5", "0", "6"},
		{"0 5 0 | 1 5 0 | 2 6 0", "1/2", "5", "0", "0"},
	} {
		l := trackOf(c.l)
		want := impl.Knot{Time: c.time, Place: reduced(c.place), Speed: reduced(c.speed)}
		if k, push, ok := impl.TrackAt(l, c.time); k != want || push != reduced(c.push) || !ok {
			t.Errorf("TrackAt of %s, %s: %q %q %v, want %q %q", c.l, c.time, k, push, ok, want, c.push)
		}
		checkTrackAt(t, l, c.time)
	}
}

// reduced is the document's text of a fraction that may have a divisor in common.
func reduced(s string) string {
	r, _ := new(big.Rat).SetString(s)
	return textOf(r)
}

// At each knot's Time there is the knot itself, and the push of the piece that begins there; at the last one that of the last piece.
func TestTrackAtTheKnots(t *testing.T) {
	r := rand.New(rand.NewSource(291))
	for n := 2; n <= mostKnots; n++ {
		for range 20 {
			l := drawnTrack(r, n)
			for i, knot := range l {
				k, push, ok := impl.TrackAt(l, knot.Time)
				from := min(i, n-2)
				// Two knots alone are the piece.
				_, want, _ := exactTrackAt(t, l[from:from+2], knot.Time)
				if k != knot || push != want || !ok {
					t.Errorf("TrackAt of %q, %s: %q %q %v, want %q", l, knot.Time, k, push, ok, want)
				}
				checkTrackAt(t, l, knot.Time)
			}
		}
	}
}

// A polynomial of the degree 3 at most is told as it is, however many knots it has.
func TestTrackAtIsThePolynomial(t *testing.T) {
	r := rand.New(rand.NewSource(292))
	for n := 2; n <= mostKnots; n++ {
		for degree := range 4 {
			for range 8 {
				coefs := []*big.Rat{}
				for range degree + 1 {
					coefs = append(coefs, small(r, 9))
				}
				l := polyTrack(coefs, risingRats(r, n)...)
				for range 12 {
					at := drawnWithin(r, rat(t, l[0].Time), rat(t, l[n-1].Time))
					want := knotOf(at, polyValue(coefs, at), polyValue(polySlope(coefs), at))
					push := textOf(polyValue(polySlope(polySlope(coefs)), at))
					if k, p, ok := impl.TrackAt(l, textOf(at)); k != want || p != push || !ok {
						t.Errorf("TrackAt of %q, %s: %q %q %v, want %q %q", l, at, k, p, ok, want, push)
					}
				}
				checkTrack(t, l)
			}
		}
	}
}

func TestTrackAtDrawnInstants(t *testing.T) {
	r := rand.New(rand.NewSource(293))
	for range 150 {
		l := drawnTrack(r, drawnBetween(r, 2, mostKnots))
		first, last := rat(t, l[0].Time), rat(t, l[len(l)-1].Time)
		for range 10 {
			checkTrackAt(t, l, textOf(drawnWithin(r, first, last)))
		}
		little := new(big.Rat).SetFrac(big.NewInt(1), bigText(t, tenTo(20)))
		for _, out := range []*big.Rat{minus(first, little), plus(last, little), minus(first, whole(1)), plus(last, whole(9))} {
			if k, push, ok := impl.TrackAt(l, textOf(out)); k != (impl.Knot{}) || push != "" || ok {
				t.Errorf("TrackAt of %q, %s: %q %q %v", l, out, k, push, ok)
			}
			checkTrackAt(t, l, textOf(out))
		}
		for _, in := range []*big.Rat{plus(first, little), minus(last, little)} {
			if _, _, ok := impl.TrackAt(l, textOf(in)); !ok {
				t.Errorf("TrackAt of %q, %s is false", l, in)
			}
			checkTrackAt(t, l, textOf(in))
		}
	}
}

// The place is where speeds lead, and speeds what pushes lead to: over a short time they differ by little more than that.
func TestTrackSlopesAreSlopes(t *testing.T) {
	r := rand.New(rand.NewSource(294))
	little := big.NewRat(1, 1000000)
	for range 60 {
		l := drawnTrack(r, drawnBetween(r, 2, mostKnots))
		most, _ := impl.TrackMost(l)
		from := r.Intn(len(l) - 1)
		at := plus(rat(t, l[from].Time), times(minus(rat(t, l[from+1].Time), rat(t, l[from].Time)), big.NewRat(1+r.Int63n(90), 100)))
		one, push, _ := impl.TrackAt(l, textOf(at))
		two, _, _ := impl.TrackAt(l, textOf(plus(at, little)))
		off := minus(quotient(minus(rat(t, two.Place), rat(t, one.Place)), little), rat(t, one.Speed))
		bent := minus(quotient(minus(rat(t, two.Speed), rat(t, one.Speed)), little), rat(t, push))
		if sizeOf(off).Cmp(times(little, rat(t, most.Push))) > 0 || sizeOf(bent).Cmp(times(little, rat(t, most.Jerk))) > 0 {
			t.Errorf("TrackAt of %q, %s: off by %s and %s", l, at, off, bent)
		}
	}
}

// Two knots of small numbers, all of them.
func TestAllSmallTracks(t *testing.T) {
	for _, long := range []string{"1", "2", "3/2"} {
		for place := -3; place <= 3; place++ {
			for first := -3; first <= 3; first++ {
				for last := -3; last <= 3; last++ {
					l := []impl.Knot{{Time: "0", Place: "1", Speed: fmt.Sprint(first)}, {Time: long, Place: fmt.Sprint(place), Speed: fmt.Sprint(last)}}
					checkTrack(t, l)
					for _, time := range []string{"0", "1/2", "1", "3/2", "2"} {
						checkTrackAt(t, l, time)
					}
				}
			}
		}
	}
}

// What is told of a track does not hang on when it begins, nor on where.
func TestTracksMoved(t *testing.T) {
	r := rand.New(rand.NewSource(295))
	for range 60 {
		l := drawnTrack(r, drawnBetween(r, 2, mostKnots))
		later, further := small(r, 20), small(r, 20)
		moved := slices.Clone(l)
		for i, k := range l {
			moved[i] = knotOf(plus(rat(t, k.Time), later), plus(rat(t, k.Place), further), rat(t, k.Speed))
		}
		most, _ := impl.TrackMost(l)
		if got, ok := impl.TrackMost(moved); got != most || !ok {
			t.Errorf("TrackMost of %q is %q, of %q %q", l, most, moved, got)
		}
		at := drawnWithin(r, rat(t, l[0].Time), rat(t, l[len(l)-1].Time))
		k, push, _ := impl.TrackAt(l, textOf(at))
		want := knotOf(plus(at, later), plus(rat(t, k.Place), further), rat(t, k.Speed))
		if got, p, ok := impl.TrackAt(moved, textOf(plus(at, later))); got != want || p != push || !ok {
			t.Errorf("TrackAt of %q, %s: %q %q, want %q %q", moved, plus(at, later), got, p, want, push)
		}
	}
}
