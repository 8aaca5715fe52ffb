package tests

import (
	"math/big"
	"math/rand"
	"slices"
	"testing"

	"loop.example/g00047/impl"
)

func TestStretchTrackByHand(t *testing.T) {
	for _, c := range []struct{ l, by, want string }{
		{"0 0 0 | 2 4 0", "1", "0 0 0 | 2 4 0"},
		{"0 0 0 | 2 4 0", "3", "0 0 0 | 6 4 0"},
		{"0 0 0 | 2 4 0", "1/2", "0 0 0 | 1 4 0"},
		{"1 0 3 | 2 4 -6 | 5 1 1/2", "3", "1 0 1 | 4 4 -2 | 13 1 1/6"},
		{"1 0 3 | 2 4 -6 | 5 1 1/2", "1/3", "1 0 9 | 4/3 4 -18 | 7/3 1 3/2"},
		{"-3 7 1 | -1 -7 0 | 0 7 2", "2", "-3 7 1/2 | 1 -7 0 | 3 7 1"},
		{"-3 7 1 | -1 -7 0 | 0 7 2", "5/2", "-3 7 2/5 | 2 -7 0 | 9/2 7 4/5"},
	} {
		got, ok := impl.StretchTrack(trackOf(c.l), c.by)
		if !slices.Equal(got, trackOf(c.want)) || !ok {
			t.Errorf("StretchTrack of %s, %s: %q %v, want %s", c.l, c.by, got, ok, c.want)
		}
		checkStretch(t, trackOf(c.l), c.by)
	}
}

// The place at the stretched time is as it was; speed, push and jerk are divided by by, its square and its cube; so are their greatest sizes.
func TestStretchedTracksAreTheSameWay(t *testing.T) {
	r := rand.New(rand.NewSource(302))
	for n := 2; n <= mostKnots; n++ {
		for _, by := range []string{"1", "1/2", "2/3", "1/60", "2", "7/3", "60", "12345/7", "1/" + tenTo(20), tenTo(20)} {
			l := drawnTrack(r, n)
			s, ok := impl.StretchTrack(l, by)
			if !ok || !impl.GoodTrack(s) || s[0].Time != l[0].Time {
				t.Fatalf("StretchTrack of %q, %s: %q %v", l, by, s, ok)
			}
			checkStretch(t, l, by)
			x := rat(t, by)
			most, _ := impl.TrackMost(l)
			want := impl.Limits{Speed: textOf(quotient(rat(t, most.Speed), x)), Push: textOf(quotient(rat(t, most.Push), times(x, x))), Jerk: textOf(quotient(rat(t, most.Jerk), times(x, times(x, x))))}
			if got, ok := impl.TrackMost(s); got != want || !ok {
				t.Errorf("TrackMost of %q, stretched by %s: %q %v, want %q", l, by, got, ok, want)
			}
			lo, hi, _ := impl.TrackRange(l)
			if least, greatest, ok := impl.TrackRange(s); least != lo || greatest != hi || !ok {
				t.Errorf("TrackRange of %q, stretched by %s: %s %s %v, want %s %s", l, by, least, greatest, ok, lo, hi)
			}
			first := rat(t, l[0].Time)
			for range 6 {
				at := drawnWithin(r, first, rat(t, l[n-1].Time))
				later := plus(first, times(x, minus(at, first)))
				k, push, _ := impl.TrackAt(l, textOf(at))
				want := impl.Knot{Time: textOf(later), Place: k.Place, Speed: textOf(quotient(rat(t, k.Speed), x))}
				if got, p, ok := impl.TrackAt(s, textOf(later)); got != want || p != textOf(quotient(rat(t, push), times(x, x))) || !ok {
					t.Errorf("TrackAt of %q, stretched by %s, at %s: %q %s %v, want %q", l, by, at, got, p, ok, want)
				}
			}
		}
	}
}

// Twice is once by the product, and back is where it was.
func TestStretchTrackTwice(t *testing.T) {
	r := rand.New(rand.NewSource(303))
	for range 60 {
		l := drawnTrack(r, drawnBetween(r, 2, mostKnots))
		a, b := drawnLength(r, 3), drawnLength(r, 3)
		once, _ := impl.StretchTrack(l, a)
		twice, ok := impl.StretchTrack(once, b)
		both, okToo := impl.StretchTrack(l, impl.MulFrac(a, b))
		back, okBack := impl.StretchTrack(once, impl.DivFrac("1", a))
		if !ok || !okToo || !okBack || !slices.Equal(twice, both) || !slices.Equal(back, l) {
			t.Errorf("StretchTrack of %q by %s and %s: %q, by both %q, and back %q", l, a, b, twice, both, back)
		}
		same, ok := impl.StretchTrack(l, "1")
		if !ok || !slices.Equal(same, l) {
			t.Errorf("StretchTrack of %q by 1: %q %v", l, same, ok)
		}
	}
}

func TestStretchTrackByNoughtAndBelow(t *testing.T) {
	l := trackOf("0 0 1 | 2 4 0 | 3 5 1")
	for _, by := range []string{"0", "-1", "-1/2", "-60", "-" + nines(400), "-1/" + nines(400)} {
		if got, ok := impl.StretchTrack(l, by); len(got) != 0 || ok {
			t.Errorf("StretchTrack of %q by %.20s: %q %v", l, by, got, ok)
		}
		checkStretch(t, l, by)
	}
	for _, by := range []string{"1/" + nines(390), nines(390), "1"} {
		if got, ok := impl.StretchTrack(l, by); len(got) != 3 || !ok {
			t.Errorf("StretchTrack of %q by %.20s: %.100q %v", l, by, got, ok)
		}
		checkStretch(t, l, by)
	}
}

// Told by hand: which of the three limits asks for how much.
func TestLeastStretchByHand(t *testing.T) {
	for _, c := range []struct {
		l, m string
		want int
	}{
		{"0 0 0 | 2 4 0", "1 6 6", 3},
		{"0 0 0 | 2 4 0", "3 6 6", 1},
		{"0 0 0 | 2 4 0", "9 9 9", 1},
		{"0 0 0 | 2 4 0", "299/100 6 6", 2},
		{"0 0 0 | 2 4 0", "3/2 6 6", 2},
		{"0 0 0 | 2 4 0", "149/100 6 6", 3},
		// The push is divided by the square, the jerk by the cube.
		{"0 0 0 | 2 4 0", "3 599/100 6", 2},
		{"0 0 0 | 2 4 0", "3 3/2 6", 2},
		{"0 0 0 | 2 4 0", "3 149/100 6", 3},
		{"0 0 0 | 2 4 0", "3 6/49 6", 7},
		{"0 0 0 | 2 4 0", "3 6 599/100", 2},
		{"0 0 0 | 2 4 0", "3 6 3/4", 2},
		{"0 0 0 | 2 4 0", "3 6 74/100", 3},
		{"0 0 0 | 2 4 0", "3 6 6/1331", 11},
		// The one that asks for most decides.
		{"0 0 0 | 2 4 0", "3/5 6/49 6/27", 7},
		{"0 0 0 | 2 4 0", "3/8 6/49 6/27", 8},
		{"0 0 0 | 2 4 0", "3/8 6/49 6/729", 9},
		// 60 just so, and no more.
		{"0 0 0 | 2 4 0", "1/20 6 6", 60},
		{"0 0 0 | 2 4 0", "3 1/600 6", 60},
		{"0 0 0 | 2 4 0", "3 6 1/36000", 60},
		{"0 0 0 | 2 4 0", "1/20 1/600 1/36000", 60},
		{"0 0 0 | 2 4 0", "1/21 6 6", 0},
		{"0 0 0 | 2 4 0", "3 1/601 6", 0},
		{"0 0 0 | 2 4 0", "3 6 1/36001", 0},
		{"0 0 0 | 2 4 0", "3/59 6 6", 59},
		// Limits of 0: what stands still keeps them, what moves never does.
		{"0 4 0 | 2 4 0", "0 0 0", 1},
		{"0 4 0 | 2 4 0 | 3 4 0 | 9 4 0", "0 0 0", 1},
		{"0 0 0 | 2 4 0", "0 0 0", 0},
		{"0 0 0 | 2 4 0", "0 9 9", 0},
		{"0 0 0 | 2 4 0", "9 0 9", 0},
		{"0 0 0 | 2 4 0", "9 9 0", 0},
		{"0 0 2 | 3 6 2", "2 0 0", 1},
		{"0 0 2 | 3 6 2", "2/7 0 0", 7},
		{"0 0 2 | 3 6 2", "1/30 0 0", 60},
		{"0 0 2 | 3 6 2", "1/31 0 0", 0},
		{"0 0 0 | 2 4 4", "4 2/9 0", 3},
		{"0 0 0 | 2 4 4", "4 2 0", 1},
		{"0 0 0 | 2 -4 0", "1 6 6", 3},
	} {
		m := limitsOf(c.m)
		m = impl.Limits{Speed: reduced(m.Speed), Push: reduced(m.Push), Jerk: reduced(m.Jerk)}
		if got := impl.LeastStretch(trackOf(c.l), m); got != c.want {
			t.Errorf("LeastStretch of %s, %s: %d, want %d", c.l, c.m, got, c.want)
		}
		checkLeastStretch(t, trackOf(c.l), m)
	}
}

// Limits that ask for a known number, each of the three: the greatest of the numbers is told.
func TestLeastStretchOfKnownNumbers(t *testing.T) {
	r := rand.New(rand.NewSource(304))
	for range 60 {
		l := drawnTrack(r, drawnBetween(r, 2, mostKnots))
		most := exactMost(t, l)
		texts, want := [3]string{}, 1
		for i, size := range most {
			n := drawnBetween(r, 1, mostStretch+1)
			limit := size
			for range i + 1 {
				limit = quotient(limit, whole(int64(n)))
			}
			if r.Intn(2) == 0 && n > 1 {
				// A little more: still, one less is not enough.
				limit = times(limit, big.NewRat(1000001, 1000000))
			}
			texts[i] = textOf(limit)
			if size.Sign() > 0 {
				want = max(want, n)
			}
		}
		if want > mostStretch {
			want = 0
		}
		m := impl.Limits{Speed: texts[0], Push: texts[1], Jerk: texts[2]}
		if got := impl.LeastStretch(l, m); got != want {
			t.Errorf("LeastStretch of %q, %q: %d, want %d", l, m, got, want)
		}
		checkLeastStretch(t, l, m)
	}
}

func TestLeastStretchOfDrawnLimits(t *testing.T) {
	r := rand.New(rand.NewSource(305))
	seen := map[int]int{}
	for range 60 {
		l := drawnTrack(r, drawnBetween(r, 2, 5))
		m := impl.Limits{Speed: drawnLength(r, 2), Push: drawnLength(r, 2), Jerk: drawnLength(r, 2)}
		seen[checkLeastStretch(t, l, m)]++
		checkKeeps(t, l, m)
	}
	if len(seen) < 6 {
		t.Errorf("only %v", seen)
	}
}
