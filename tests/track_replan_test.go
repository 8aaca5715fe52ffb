package tests

import (
	"fmt"
	"math/big"
	"math/rand"
	"slices"
	"testing"

	"loop.example/g00047/impl"
)

func TestReplanTrackByHand(t *testing.T) {
	for _, c := range []struct{ l, time, next, want string }{
		// Between knots, at a knot's Time, at the first and at the last one.
		{"0 0 0 | 2 4 0", "1", "5 0 0", "0 0 0 | 1 2 3 | 5 0 0"},
		{"0 0 0 | 2 4 0", "1/2", "1 0 0 | 2 7 1", "0 0 0 | 1/2 5/8 9/4 | 1 0 0 | 2 7 1"},
		{"0 0 0 | 2 4 0", "0", "1 9 9", "0 0 0 | 1 9 9"},
		{"0 0 0 | 2 4 0", "2", "3 9 9", "0 0 0 | 2 4 0 | 3 9 9"},
		{"0 0 0 | 2 4 1 | 3 5 0", "2", "9 9 9", "0 0 0 | 2 4 1 | 9 9 9"},
		{"0 0 0 | 2 4 1 | 3 5 0", "2", "5/2 0 0", "0 0 0 | 2 4 1 | 5/2 0 0"},
		{"0 0 0 | 2 4 1 | 3 5 0", "3", "4 5 0", "0 0 0 | 2 4 1 | 3 5 0 | 4 5 0"},
		{"0 0 0 | 2 4 0 | 4 0 0", "3", "4 9 0", "0 0 0 | 2 4 0 | 3 2 -3 | 4 9 0"},
		// next may end ahead of the elder track's end, or long behind it.
		{"0 0 0 | 100 4 0", "50", "51 0 0", "0 0 0 | 50 2 3/50 | 51 0 0"},
		{"-2 4 0 | 0 0 0", "-1", "-1/2 0 0 | 100 7 7", "-2 4 0 | -1 2 -3 | -1/2 0 0 | 100 7 7"},
		// What is planned anew may be what there was.
		{"0 0 0 | 2 4 0", "1", "2 4 0", "0 0 0 | 1 2 3 | 2 4 0"},
		// next's first Time is not behind time, does not rise, is none.
		{"0 0 0 | 2 4 0", "1", "1 2 3", ""},
		{"0 0 0 | 2 4 0", "1", "1/2 0 0", ""},
		{"0 0 0 | 2 4 0", "1", "1/2 0 0 | 3 0 0", ""},
		{"0 0 0 | 2 4 0", "1", "2 0 0 | 2 0 0", ""},
		{"0 0 0 | 2 4 0", "1", "3 0 0 | 2 0 0", ""},
		{"0 0 0 | 2 4 0", "1", "2 0 0 | 4 0 0 | 3 0 0", ""},
		{"0 0 0 | 2 4 0", "0", "0 0 0", ""},
		{"0 0 0 | 2 4 0", "2", "2 4 0", ""},
		{"0 0 0 | 2 4 0", "0", "-1 0 0", ""},
		// The time is not in the track.
		{"0 0 0 | 2 4 0", "-1/1000", "3 0 0", ""},
		{"0 0 0 | 2 4 0", "2001/1000", "3 0 0", ""},
	} {
		want := []impl.Knot{}
		if c.want != "" {
			want = trackOf(c.want)
		}
		got, ok := impl.ReplanTrack(trackOf(c.l), c.time, trackOf(c.next))
		if !slices.Equal(got, want) || ok != (c.want != "") {
			t.Errorf("ReplanTrack of %s, %s, %s: %q %v, want %s", c.l, c.time, c.next, got, ok, c.want)
		}
		checkReplan(t, trackOf(c.l), c.time, trackOf(c.next))
	}
}

// All numbers of knots, all places of the time, all numbers of next knots: 2 to MaxKnots in all are a track.
func TestReplanTrackOfAllNumbersOfKnots(t *testing.T) {
	for n := 2; n <= mostKnots; n++ {
		l := []impl.Knot{}
		for i := range n {
			l = append(l, impl.Knot{Time: fmt.Sprint(i), Place: fmt.Sprint(i * i % 5), Speed: fmt.Sprint(i % 3)})
		}
		for twice := range 2*n - 1 {
			time := textOf(big.NewRat(int64(twice), 2))
			for more := range mostKnots + 2 {
				next := []impl.Knot{}
				for i := range more {
					next = append(next, impl.Knot{Time: fmt.Sprint(10 + i), Place: "1", Speed: "-1"})
				}
				ahead := (twice + 1) / 2
				all := ahead + 1 + more
				want := more > 0 && all <= mostKnots
				got, ok := impl.ReplanTrack(l, time, next)
				if ok != want || ok && len(got) != all || !ok && len(got) != 0 {
					t.Errorf("ReplanTrack of %d knots, at %s, with %d more: %q %v", n, time, more, got, ok)
				}
				if ok && (!impl.GoodTrack(got) || !slices.Equal(got[:ahead], l[:ahead]) || got[ahead].Time != time || !slices.Equal(got[ahead+1:], next)) {
					t.Errorf("ReplanTrack of %d knots, at %s, with %d more: %q", n, time, more, got)
				}
				checkReplan(t, l, time, next)
			}
		}
		for _, none := range [][]impl.Knot{nil, {}} {
			if got, ok := impl.ReplanTrack(l, "1", none); len(got) != 0 || ok {
				t.Errorf("ReplanTrack of %q with nothing: %q %v", l, got, ok)
			}
		}
	}
}

// At the time place and speed are the same in both, ahead of it all is as it was, behind it the new knots are met.
func TestReplannedTracksGoOnWithoutAJump(t *testing.T) {
	r := rand.New(rand.NewSource(306))
	planned := 0
	for range 300 {
		l := drawnTrack(r, drawnBetween(r, 2, 6))
		first, last := rat(t, l[0].Time), rat(t, l[len(l)-1].Time)
		at := drawnWithin(r, first, last)
		if r.Intn(3) == 0 {
			at = rat(t, l[r.Intn(len(l))].Time)
		}
		next, behind := []impl.Knot{}, at
		for range 1 + r.Intn(3) {
			behind = plus(behind, big.NewRat(1+r.Int63n(9), 1+r.Int63n(4)))
			next = append(next, knotOf(behind, small(r, 9), small(r, 9)))
		}
		checkReplan(t, l, textOf(at), next)
		got, ok := impl.ReplanTrack(l, textOf(at), next)
		if !ok {
			continue
		}
		planned++
		was, _, _ := impl.TrackAt(l, textOf(at))
		if is, _, ok := impl.TrackAt(got, textOf(at)); is != was || !ok {
			t.Errorf("ReplanTrack of %q, %s: a jump from %q to %q", l, at, was, is)
		}
		for range 8 {
			x := drawnWithin(r, first, at)
			k, push, _ := impl.TrackAt(l, textOf(x))
			k2, push2, ok := impl.TrackAt(got, textOf(x))
			if k != k2 || !ok || x.Cmp(at) < 0 && push != push2 {
				t.Errorf("ReplanTrack of %q, %s: at %s %q %s, was %q %s", l, at, x, k2, push2, k, push)
			}
		}
		for _, k := range next {
			if there, _, ok := impl.TrackAt(got, k.Time); there != k || !ok {
				t.Errorf("ReplanTrack of %q, %s, %q: at %s %q", l, at, next, k.Time, there)
			}
		}
		checkTrack(t, got)
	}
	if planned < 200 {
		t.Errorf("only %d planned", planned)
	}
}

// Planning anew what there was leaves every place as it was, behind the time, too.
func TestReplanTrackWithItself(t *testing.T) {
	r := rand.New(rand.NewSource(307))
	for range 60 {
		n := drawnBetween(r, 2, mostKnots-1)
		l := drawnTrack(r, n)
		from := r.Intn(n - 1)
		at := plus(rat(t, l[from].Time), times(minus(rat(t, l[from+1].Time), rat(t, l[from].Time)), big.NewRat(1+r.Int63n(8), 10)))
		got, ok := impl.ReplanTrack(l, textOf(at), l[from+1:])
		if !ok || len(got) != n+1 {
			t.Fatalf("ReplanTrack of %q, %s: %q %v", l, at, got, ok)
		}
		most, _ := impl.TrackMost(l)
		if m, ok := impl.TrackMost(got); m != most || !ok {
			t.Errorf("TrackMost of %q is %q, with a knot more %q", l, most, m)
		}
		for range 10 {
			x := textOf(drawnWithin(r, rat(t, l[0].Time), rat(t, l[n-1].Time)))
			k, push, _ := impl.TrackAt(l, x)
			if k2, push2, ok := impl.TrackAt(got, x); k2 != k || push2 != push || !ok {
				t.Errorf("ReplanTrack of %q, %s with itself: at %s %q %s, was %q %s", l, at, x, k2, push2, k, push)
			}
		}
	}
}
