package tests

import (
	"math/big"
	"math/rand"
	"slices"
	"testing"

	"loop.example/g00047/impl"
)

// odd is a number of 400 digits that neither 2 nor 3 nor 5 divides, and twice it has 401.
func odd() string { return nines(399) + "7" }

// What TrackAt tells has at most 400 digits above and below: the place, the speed and the push, each by itself.
func TestTrackAtOfLongNumbers(t *testing.T) {
	long, tiny := nines(400), "1/"+odd()
	for _, c := range []struct {
		l, time string
		fine    bool
	}{
		// All fits.
		{"0 0 " + long + " | 1 " + long + " " + long, "0", true},
		{"0 0 " + long + " | 1 " + long + " " + long, "1", true},
		{"0 0 " + long + " | 1 " + long + " " + long, "1/2", true},
		{"0 0 " + long + " | 1 " + long + " " + long, "1/" + long, true},
		{"0 0 " + long + " | 1 " + long + " " + long, tenTo(399) + "/" + long, true},
		{"-" + long + " -" + long + " 1 | " + long + " " + long + " 1", "0", true},
		{"-" + long + " -" + long + " 1 | " + long + " " + long + " 1", "-" + long, true},
		{"-" + long + " -" + long + " 1 | " + long + " " + long + " 1", long + "/" + tenTo(399), true},
		{"0 " + long + " 0 | " + long + " " + long + " 0", tiny, true},
		// The place is too long.
		{"0 0 " + tiny + " | 1 " + tiny + " " + tiny, "0", true},
		{"0 0 " + tiny + " | 1 " + tiny + " " + tiny, "1", true},
		{"0 0 " + tiny + " | 1 " + tiny + " " + tiny, "1/2", false},
		{"0 0 " + tiny + " | 1 " + tiny + " " + tiny, "1/7", false},
		{"0 1 1 | 1 2 1", tiny, true},
		{"0 1/2 1 | 1 3/2 1", tiny, false},
		{"0 " + long + " 1 | 9 " + long + " 1", "0", true},
		// The speed is too long: in the middle place and push are 0.
		{"-1 -" + long + " 0 | 1 " + long + " 0", "0", false},
		{"-1 -6" + nines(398) + " 0 | 1 6" + nines(398) + " 0", "0", true},
		// The push is too long, at the knots themselves as well.
		{"0 0 0 | 1 " + long + " 0", "0", false},
		{"0 0 0 | 1 " + long + " 0", "1", false},
		{"0 0 0 | 1 1" + nines(398) + " 0", "0", true},
		{"0 0 0 | 1 1" + nines(398) + " 0", "1", true},
		{"0 0 0 | 2 " + tiny + " 0", "0", false},
		{"0 0 0 | 2 " + tiny + " " + tiny, "1", false},
		// By the piece that is asked: the other one's push may be as long as it likes.
		{"0 0 0 | 1 " + long + " 0 | 2 " + long + " 0", "1", true},
		{"0 0 0 | 1 " + long + " 0 | 2 " + long + " 0", "2", true},
		{"0 0 0 | 1 " + long + " 0 | 2 " + long + " 0", "3/2", true},
		{"0 0 0 | 1 " + long + " 0 | 2 " + long + " 0", "0", false},
		{"0 " + long + " 0 | 1 " + long + " 0 | 2 0 0", "1", false},
		{"0 " + long + " 0 | 1 " + long + " 0 | 2 0 0", "999/1000", true},
	} {
		l := trackOf(c.l)
		for i, k := range l {
			if !isKnot(k) {
				t.Fatalf("knot %d of %.200q", i, l)
			}
		}
		k, push, ok := impl.TrackAt(l, c.time)
		if ok != c.fine || !ok && (k != impl.Knot{} || push != "") {
			t.Errorf("TrackAt of %.300q, %.60s: %.200q %.100q %v", l, c.time, k, push, ok)
		}
		checkTrackAt(t, l, c.time)
	}
}

// The greatest speed, the greatest push and the jerk, each too long by itself; limits are held against them all the same.
func TestTrackMostOfLongNumbers(t *testing.T) {
	tiny := "1/" + odd()
	far := textOf(quotient(plus(rat(t, tenTo(300)), whole(2)), whole(3)))
	for _, c := range []struct {
		l     string
		fine  bool
		keeps string
	}{
		// The speed: its greatest is the square of a number of 300 digits, by nearly twice this number.
		{"0 0 0 | 1 " + far + " 1", false, tenTo(300) + " " + tenTo(302) + " " + tenTo(302)},
		{"0 0 0 | 1 -" + far + " -1", false, tenTo(300) + " " + tenTo(302) + " " + tenTo(302)},
		{"0 0 0 | 1 " + far + " 0", true, tenTo(300) + " " + tenTo(302) + " " + tenTo(302)},
		// The push: half of the tiny speed by the end of the piece.
		{"0 0 0 | 2 " + tiny + " " + tiny, false, "1 1 1"},
		{"0 0 0 | 1 0 0 | 3 " + tiny + " " + tiny, false, "1 1 1"},
		{"0 0 " + tiny + " | 1 " + tiny + " " + tiny, true, "1 0 0"},
		// The jerk: 12 by the cube of the time.
		{"0 0 0 | " + tenTo(140) + " 1 0", false, "1 1 1"},
		{"0 0 0 | " + tenTo(133) + " 1 0", true, "1 1 1"},
		{"0 0 0 | " + tenTo(134) + " 1 0", false, "1 1 1"},
		{"0 0 0 | " + tenTo(134) + " 1000 0", true, "1 1 1"},
		// Too great for any limit.
		{"0 0 0 | 1 " + nines(400) + " 0", false, ""},
		{"0 0 0 | 1/" + tenTo(399) + " 1 0", false, ""},
		{"0 0 0 | 1/" + tenTo(133) + " 1/2 0", true, ""},
		{"0 " + nines(400) + " 0 | 1/" + nines(400) + " " + nines(400) + " 0", true, "0 0 0"},
		{"0 0 " + nines(400) + " | 1 " + nines(400) + " " + nines(400), true, nines(400) + " 0 0"},
	} {
		l := trackOf(c.l)
		if !isTrack(t, l) {
			t.Fatalf("no track: %.200q", l)
		}
		got, ok := impl.TrackMost(l)
		if ok != c.fine || !ok && got != (impl.Limits{}) {
			t.Errorf("TrackMost of %.300q: %.300q %v", l, got, ok)
		}
		checkTrack(t, l)
		all := impl.Limits{Speed: nines(400), Push: nines(400), Jerk: nines(400)}
		checkKeeps(t, l, all)
		if c.keeps != "" && (!impl.TrackKeeps(l, limitsOf(c.keeps)) || !impl.TrackKeeps(l, all) || impl.LeastStretch(l, limitsOf(c.keeps)) != 1) {
			t.Errorf("TrackKeeps of %.300q, %.100s is false", l, c.keeps)
		}
		for _, m := range []impl.Limits{{Speed: "0", Push: "1", Jerk: "1"}, {Speed: "1", Push: "0", Jerk: "1"}, {Speed: "1", Push: "1", Jerk: "0"}} {
			checkKeeps(t, l, m)
		}
	}
}

// A turning point whose place is too long counts only where it is the least or the greatest; the instant itself may be longer than a good fraction.
func TestTrackRangeOfLongNumbers(t *testing.T) {
	long := odd()
	twice := quotient(whole(2), rat(t, long))
	for _, c := range []struct {
		l               string
		least, greatest string
	}{
		{"0 0 1/" + long + " | 1 0 -1/" + long, "", ""},
		{"0 0 4/" + long + " | 1 0 -4/" + long, "0", "1/" + long},
		{"-1 -5 0 | 0 0 1/" + long + " | 1 0 -1/" + long + " | 2 9 0", "-5", "9"},
		{"-1 -5 0 | 0 0 1/" + long + " | 1 0 -1/" + long, "", ""},
		{"0 0 " + nines(400) + " | 4 0 -" + nines(400), "0", nines(400)},
		{"0 0 " + nines(400) + " | 5 0 -" + nines(400), "", ""},
		{"0 0 -" + nines(400) + " | 5 0 " + nines(400), "", ""},
		{"0 -" + nines(400) + " 0 | 1 " + nines(400) + " 0", "-" + nines(400), nines(400)},
		// It turns at 3 / (2 long), of 401 digits below, at the place 1/4.
		{"1/" + long + " 0 " + long + " | " + textOf(twice) + " 0 -" + long, "0", "1/4"},
		{"1/" + long + " 0 -" + long + " | " + textOf(twice) + " 0 " + long, "-1/4", "0"},
	} {
		l := trackOf(c.l)
		if !isTrack(t, l) {
			t.Fatalf("no track: %.200q", l)
		}
		lo, hi, ok := impl.TrackRange(l)
		if lo != c.least || hi != c.greatest || ok != (c.greatest != "") {
			t.Errorf("TrackRange of %.300q: %.60q %.60q %v, want %.60q %.60q", l, lo, hi, ok, c.least, c.greatest)
		}
		checkTrack(t, l)
	}
}

// Times and speeds of what is stretched, each too long by itself.
func TestStretchTrackOfLongNumbers(t *testing.T) {
	long := nines(400)
	for _, c := range []struct {
		l, by string
		fine  bool
	}{
		{"0 0 0 | " + long + " 1 0", "1", true},
		{"0 0 0 | " + long + " 1 0", "2", false},
		{"0 0 0 | " + long + " 1 0", "1/2", true},
		{"0 0 0 | " + long + " 1 0", "1/" + long, true},
		{"0 0 0 | " + long + " 1 0", long, false},
		{"0 0 0 | 4" + nines(399) + " 1 0", "2", true},
		{"-" + long + " 0 0 | " + long + " 1 0", "1", true},
		{"-" + long + " 0 0 | " + long + " 1 0", "3/2", false},
		{"-" + long + " 0 0 | 0 1 0", "2", true},
		{"-" + long + " 0 0 | 0 1 0", "3", false},
		{"0 0 0 | 1/" + odd() + " 1 0", "1/2", false},
		{"0 0 0 | 2/" + odd() + " 1 0", "1/2", true},
		{"0 0 0 | 1 1 " + long, "1", true},
		{"0 0 0 | 1 1 " + long, "1/2", false},
		{"0 0 0 | 1 1 " + long, "2", true},
		{"0 0 " + long + " | 1 1 0", "1/2", false},
		{"0 0 1/" + odd() + " | 1 1 0", "2", false},
		{"0 0 6/" + odd() + " | 1 1 0", "2", true},
		{"0 0 6/" + odd() + " | 1 1 0", "3", true},
		{"0 0 6/" + odd() + " | 1 1 0", "4", false},
		{"0 0 6/" + odd() + " | 1 1 0", "6", true},
		{"0 0 0 | 1 1 0 | 2 1 0 | 3 1 0 | 4 1 0 | 5 1 0 | 6 1 0 | " + long + " 1 0", "2", false},
		{"0 " + long + " 0 | 1 -" + long + " 0", "1/60", true},
		{"0 0 0 | 1 1 0", long, true},
		{"0 0 0 | 1 1 0", "1/" + long, true},
		{"0 0 0 | 10 1 0", long, false},
		{"1 0 0 | 2 1 0", long, false},
		{"1 0 0 | 2 1 0", nines(399), true},
	} {
		l := trackOf(c.l)
		if !isTrack(t, l) {
			t.Fatalf("no track: %.200q", l)
		}
		if got, ok := impl.StretchTrack(l, c.by); ok != c.fine || !ok && len(got) != 0 {
			t.Errorf("StretchTrack of %.300q, %.60s: %.300q %v", l, c.by, got, ok)
		}
		checkStretch(t, l, c.by)
	}
}

// Told by the number that is asked for, and by whether StretchTrack by it can be told.
func TestLeastStretchOfLongTimes(t *testing.T) {
	long := nines(400)
	straight, resting := "0 0 1 | "+long+" "+long+" 1", "0 0 0 | "+long+" "+long+" 0"
	half, early := "0 0 1 | 4"+nines(399)+" 4"+nines(399)+" 1", "-"+long+" 0 1 | 0 "+long+" 1"
	for _, c := range []leastCase{
		{straight, "1 0 0", 1, true}, {straight, "999/1000 0 0", 2, false}, {straight, "1/2 0 0", 2, false}, {straight, "1/3 0 0", 3, false},
		{straight, "1/59 0 0", 59, false}, {straight, "1/60 0 0", 60, false}, {straight, "1/61 0 0", 0, false}, {straight, "0 0 0", 0, false},
		// The greatest speed is 3/2, push and jerk are far below 1.
		{resting, "3/2 1 1", 1, true}, {resting, "1 1 1", 2, false}, {resting, "3/4 1 1", 2, false}, {resting, "1/2 1 1", 3, false},
		{resting, "1/40 1 1", 60, false}, {resting, "1/41 1 1", 0, false}, {resting, "1 0 1", 0, false}, {resting, "1 1 0", 0, false},
		// By 2 it can be told, from 3 on it can't.
		{half, "1/2 0 0", 2, true}, {half, "1/3 0 0", 3, false}, {half, "1/60 0 0", 60, false}, {half, "1/61 0 0", 0, false},
		{early, "1/2 0 0", 2, true}, {early, "1/3 0 0", 3, false}, {early, "1/60 0 0", 60, false}, {early, "1/61 0 0", 0, false},
		// The piece ahead of the long one decides.
		{"0 0 7 | 1 7 7 | " + long + " 7 0", "1 1 1", 7, false}, {"0 0 7 | 1 7 7 | " + long + " 7 0", "1/9 1 1", 0, false},
		// A fraction whose upper number gets too long; its speed is a little above 1.
		{"1/" + odd() + " 0 1 | 1 1 1", "2 1 1", 1, true}, {"1/" + odd() + " 0 1 | 1 1 1", "1 1 1", 2, false}, {"1/" + odd() + " 0 1 | 1 1 1", "1/60 1 1", 0, false},
		// What stands still keeps everything.
		{"0 5 0 | " + long + " 5 0", "0 0 0", 1, true},
	} {
		c.check(t)
	}
}

func TestLeastStretchOfLongSpeeds(t *testing.T) {
	n := rat(t, odd())
	// Limits of above/below by n, a little more, that are short enough to be told.
	over := func(above int64, below int64) string {
		r := quotient(n, big.NewRat(above, below))
		return "1/" + new(big.Int).Quo(r.Num(), r.Denom()).String() + " 0 0"
	}
	six, tiny := "0 0 6/"+odd()+" | 1 6/"+odd()+" 6/"+odd(), "1/"+odd()
	ends := "0 0 " + tiny + " | 1 1 " + tiny
	for _, c := range []leastCase{
		{six, "6/" + odd() + " 0 0", 1, true}, {six, "5/" + odd() + " 0 0", 2, true}, {six, over(29, 10), 3, true}, {six, "2/" + odd() + " 0 0", 3, true},
		{six, over(19, 10), 4, false}, {six, over(16, 10), 4, false}, {six, over(13, 10), 5, false}, {six, over(11, 10), 6, true}, {six, "1/" + odd() + " 0 0", 6, true},
		{six, "1/" + nines(400) + " 0 0", 7, false}, {six, "0 0 0", 0, false},
		// The greatest speed is a little less than 3/2, the push than 6, the jerk than 12.
		{ends, "3/2 6 12", 1, true}, {ends, "1 9 99", 2, false}, {ends, "1/2 9 99", 3, false}, {ends, "1/40 9 99", 60, false}, {ends, "1/41 9 99", 0, false},
		{ends, "9 6/49 99", 7, false}, {ends, "9 1/600 99", 60, false}, {ends, "9 1/601 99", 0, false},
		{ends, "9 9 12/1331", 11, false}, {ends, "9 9 1/18000", 60, false}, {ends, "9 9 1/18001", 0, false},
		{"0 0 1/" + nines(400) + " | 1 1 0", "1 9 99", 2, false}, {"0 0 0 | 1 -1 -1/" + nines(400), "1 9 99", 2, false},
		{"0 0 0 | 1 1 0 | 2 1 1/" + nines(400), "1 9 99", 2, false}, {"0 0 0 | 1 1 0 | 2 1 1/" + nines(400), "1/60 9 99", 0, false},
		// Time and Speed both.
		{"0 0 " + tiny + " | " + nines(400) + " " + nines(400) + " 0", "1 1 1", 2, false},
	} {
		c.check(t)
	}
}

// leastCase is a track, its limits, what LeastStretch is to answer, and whether StretchTrack by that can be told.
type leastCase struct {
	l, m string
	want int
	told bool
}

func (c leastCase) check(t *testing.T) {
	t.Helper()
	l, m := trackOf(c.l), limitsOf(c.m)
	if got := impl.LeastStretch(l, m); got != c.want {
		t.Errorf("LeastStretch of %.300q, %.100q: %d, want %d", l, m, got, c.want)
	}
	checkLeastStretch(t, l, m)
	if _, ok := impl.StretchTrack(l, impl.FracOf(c.want, 1)); ok != c.told {
		t.Errorf("StretchTrack of %.300q by %d: %v", l, c.want, ok)
	}
}

// What TrackAt can't tell can't be planned from.
func TestReplanTrackOfLongNumbers(t *testing.T) {
	long, tiny := nines(400), "1/"+odd()
	for _, c := range []struct {
		l, time, next string
		fine          bool
	}{
		{"0 0 " + long + " | 1 " + long + " " + long, "1/3", long + " -" + long + " " + tiny, true},
		{"0 0 " + long + " | 1 " + long + " " + long, "0", tiny + " -" + long + " " + tiny, true},
		{"0 0 " + tiny + " | 1 " + tiny + " " + tiny, "1", "2 0 0", true},
		{"0 0 " + tiny + " | 1 " + tiny + " " + tiny, "1/2", "2 0 0", false},
		{"-1 -" + long + " 0 | 1 " + long + " 0", "0", "2 0 0", false},
		{"0 0 0 | 1 " + long + " 0", "0", "2 0 0", false},
		{"0 0 0 | 1 " + long + " 0 | 2 " + long + " 0", "1", "2 0 0", true},
		{"0 0 0 | " + tenTo(399) + " 0 0", tenTo(399), long + " 0 0", true},
		{"0 0 0 | " + long + " 0 0", long, long + " 0 0", false},
		{"0 0 0 | 1 0 0", tiny, "2/" + odd() + " 0 0", true},
		{"0 0 0 | 1 0 0", "2/" + odd(), tiny + " 0 0", false},
	} {
		l, next := trackOf(c.l), trackOf(c.next)
		if got, ok := impl.ReplanTrack(l, c.time, next); ok != c.fine || !ok && len(got) != 0 {
			t.Errorf("ReplanTrack of %.200q, %.40s, %.200q: %.300q %v", l, c.time, next, got, ok)
		}
		checkReplan(t, l, c.time, next)
	}
}

// Numbers of drawn lengths: some answers can be told, some can't.
func TestTracksOfDrawnLengths(t *testing.T) {
	r := rand.New(rand.NewSource(308))
	told, tooLong := 0, 0
	for _, digits := range []int{5, 20, 40, 60, 80, 130, 200, 400} {
		for range 6 {
			l := longTrack(r, drawnBetween(r, 2, 3), digits)
			if len(l) < 2 {
				continue
			}
			at := textOf(drawnWithin(r, rat(t, l[0].Time), rat(t, l[len(l)-1].Time)))
			m := impl.Limits{Speed: drawnLength(r, digits), Push: drawnLength(r, digits), Jerk: drawnLength(r, digits)}
			next := []impl.Knot{{Time: impl.AddFrac(l[len(l)-1].Time, "1"), Place: randomFrac(r, digits), Speed: "0"}}
			checkTrack(t, l)
			checkTrackAt(t, l, at)
			checkKeeps(t, l, m)
			checkStretch(t, l, drawnLength(r, digits))
			checkReplan(t, l, at, next)
			if _, ok := impl.TrackMost(l); ok {
				told++
			} else {
				tooLong++
			}
		}
	}
	if told < 10 || tooLong < 10 {
		t.Errorf("%d told, %d too long", told, tooLong)
	}
}

// The longest numbers everywhere: every function ends soon.
func TestTracksOfTheLongestNumbers(t *testing.T) {
	r := rand.New(rand.NewSource(309))
	at := []string{}
	for range mostKnots {
		at = append(at, longFrac(r))
	}
	slices.SortFunc(at, func(a string, b string) int { return rat(t, a).Cmp(rat(t, b)) })
	l := []impl.Knot{}
	for _, time := range at {
		l = append(l, impl.Knot{Time: time, Place: longFrac(r), Speed: longFrac(r)})
	}
	all := impl.Limits{Speed: nines(400), Push: nines(400), Jerk: nines(400)}
	checkTrack(t, l)
	checkTrackAt(t, l, at[3])
	checkKeeps(t, l, all)
	checkStretch(t, l, longLength(r))
	checkStretch(t, l, "1")
	checkReplan(t, l, at[3], l[4:])
	if impl.LeastStretch(l, all) != 1 || impl.LeastStretch(l, limitsOf("0 0 0")) != 0 {
		t.Error("LeastStretch of the longest numbers")
	}
}
