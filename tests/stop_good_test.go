package tests

import (
	"testing"

	"loop.example/g00047/impl"
)

func TestGoodGears(t *testing.T) {
	for _, c := range []struct {
		gear string
		good bool
	}{
		// The least of everything, and the greatest.
		{"0 1 1 1 1", true}, {"10 30 10 1000 1000", true}, {"1 4 2 5 10", true},
		// Delay.
		{"-1 4 2 5 10", false}, {"0 4 2 5 10", true}, {"10 4 2 5 10", true}, {"11 4 2 5 10", false},
		// Beat, and Watch just Beat, one less, one more.
		{"1 4 0 5 10", false}, {"1 0 0 5 10", false}, {"1 1 1 5 10", true}, {"1 0 1 5 10", false}, {"1 2 2 5 10", true}, {"1 1 2 5 10", false}, {"1 3 2 5 10", true}, {"1 10 10 5 10", true}, {"1 9 10 5 10", false}, {"1 30 11 5 10", false}, {"1 11 11 5 10", false}, {"1 4 -1 5 10", false},
		// Watch.
		{"1 30 2 5 10", true}, {"1 31 2 5 10", false}, {"1 30 1 5 10", true}, {"1 31 10 5 10", false}, {"1 -1 1 5 10", false},
		// Ramp.
		{"1 4 2 0 10", false}, {"1 4 2 1 10", true}, {"1 4 2 1000 10", true}, {"1 4 2 1001 10", false}, {"1 4 2 -1 10", false},
		// Most.
		{"1 4 2 5 0", false}, {"1 4 2 5 1", true}, {"1 4 2 5 1000", true}, {"1 4 2 5 1001", false}, {"1 4 2 5 -1", false},
		{"0 0 0 0 0", false},
	} {
		g := gearOf(c.gear)
		if got := checkGear(t, g); got != c.good {
			t.Errorf("GoodGear of %+v: %v", g, got)
		}
		if bound := checkBound(t, g); c.good != (bound > 0) {
			t.Errorf("StopBound of %+v: %d", g, bound)
		}
		if _, _, ok := impl.RunStops(g, nil, impl.FaultNone, 0, 3); ok != c.good {
			t.Errorf("RunStops of %+v: %v", g, ok)
		}
	}
}

// All numbers a little beyond their limits.
func TestAllGears(t *testing.T) {
	good, torques := 0, []int{-1, 0, 1, 2, 999, 1000, 1001}
	for delay := -1; delay <= longestDelay+1; delay++ {
		for beat := -1; beat <= longestBeat+1; beat++ {
			for watch := -1; watch <= longestWatch+1; watch++ {
				for _, ramp := range torques {
					for _, most := range torques {
						g := impl.Gear{Delay: delay, Watch: watch, Beat: beat, Ramp: ramp, Most: most}
						if checkGear(t, g) {
							good++
						}
						checkBound(t, g)
					}
				}
			}
		}
	}
	// A Beat of n leaves 31 - n numbers for Watch: 30 and 29 down to 21 are 255.
	if good != 11*255*4*4 {
		t.Error("good ones:", good)
	}
}

func TestStopBounds(t *testing.T) {
	for _, c := range []struct {
		gear  string
		bound int
	}{
		{"1 4 2 5 10", 3}, {"0 1 1 1 1", 1}, {"10 30 10 1000 1000", 11}, {"10 30 10 1 1000", 1010}, {"10 1 1 1000 1", 11},
		// Most a multiple of Ramp, one more and one less.
		{"0 4 2 5 10", 2}, {"0 4 2 5 11", 3}, {"0 4 2 5 9", 2}, {"0 4 2 5 5", 1}, {"0 4 2 5 6", 2}, {"0 4 2 5 4", 1}, {"0 4 2 7 700", 100}, {"0 4 2 7 701", 101}, {"0 4 2 7 699", 100}, {"0 4 2 999 1000", 2}, {"0 4 2 1000 999", 1},
		// Ramp 1, and above Most.
		{"0 4 2 1 10", 10}, {"0 4 2 11 10", 1}, {"3 4 2 1000 10", 4},
		// Not good.
		{"-1 4 2 5 10", 0}, {"11 4 2 5 10", 0}, {"1 1 2 5 10", 0}, {"1 31 2 5 10", 0}, {"1 4 0 5 10", 0}, {"1 30 11 5 10", 0}, {"1 4 2 0 10", 0}, {"1 4 2 1001 10", 0}, {"1 4 2 5 0", 0}, {"1 4 2 5 1001", 0}, {"0 0 0 0 0", 0},
	} {
		if got := checkBound(t, gearOf(c.gear)); got != c.bound {
			t.Errorf("StopBound of %q: %d, want %d", c.gear, got, c.bound)
		}
	}
	for ramp := 1; ramp <= mostTorque; ramp++ {
		for most := 1; most <= mostTorque; most++ {
			checkBound(t, impl.Gear{Delay: (ramp + most) % 11, Watch: 9, Beat: 3, Ramp: ramp, Most: most})
		}
	}
}

func TestGoodPresses(t *testing.T) {
	for _, c := range []struct {
		presses string
		good    bool
	}{
		{"", true}, {"0..1", true}, {"0..200", true}, {"199..200", true},
		// None, 6 and 7.
		{"0..1 2..3 4..5 6..7 8..9 10..11", true}, {"0..1 2..3 4..5 6..7 8..9 10..11 12..13", false},
		// The ends.
		{"-1..1", false}, {"-1..0", false}, {"0..201", false}, {"199..201", false}, {"200..201", false}, {"200..200", false},
		// From as To, and above it.
		{"5..5", false}, {"0..0", false}, {"6..5", false}, {"5..6", true},
		// From as the To ahead, one above it, and below it.
		{"1..3 3..5", false}, {"1..3 4..5", true}, {"1..3 2..5", false}, {"4..5 1..3", false}, {"1..3 1..3", false}, {"1..3 5..7 7..9", false}, {"1..3 5..7 8..9", true},
		// Wherever it stands.
		{"0..1 2..3 4..5 6..7 8..9 10..10", false}, {"0..1 2..3 4..5 6..7 8..9 9..11", false}, {"0..1 2..3 4..5 6..7 8..9 10..201", false}, {"0..0 2..3 4..5 6..7 8..9 10..11", false}, {"0..1 2..3 4..5 5..7 8..9 10..11", false},
	} {
		l := pressesOf(c.presses)
		if arePresses(l) != c.good {
			t.Fatalf("the test's own word of %v: %v", l, !c.good)
		}
		h := halt{gearOf("1 4 2 5 10"), l, impl.FaultNone, 0, 30}
		h.check(t)
		if _, _, ok := impl.RunStops(h.g, l, h.fault, h.from, h.ticks); ok != c.good {
			t.Errorf("RunStops of %v: %v", l, ok)
		}
	}
}

// All pairs of presses round the edges.
func TestAllPairsOfPresses(t *testing.T) {
	edges := []int{-1, 0, 1, 2, 3, 100, 198, 199, 200, 201}
	good := 0
	for _, a := range edges {
		for _, b := range edges {
			for _, c := range edges {
				for _, d := range edges {
					h := halt{gearOf("2 4 2 5 10"), []impl.Press{{From: a, To: b}, {From: c, To: d}}, impl.FaultNone, 0, 5}
					if h.check(t); h.good() {
						good++
					}
				}
			}
		}
	}
	// Each four of the eight numbers in 0..200 are two presses.
	if good != 70 {
		t.Error("good ones:", good)
	}
}
