package tests

import (
	"math/rand"
	"slices"
	"strings"
	"testing"

	"loop.example/g00047/impl"
)

const (
	mostCharge     = 10000
	lastChargeTick = 200
)

// chargeOf has the numbers in the order Level, Use, Gain, Full.
func chargeOf(s string) impl.Charge {
	n := listOf(s)
	return impl.Charge{Level: n[0], Use: n[1], Gain: n[2], Full: n[3]}
}

// dutiesOf has a w for each tick at which it works, a c for each at which it charges.
func dutiesOf(s string) []bool {
	l := []bool{}
	for _, one := range strings.TrimSpace(s) {
		l = append(l, one == 'w')
	}
	return l
}

func isCharge(c impl.Charge) bool {
	return isAmong(c.Full-1, mostCharge) && isAmong(c.Level, c.Full+1) && isAmong(c.Use-1, c.Full) && isAmong(c.Gain-1, c.Full)
}

// exactDuties goes from spell to spell: it works as long as there is enough, then it charges until it is full, or nearly so, and may work again.
func exactDuties(c impl.Charge, ticks int) ([]bool, bool) {
	if !isCharge(c) || !isAmong(ticks, lastChargeTick+1) {
		return nil, false
	}
	l, level := []bool{}, c.Level
	for len(l) < ticks {
		for ; level >= c.Use; level -= c.Use {
			l = append(l, true)
		}
		for ready := false; !ready; ready = level >= c.Use && level+c.Gain > c.Full {
			l = append(l, false)
			level = min(level+c.Gain, c.Full)
		}
	}
	return l[:ticks], true
}

// checkCharge asks ChargePlan of anything.
func checkCharge(t *testing.T, c impl.Charge, ticks int) ([]bool, bool) {
	t.Helper()
	got, ok := impl.ChargePlan(c, ticks)
	if want, good := exactDuties(c, ticks); !slices.Equal(got, want) || ok != good {
		t.Fatalf("ChargePlan of %+v, %d: %v %v, want %v %v", c, ticks, got, ok, want, good)
	}
	return got, ok
}

// checkDuties holds a plan against each word, tick by tick.
func checkDuties(t *testing.T, c impl.Charge, plan []bool) {
	t.Helper()
	level := c.Level
	for tick, works := range plan {
		enough, charged := level >= c.Use, tick > 0 && !plan[tick-1]
		if works && (!enough || charged && level+c.Gain <= c.Full) {
			t.Fatalf("ChargePlan of %+v: %v: it works at %d with %d", c, plan, tick, level)
		}
		if !works && enough && (!charged || level+c.Gain > c.Full) {
			t.Fatalf("ChargePlan of %+v: %v: it charges at %d with %d", c, plan, tick, level)
		}
		if works {
			level -= c.Use
		} else {
			level = min(level+c.Gain, c.Full)
		}
		if level < 0 || level > c.Full {
			t.Fatalf("ChargePlan of %+v: %v: it has %d behind %d", c, plan, level, tick)
		}
	}
}

func drawnCharge(r *rand.Rand) impl.Charge {
	full := 1 + r.Intn([]int{5, 20, 300, mostCharge}[r.Intn(4)])
	part := []int{full, 1 + full/4, 1 + full/20}
	return impl.Charge{Level: r.Intn(full + 1), Use: 1 + r.Intn(min(full, part[r.Intn(3)])), Gain: 1 + r.Intn(min(full, part[r.Intn(3)])), Full: full}
}

func TestChargePlan(t *testing.T) {
	for _, c := range []struct {
		charge string
		plan   string
	}{
		{"3 2 3 10", "wcccwwwwwc"}, {"10 2 3 10", "wwwwwcccww"}, {"0 2 3 10", "cccwwwwccc"},
		// No tick, and one.
		{"3 2 3 10", ""}, {"3 2 3 10", "w"}, {"1 2 3 10", "c"},
		// Level at Use and one less: at first it works though it is not full.
		{"2 2 3 10", "wcccww"}, {"1 2 3 10", "cccw"}, {"3 2 3 10", "wcccw"}, {"4 2 3 10", "wwcccw"},
		// It charged, and Level + Gain is at Full: it goes on; one above: it works.
		{"0 1 4 8", "ccwwwwwwwwc"}, {"0 1 4 7", "cwwwwcwwwwc"}, {"0 1 4 9", "ccwwwwwwwwc"}, {"3 4 3 9", "ccwwccw"}, {"3 4 3 8", "cwccw"}, {"3 4 3 10", "ccwwccc"}, {"3 4 3 11", "ccwwcccw"},
		// Nearly full is not enough where it is below Use.
		{"0 8 5 9", "ccwccwc"}, {"0 9 5 9", "ccwccw"}, {"0 5 5 9", "cwcwcw"},
		// Gain leads beyond Full: it has Full.
		{"0 3 7 8", "cwwcwwc"}, {"7 8 8 8", "cwcwcw"}, {"9 10 3 10", "cwccccw"},
		// Use of Full.
		{"10 10 1 10", "wccccccccccwcccccccccc"}, {"10 10 10 10", "wcwcwc"}, {"9 10 10 10", "cwcwcw"}, {"0 10 5 10", "ccwccw"}, {"5 10 9 10", "cwccw"}, {"10 10 9 10", "wccwcc"},
		// Full 1.
		{"0 1 1 1", "cwcwcwc"}, {"1 1 1 1", "wcwcwcw"},
		// One tick of charging is all it needs.
		{"6 1 6 6", "wwwwwwcwwwwwwcw"},
	} {
		charge, want := chargeOf(c.charge), dutiesOf(c.plan)
		got, ok := checkCharge(t, charge, len(want))
		if !ok || !slices.Equal(got, want) {
			t.Errorf("ChargePlan of %q: %v %v, want %q", c.charge, got, ok, c.plan)
		}
		checkDuties(t, charge, got)
	}
}

func TestGoodCharges(t *testing.T) {
	for _, c := range []struct {
		charge string
		ticks  int
		good   bool
	}{
		{"3 2 3 10", 5, true},
		// Ticks.
		{"3 2 3 10", -1, false}, {"3 2 3 10", 0, true}, {"3 2 3 10", 200, true}, {"3 2 3 10", 201, false},
		// Full.
		{"0 1 1 0", 5, false}, {"0 0 0 0", 5, false}, {"0 1 1 1", 5, true}, {"3 2 3 10000", 5, true}, {"3 2 3 10001", 5, false}, {"10000 10000 10000 10000", 200, true}, {"10001 10001 10001 10001", 5, false}, {"3 2 3 -1", 5, false},
		// Level.
		{"-1 2 3 10", 5, false}, {"0 2 3 10", 5, true}, {"10 2 3 10", 5, true}, {"11 2 3 10", 5, false},
		// Use.
		{"3 0 3 10", 5, false}, {"3 1 3 10", 5, true}, {"3 10 3 10", 5, true}, {"3 11 3 10", 5, false}, {"3 -1 3 10", 5, false},
		// Gain.
		{"3 2 0 10", 5, false}, {"3 2 1 10", 5, true}, {"3 2 10 10", 5, true}, {"3 2 11 10", 5, false}, {"3 2 -1 10", 5, false},
		// Also where nothing is to be done.
		{"-1 2 3 10", 0, false}, {"3 0 3 10", 0, false}, {"3 2 0 10", 0, false}, {"3 2 3 10001", 0, false},
	} {
		got, ok := checkCharge(t, chargeOf(c.charge), c.ticks)
		if ok != c.good || ok && len(got) != c.ticks || !ok && len(got) != 0 {
			t.Errorf("ChargePlan of %q, %d: %v %v", c.charge, c.ticks, got, ok)
		}
	}
}

// All numbers a little beyond their limits, and small.
func TestAllCharges(t *testing.T) {
	good := 0
	for full := -1; full <= 6; full++ {
		for level := -1; level <= full+1; level++ {
			for use := -1; use <= full+1; use++ {
				for gain := -1; gain <= full+1; gain++ {
					c := impl.Charge{Level: level, Use: use, Gain: gain, Full: full}
					for _, ticks := range []int{-1, 0, 1, 2, 7, 30} {
						plan, ok := checkCharge(t, c, ticks)
						if ok && ticks == 7 {
							good++
						}
						checkDuties(t, c, plan)
					}
				}
			}
		}
	}
	// For each Full so many Levels and one more, so many Uses and so many Gains.
	if good != 2*1+3*4+4*9+5*16+6*25+7*36 {
		t.Error("good ones:", good)
	}
}

// All robots of a Full up to 12, as long as may be; each shorter plan is the beginning of a longer one.
func TestAllSmallCharges(t *testing.T) {
	for full := 1; full <= 12; full++ {
		for level := range full + 1 {
			for use := 1; use <= full; use++ {
				for gain := 1; gain <= full; gain++ {
					c := impl.Charge{Level: level, Use: use, Gain: gain, Full: full}
					plan, _ := checkCharge(t, c, lastChargeTick)
					checkDuties(t, c, plan)
					for _, ticks := range []int{level, 50} {
						if short, ok := impl.ChargePlan(c, ticks); !ok || !slices.Equal(short, plan[:ticks]) {
							t.Fatalf("ChargePlan of %+v, %d: %v %v, but for longer %v", c, ticks, short, ok, plan)
						}
					}
				}
			}
		}
	}
}

func TestDrawnCharges(t *testing.T) {
	r := rand.New(rand.NewSource(491))
	both := 0
	for range 20000 {
		c, ticks := drawnCharge(r), r.Intn(lastChargeTick+1)
		plan, ok := checkCharge(t, c, ticks)
		if !ok || len(plan) != ticks {
			t.Fatalf("ChargePlan of %+v, %d: %v %v", c, ticks, plan, ok)
		}
		checkDuties(t, c, plan)
		if slices.Contains(plan, true) && slices.Contains(plan, false) {
			both++
		}
	}
	if both < 5000 {
		t.Error("it works and charges only so often:", both)
	}
}

// The greatest robots.
func TestGreatCharges(t *testing.T) {
	sizes := []int{1, 2, 49, 50, 51, 99, 100, 101, 4999, 5000, 5001, 9999, 10000}
	for _, full := range []int{9999, 10000} {
		for _, level := range append([]int{0}, sizes...) {
			for _, use := range sizes {
				for _, gain := range sizes {
					c := impl.Charge{Level: level, Use: use, Gain: gain, Full: full}
					plan, _ := checkCharge(t, c, lastChargeTick)
					checkDuties(t, c, plan)
				}
			}
		}
	}
}
