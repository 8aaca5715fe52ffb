package tests

import (
	"math/rand"
	"slices"
	"testing"

	"loop.example/g00047/impl"
)

// restedOf has the torques, and tells from which tick on not both channels let them through.
func restedOf(torques string, shut int) rested {
	all := rested{torques: listOf(torques)}
	for at := range all.torques {
		all.both = append(all.both, at < shut)
	}
	return all
}

func TestStopsByHand(t *testing.T) {
	const never = 1000
	for _, c := range []struct {
		gear, presses      string
		fault, from, ticks int
		torques            string
		shut               int
	}{
		// The least of everything.
		{"0 1 1 1 1", "", impl.FaultNone, 0, 0, "", never}, {"0 1 1 1 1", "", impl.FaultNone, 0, 1, "1", never}, {"0 1 1 1 1", "0..1", impl.FaultNone, 0, 0, "", 0}, {"0 1 1 1 1", "0..1", impl.FaultNone, 0, 1, "0", 0}, {"0 1 1 1 1", "0..1", impl.FaultNone, 0, 3, "0 0 0", 0}, {"0 1 1 1 1", "1..2", impl.FaultNone, 0, 3, "1 0 0", 1},
		// Seen just Delay ticks later, also a button that was let go at once or long ago.
		{"0 4 2 5 10", "3..4", impl.FaultNone, 0, 7, "10 10 10 5 0 0 0", 3}, {"1 4 2 5 10", "3..4", impl.FaultNone, 0, 7, "10 10 10 10 5 0 0", 4}, {"2 4 2 5 10", "3..4", impl.FaultNone, 0, 7, "10 10 10 10 10 5 0", 5}, {"4 4 2 5 10", "3..7", impl.FaultNone, 0, 8, "10 10 10 10 10 10 10 5", 7}, {"5 4 2 5 10", "3..7", impl.FaultNone, 0, 8, "10 10 10 10 10 10 10 10", never},
		// Held at 0, and nothing ahead of it.
		{"3 4 2 5 10", "0..1", impl.FaultNone, 0, 6, "10 10 10 5 0 0", 3}, {"10 4 2 5 10", "0..1", impl.FaultNone, 0, 10, "10 10 10 10 10 10 10 10 10 10", never}, {"10 4 2 5 10", "0..1", impl.FaultNone, 0, 11, "10 10 10 10 10 10 10 10 10 10 5", 10},
		// A press that begins where the run ends is not met.
		{"0 4 2 5 10", "4..5", impl.FaultNone, 0, 4, "10 10 10 10", never}, {"0 4 2 5 10", "4..5", impl.FaultNone, 0, 5, "10 10 10 10 5", 4},
		// Let go, and pressed again: nothing more.
		{"0 4 2 1 5", "1..2 3..4 6..9", impl.FaultNone, 0, 9, "5 4 3 2 1 0 0 0 0", 1},
		// At 0 at least: Ramp does not go up in Most, or is above it.
		{"0 4 2 3 10", "1..2", impl.FaultNone, 0, 7, "10 7 4 1 0 0 0", 1}, {"0 4 2 11 10", "1..2", impl.FaultNone, 0, 4, "10 0 0 0", 1}, {"0 4 2 1000 1", "1..2", impl.FaultNone, 0, 4, "1 0 0 0", 1}, {"0 4 2 1000 1000", "1..2", impl.FaultNone, 0, 4, "1000 0 0 0", 1}, {"0 4 2 400 1000", "1..2", impl.FaultNone, 0, 5, "1000 600 200 0 0", 1},
		// A deaf channel: the other one stops; also where it had seen the button, or would see it only then.
		{"1 4 2 5 10", "3..4", impl.FaultDeafA, 0, 7, "10 10 10 10 5 0 0", 4}, {"1 4 2 5 10", "3..4", impl.FaultDeafB, 0, 7, "10 10 10 10 5 0 0", 4}, {"1 4 2 1 3", "2..3", impl.FaultDeafA, 5, 9, "3 3 3 2 1 0 0 0 0", 3}, {"1 4 2 1 3", "2..3", impl.FaultDeafB, 4, 9, "3 3 3 2 1 0 0 0 0", 3}, {"2 4 2 1 3", "2..3", impl.FaultDeafB, 3, 9, "3 3 3 3 2 1 0 0 0", 4},
		// A stuck channel: the other one stops; also where it had been shut, and lets through again.
		{"1 4 2 5 10", "3..4", impl.FaultStuckA, 0, 8, "10 10 10 10 5 0 0 0", 4}, {"1 4 2 5 10", "3..4", impl.FaultStuckB, 0, 8, "10 10 10 10 5 0 0 0", 4}, {"0 4 2 1 5", "1..2", impl.FaultStuckA, 3, 8, "5 4 3 2 1 0 0 0", 1}, {"0 4 2 1 5", "1..2", impl.FaultStuckB, 3, 8, "5 4 3 2 1 0 0 0", 1}, {"0 4 2 1 5", "1..2", impl.FaultStuckB, 1, 8, "5 4 3 2 1 0 0 0", 1},
		// Faults without a press do nothing by themselves.
		{"0 4 2 5 10", "", impl.FaultStuckA, 0, 4, "10 10 10 10", never}, {"0 4 2 5 10", "", impl.FaultDeafB, 0, 4, "10 10 10 10", never}, {"0 1 1 5 10", "", impl.FaultNone, 0, 4, "10 10 10 10", never},
		// Mute from 0 on: the tick 0 counts as the last beat, all the same with a Beat of 1.
		{"0 2 2 5 10", "", impl.FaultMute, 0, 6, "10 10 10 5 0 0", 3}, {"0 3 2 5 10", "", impl.FaultMute, 0, 6, "10 10 10 10 5 0", 4}, {"0 1 1 5 10", "", impl.FaultMute, 0, 4, "10 10 5 0", 2}, {"0 1 1 5 10", "", impl.FaultMute, 1, 4, "10 10 5 0", 2}, {"0 1 1 5 10", "", impl.FaultMute, 2, 5, "10 10 10 5 0", 3},
		// From a multiple of Beat on: that beat is missing. From the tick behind it on: it was the last one.
		{"0 3 3 5 10", "", impl.FaultMute, 3, 8, "10 10 10 10 5 0 0 0", 4}, {"0 3 3 5 10", "", impl.FaultMute, 4, 9, "10 10 10 10 10 10 10 5 0", 7}, {"0 3 3 5 10", "", impl.FaultMute, 6, 9, "10 10 10 10 10 10 10 5 0", 7}, {"0 3 3 5 10", "", impl.FaultMute, 5, 9, "10 10 10 10 10 10 10 5 0", 7}, {"0 3 3 5 10", "", impl.FaultMute, 7, 11, "10 10 10 10 10 10 10 10 10 10 5", 10},
		// Just Watch ticks ago, and one more.
		{"0 5 3 5 10", "", impl.FaultMute, 1, 6, "10 10 10 10 10 10", never}, {"0 5 3 5 10", "", impl.FaultMute, 1, 7, "10 10 10 10 10 10 5", 6}, {"0 5 3 5 10", "", impl.FaultMute, 3, 7, "10 10 10 10 10 10 5", 6}, {"0 5 3 5 10", "", impl.FaultMute, 4, 10, "10 10 10 10 10 10 10 10 10 5", 9},
		// The heart and the button: whichever has cause first. Delay is not for the heart.
		{"2 2 2 5 10", "0..1", impl.FaultMute, 0, 5, "10 10 5 0 0", 2}, {"4 2 2 5 10", "0..1", impl.FaultMute, 0, 5, "10 10 10 5 0", 3}, {"10 2 2 5 10", "", impl.FaultMute, 0, 5, "10 10 10 5 0", 3},
	} {
		h := halt{gearOf(c.gear), pressesOf(c.presses), c.fault, c.from, c.ticks}
		if got := h.check(t); !got.same(restedOf(c.torques, c.shut)) {
			t.Errorf("RunStops of %+v: %v, want %q, shut from %d on", h, got, c.torques, c.shut)
		}
		h.checkRest(t, h.check(t))
	}
}

// The greatest numbers of everything, at their limits and one beyond.
func TestTheLongestStops(t *testing.T) {
	six := pressesOf("0..1 2..3 40..90 92..93 150..180 198..200")
	for _, gear := range []string{"10 30 10 1000 1000", "10 30 10 1 1000", "10 30 1 7 1000", "0 30 10 5 1000", "10 10 10 1000 1", "0 1 1 1 1"} {
		for _, l := range [][]impl.Press{nil, six, six[1:], six[2:], six[5:], append(slices.Clone(six[:5]), pressesOf("198..199 200..201")...), pressesOf("199..200"), pressesOf("0..200")} {
			for fault := -1; fault <= 6; fault++ {
				for _, from := range []int{-1, 0, 1, 10, 99, 100, 199, 200, 201} {
					for _, ticks := range []int{-1, 0, 1, 199, 200, 201} {
						halt{gearOf(gear), l, fault, from, ticks}.check(t)
					}
				}
			}
		}
	}
	// The last press of all, seen at the last tick of all, and one behind it.
	for delay, torque := range map[int]int{0: 600, 1: 1000} {
		h := halt{gearOf("0 30 10 400 1000"), pressesOf("199..200"), impl.FaultStuckB, 200, 200}
		h.g.Delay = delay
		if got := h.check(t); len(got.torques) != 200 || len(got.both) != 200 || got.torques[199] != torque || got.both[199] != (torque == 1000) || got.torques[198] != 1000 {
			t.Errorf("RunStops of %+v: %v", h, got)
		}
	}
	// A heart that stops at the last ticks of all.
	for from, torque := range map[int]int{180: 600, 181: 1000, 200: 1000} {
		h := halt{gearOf("0 28 10 400 1000"), nil, impl.FaultMute, from, 200}
		if got := h.check(t); got.torques[199] != torque {
			t.Errorf("RunStops of %+v: %v", h, got)
		}
	}
}

// All small gears, presses, faults and beginnings of these.
func TestAllSmallStops(t *testing.T) {
	lists := smallPresses(4)
	for delay := range 3 {
		for beat := 1; beat <= 3; beat++ {
			for watch := beat; watch <= 4; watch++ {
				for _, torque := range [][2]int{{1, 1}, {1, 3}, {2, 3}, {4, 3}} {
					g := impl.Gear{Delay: delay, Watch: watch, Beat: beat, Ramp: torque[0], Most: torque[1]}
					for _, l := range lists {
						for _, fault := range allFaults {
							for from := range 6 {
								h := halt{g, l, fault, from, 11}
								h.checkRest(t, h.check(t))
							}
						}
					}
				}
			}
		}
	}
}

// Drawn ones up to every limit.
func TestDrawnStops(t *testing.T) {
	r := rand.New(rand.NewSource(454))
	seen := map[string]int{}
	for range 30000 {
		h := drawnHalt(r)
		if !h.good() {
			t.Fatalf("%+v is not good", h)
		}
		got := h.check(t)
		h.checkRest(t, got)
		switch last := got.torques[h.ticks-1]; last {
		case 0:
			seen["at rest"]++
		case h.g.Most:
			seen["at most"]++
		default:
			seen["between"]++
		}
	}
	for _, how := range []string{"at rest", "at most", "between"} {
		if seen[how] < 500 {
			t.Error(seen)
		}
	}
}

// Fewer ticks are the beginning of more.
func TestStopsGoOn(t *testing.T) {
	r := rand.New(rand.NewSource(455))
	for range 100 {
		h := drawnHalt(r)
		h.ticks = lastStopTick
		all := h.check(t)
		for h.ticks = range lastStopTick {
			if got := h.check(t); !got.same(rested{all.torques[:h.ticks], all.both[:h.ticks]}) {
				t.Fatalf("RunStops of %+v: %v, with more ticks %v", h, got, all)
			}
		}
	}
}
