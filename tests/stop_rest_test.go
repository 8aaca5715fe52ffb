package tests

import (
	"math/rand"
	"slices"
	"testing"

	"loop.example/g00047/impl"
)

// singleFaults are those with which there is to be no torque from the bound on.
var singleFaults = []int{impl.FaultMute, impl.FaultDeafA, impl.FaultDeafB, impl.FaultStuckA, impl.FaultStuckB}

// Any single fault, whenever it begins, and every tick at which the button is first held.
func TestAtRestWithAnySingleFault(t *testing.T) {
	for _, gear := range []string{"0 1 1 1 1", "1 4 2 5 10", "3 7 3 4 10", "0 30 10 1000 1000", "10 30 10 1000 1000", "10 30 10 100 1000", "10 10 10 99 1000", "2 6 5 7 6"} {
		for first := range 60 {
			for _, long := range []int{1, 2, 30} {
				for _, fault := range append(singleFaults, impl.FaultNone) {
					for from := range 70 {
						g := gearOf(gear)
						torques, both, ok := impl.RunStops(g, []impl.Press{{From: first, To: first + long}}, fault, from, 100)
						rest := first + impl.StopBound(g) - 1
						if !ok || slices.Max(torques[rest:]) != 0 || slices.Contains(both[rest:], true) {
							t.Fatalf("RunStops of %+v, held from %d to %d, fault %d from %d on: %v %v %v", g, first, first+long, fault, from, torques, both, ok)
						}
					}
				}
			}
		}
	}
}

// Drawn gears, presses and faults up to every limit; most of them come to rest within the run.
func TestDrawnAtRest(t *testing.T) {
	r := rand.New(rand.NewSource(456))
	rested := map[int]int{}
	for range 20000 {
		h := drawnHalt(r)
		h.fault, h.ticks = singleFaults[r.Intn(len(singleFaults))], lastStopTick
		if h.checkRest(t, h.check(t)) {
			rested[h.fault]++
		}
	}
	for _, fault := range singleFaults {
		if rested[fault] < 1000 {
			t.Errorf("fault %d: only %d came to rest", fault, rested[fault])
		}
	}
}

// With no fault the bound is just met: a tick sooner there is torque yet.
func TestStopBoundsAreMet(t *testing.T) {
	r := rand.New(rand.NewSource(457))
	met := 0
	for range 20000 {
		h := drawnHalt(r)
		h.fault, h.ticks = r.Intn(impl.FaultMute), lastStopTick
		if len(h.presses) == 0 {
			continue
		}
		rest := h.presses[0].From + impl.StopBound(h.g) - 1
		if rest == 0 || rest >= lastStopTick {
			continue
		}
		met++
		if got := h.check(t); got.torques[rest-1] == 0 || got.torques[rest] != 0 {
			t.Fatalf("RunStops of %+v: %v, but the bound is at %d", h, got, rest)
		}
	}
	if met < 5000 {
		t.Error("only so many:", met)
	}
}

// A heart that is mute brings it to rest without a button, Watch ticks behind its last beat.
func TestMuteComesToRest(t *testing.T) {
	for beat := 1; beat <= longestBeat; beat++ {
		for watch := beat; watch <= longestWatch; watch++ {
			for from := range 60 {
				h := halt{impl.Gear{Delay: 5, Watch: watch, Beat: beat, Ramp: 3, Most: 10}, nil, impl.FaultMute, from, 120}
				shut := max(0, from-1)/beat*beat + watch + 1
				got := h.check(t)
				for at := range h.ticks {
					if got.both[at] != (at < shut) || got.torques[at] != max(0, 10-3*max(0, at-shut+1)) {
						t.Fatalf("RunStops of %+v: %v, but it should be shut from %d on", h, got, shut)
					}
				}
			}
		}
	}
}

// The other channel is as good: with a fault of one alone the run is as with none, and what has once stopped never moves again.
func TestWhatStopsStopsForGood(t *testing.T) {
	r := rand.New(rand.NewSource(458))
	for range 3000 {
		h := drawnHalt(r)
		h.fault = impl.FaultNone
		plain := h.check(t)
		for _, fault := range allFaults {
			h.fault = fault
			got := h.check(t)
			if fault != impl.FaultMute && !got.same(plain) {
				t.Fatalf("RunStops of %+v: %v, without a fault %v", h, got, plain)
			}
			for at := 1; at < h.ticks; at++ {
				if got.torques[at] > got.torques[at-1] || got.both[at] && !got.both[at-1] {
					t.Fatalf("RunStops of %+v moves again at %d: %v", h, at, got)
				}
			}
			for at, torque := range got.torques {
				if torque > plain.torques[at] || torque < 0 || torque > h.g.Most || got.both[at] != (torque == h.g.Most) {
					t.Fatalf("RunStops of %+v at %d: %v, without a fault %v", h, at, got, plain)
				}
			}
		}
	}
}

// A heart that beats is never too far back, with Watch just Beat too.
func TestHeartsThatBeatNeverStop(t *testing.T) {
	for beat := 1; beat <= longestBeat; beat++ {
		for watch := beat; watch <= longestWatch; watch++ {
			for _, fault := range allFaults {
				h := halt{impl.Gear{Watch: watch, Beat: beat, Ramp: 1, Most: 9}, nil, fault, lastStopTick, lastStopTick}
				if got := h.check(t); slices.Min(got.torques) != 9 || slices.Contains(got.both, false) {
					t.Fatalf("RunStops of %+v: %v", h, got)
				}
			}
		}
	}
}
