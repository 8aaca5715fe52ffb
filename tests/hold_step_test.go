package tests

import (
	"math"
	"math/rand"
	"testing"

	"loop.example/g00047/impl"
)

// plainLoop is good, and none of its numbers is at an end of what it may be.
var plainLoop = impl.Loop{P: 3, I: 2, D: 5, Scale: 7, Most: 100, Wind: 40, Slew: 9}

func checkGoodLoop(t *testing.T, l impl.Loop, want bool) {
	t.Helper()
	if got := impl.GoodLoop(l); got != want {
		t.Errorf("GoodLoop of %+v: %v", l, got)
	}
	if got := impl.GoodHold(l, impl.Hold{}); got != want {
		t.Errorf("GoodHold of %+v and the zero hold: %v", l, got)
	}
}

// Each number of a loop at the ends of what it may be and one beyond, all others plain, least and greatest.
func TestLoopsAtTheirEnds(t *testing.T) {
	least, most := impl.Loop{Scale: 1, Most: 1}, impl.Loop{P: 1000, I: 1000, D: 1000, Scale: 1000, Most: 1000000, Wind: 1000000, Slew: 1000000}
	checkGoodLoop(t, impl.Loop{}, false)
	for _, l := range []impl.Loop{plainLoop, least, most} {
		checkGoodLoop(t, l, true)
		for place := range 7 {
			lo, hi := leastOfLoop[place], mostOfLoop[place]
			for _, good := range []int{lo, lo + 1, hi - 1, hi} {
				checkGoodLoop(t, loopWith(l, place, good), true)
			}
			for _, wrong := range append([]int{lo - 1, hi + 1, -hi, lo - 2, 1 << 32, -1 << 32}, farInts...) {
				checkGoodLoop(t, loopWith(l, place, wrong), false)
			}
		}
	}
}

func checkGoodHeld(t *testing.T, l impl.Loop, h impl.Hold, want bool) {
	t.Helper()
	if got := impl.GoodHold(l, h); got != want || isHeld(l, h) != want {
		t.Errorf("GoodHold of %+v, %+v: %v, want %v", l, h, got, want)
	}
	checkHeld(t, l, h, 1, 0)
}

func TestHoldsAtTheirEnds(t *testing.T) {
	far := []int{math.MaxInt, math.MinInt, math.MinInt + 1, 1 << 32, -1 << 32}
	for _, most := range []int{1, 2, 100, mostReach} {
		for _, wind := range []int{0, 1, 40, mostReach} {
			l := impl.Loop{P: 1, Scale: 1, Most: most, Wind: wind}
			for _, ends := range [][]int{{0, wind}, {1, most}, {2, 2 * mostReach}} {
				for _, sign := range []int{1, -1} {
					checkGoodHeld(t, l, heldWith(impl.Hold{On: true}, ends[0], sign*ends[1]), true)
					checkGoodHeld(t, l, heldWith(impl.Hold{On: true}, ends[0], sign*(ends[1]+1)), false)
				}
				for _, n := range far {
					checkGoodHeld(t, l, heldWith(impl.Hold{On: true}, ends[0], n), false)
				}
			}
			checkGoodHeld(t, l, impl.Hold{On: true, Sum: wind, Last: 2 * mostReach, Out: most}, true)
			checkGoodHeld(t, l, impl.Hold{On: true, Sum: -wind, Last: -2 * mostReach, Out: -most}, true)
		}
	}
}

// heldWith is a hold whose Sum, Out or Last is another one.
func heldWith(h impl.Hold, place int, n int) impl.Hold {
	*[]*int{&h.Sum, &h.Out, &h.Last}[place] = n
	return h
}

// A hold that is not On is all 0; one that is On may be all 0.
func TestHoldsThatAreNotOn(t *testing.T) {
	for _, l := range []impl.Loop{plainLoop, {Scale: 1, Most: 1}, {Scale: 1, Most: mostReach, Wind: mostReach}} {
		checkGoodHeld(t, l, impl.Hold{}, true)
		checkGoodHeld(t, l, impl.Hold{On: true}, true)
		for place := range 3 {
			for _, n := range []int{1, -1, 2, mostReach, math.MaxInt, math.MinInt} {
				checkGoodHeld(t, l, heldWith(impl.Hold{}, place, n), false)
			}
		}
		checkGoodHeld(t, l, impl.Hold{Sum: 1, Last: 1, Out: 1}, false)
	}
}

// heldStep is one step: of a loop and a hold, by want and seen.
type heldStep struct {
	loop       impl.Loop
	hold       impl.Hold
	want, seen int
	next       impl.Hold
}

func checkHeldStep(t *testing.T, s heldStep) {
	t.Helper()
	if got, ok := impl.HoldStep(s.loop, s.hold, s.want, s.seen); got != s.next || !ok {
		t.Errorf("HoldStep of %+v, %+v, %d, %d: %+v %v, want %+v", s.loop, s.hold, s.want, s.seen, got, ok, s.next)
	}
	checkHeld(t, s.loop, s.hold, s.want, s.seen)
}

func TestStepsOfOneHold(t *testing.T) {
	l := impl.Loop{P: 2, I: 1, D: 3, Scale: 2, Most: 50, Wind: 20}
	for _, s := range []heldStep{
		{l, impl.Hold{}, 6, 2, impl.Hold{On: true, Sum: 4, Last: 4, Out: 6}},                                              // (8 + 4) / 2
		{l, impl.Hold{On: true}, 6, 2, impl.Hold{On: true, Sum: 4, Last: 4, Out: 12}},                                     // (8 + 4 + 12) / 2
		{l, impl.Hold{On: true, Sum: 4, Last: 4, Out: 6}, 6, 5, impl.Hold{On: true, Sum: 5, Last: 1, Out: -1}},            // (2 + 5 - 9) / 2
		{l, impl.Hold{On: true, Sum: 5, Last: 1, Out: -1}, -3, 5, impl.Hold{On: true, Sum: -3, Last: -8, Out: -23}},       // (-16 - 3 - 27) / 2
		{l, impl.Hold{On: true, Sum: 19, Last: 8, Out: 3}, 8, 0, impl.Hold{On: true, Sum: 20, Last: 8, Out: 18}},          // the sum is cut to 20: (16 + 20) / 2
		{l, impl.Hold{On: true, Sum: -19, Last: -8, Out: 3}, -8, 0, impl.Hold{On: true, Sum: -20, Last: -8, Out: -18}},    // and to -20
		{l, impl.Hold{On: true, Sum: 3, Last: 0, Out: 3}, 100, 0, impl.Hold{On: true, Sum: 3, Last: 100, Out: 50}},        // Out is cut, the sum stays
		{l, impl.Hold{On: true, Sum: -3, Last: 0, Out: 3}, 0, 100, impl.Hold{On: true, Sum: -3, Last: -100, Out: -50}},    // and below
		{l, impl.Hold{On: true, Sum: 3, Last: -100, Out: 3}, -1, 0, impl.Hold{On: true, Sum: 2, Last: -1, Out: 50}},       // raw is above Most, but e is below 0
		{l, impl.Hold{On: true, Sum: -3, Last: 100, Out: 3}, 1, 0, impl.Hold{On: true, Sum: -2, Last: 1, Out: -50}},       // and the other way round
		{impl.Loop{Scale: 1, Most: 1}, impl.Hold{}, 5, 0, impl.Hold{On: true, Last: 5}},                                   // a loop that does nothing
		{impl.Loop{I: 1, Scale: 1, Most: 9}, impl.Hold{}, 5, 0, impl.Hold{On: true, Last: 5}},                             // no wind, no sum
		{impl.Loop{P: 1, Scale: 1, Most: 9, Slew: 2}, impl.Hold{}, 5, 0, impl.Hold{On: true, Last: 5, Out: 5}},            // no slew at first
		{impl.Loop{P: 1, Scale: 1, Most: 9, Slew: 2}, impl.Hold{On: true}, 5, 0, impl.Hold{On: true, Last: 5, Out: 2}},    // but then
		{impl.Loop{P: 1, Scale: 1, Most: 9, Slew: 2}, impl.Hold{On: true}, -5, 0, impl.Hold{On: true, Last: -5, Out: -2}}, // both ways
	} {
		checkHeldStep(t, s)
	}
}

// raw just Most, one above, just -Most and one below, e above 0, of 0 and below 0: Sum becomes s or stays.
func TestSumStaysWhereOutIsAtItsLimit(t *testing.T) {
	for _, most := range []int{1, 10, 999, mostReach - 3} {
		// Of I alone the raw is s.
		l := impl.Loop{I: 1, Scale: 1, Most: most, Wind: mostReach}
		for _, raw := range []int{most - 1, most, most + 1, 1 - most, -most, -most - 1} {
			for _, e := range []int{-2, -1, 0, 1, 2} {
				sum := raw - e
				want := impl.Hold{On: true, Sum: raw, Last: e, Out: middle(-most, raw, most)}
				if raw == most+1 && e > 0 || raw == -most-1 && e < 0 {
					want.Sum = sum
				}
				checkHeldStep(t, heldStep{l, impl.Hold{On: true, Sum: sum}, e, 0, want})
				checkHeldStep(t, heldStep{l, impl.Hold{On: true, Sum: sum}, 0, -e, want})
			}
		}
	}
	// Whether raw is beyond Most is asked of the quotient, not of what is divided.
	l := impl.Loop{P: 1, Scale: 10, Most: 5, Wind: mostReach}
	for e, stays := range map[int]bool{59: false, 60: true, -50: false, -51: true} {
		want := impl.Hold{On: true, Sum: 7 + e, Last: e, Out: middle(-5, e, 5)}
		if stays {
			want.Sum = 7
		}
		checkHeldStep(t, heldStep{l, impl.Hold{On: true, Sum: 7}, e, 0, want})
	}
	// It is asked of raw ahead of the slew, which lets Out go only a little way.
	l = impl.Loop{I: 1, Scale: 1, Most: 10, Wind: 100, Slew: 1}
	checkHeldStep(t, heldStep{l, impl.Hold{On: true, Sum: 10}, 1, 0, impl.Hold{On: true, Sum: 10, Last: 1, Out: 1}})
	checkHeldStep(t, heldStep{l, impl.Hold{On: true, Sum: 9}, 1, 0, impl.Hold{On: true, Sum: 10, Last: 1, Out: 1}})
	// At the first step, too.
	l = impl.Loop{P: 1, Scale: 1, Most: 10, Wind: 100}
	checkHeldStep(t, heldStep{l, impl.Hold{}, 11, 0, impl.Hold{On: true, Last: 11, Out: 10}})
	checkHeldStep(t, heldStep{l, impl.Hold{}, 10, 0, impl.Hold{On: true, Sum: 10, Last: 10, Out: 10}})
}

// Quotients of numbers below 0 are down, with and without a rest; others too.
func TestRawIsDown(t *testing.T) {
	for _, c := range [][]int{{7, 2, 3}, {-7, 2, -4}, {-8, 2, -4}, {-1, 1000, -1}, {1, 1000, 0}, {999, 1000, 0}, {1000, 1000, 1}, {-999, 1000, -1}, {-1000, 1000, -1}, {-1001, 1000, -2}, {-5, 1, -5}, {0, 9, 0}, {-9, 10, -1}} {
		sum, scale, raw := c[0], c[1], c[2]
		byP, byI, byD := impl.Loop{P: 1, Scale: scale, Most: mostReach}, impl.Loop{I: 1, Scale: scale, Most: mostReach, Wind: mostReach}, impl.Loop{D: 1, Scale: scale, Most: mostReach}
		checkHeldStep(t, heldStep{byP, impl.Hold{}, sum, 0, impl.Hold{On: true, Last: sum, Out: raw}})
		checkHeldStep(t, heldStep{byI, impl.Hold{}, sum, 0, impl.Hold{On: true, Sum: sum, Last: sum, Out: raw}})
		checkHeldStep(t, heldStep{byI, impl.Hold{On: true, Sum: sum}, 0, 0, impl.Hold{On: true, Sum: sum, Out: raw}})
		checkHeldStep(t, heldStep{byD, impl.Hold{On: true, Last: -sum}, 0, 0, impl.Hold{On: true, Out: raw}})
	}
	// All three are added ahead of the division: 3 halves are 1 and no 0.
	l := impl.Loop{P: 1, I: 1, D: 1, Scale: 2, Most: 10, Wind: 10}
	checkHeldStep(t, heldStep{l, impl.Hold{On: true}, 1, 0, impl.Hold{On: true, Sum: 1, Last: 1, Out: 1}})
	checkHeldStep(t, heldStep{l, impl.Hold{On: true}, -1, 0, impl.Hold{On: true, Sum: -1, Last: -1, Out: -2}})
	for scale := 1; scale <= 20; scale++ {
		for e := -50; e <= 50; e++ {
			checkHeld(t, impl.Loop{P: 1, Scale: scale, Most: 100}, impl.Hold{}, e, 0)
		}
	}
}

// d is 0 where the hold is not On, whatever D is; where it is On it counts from Last, also from one of 0.
func TestNoChangeAtFirst(t *testing.T) {
	for _, d := range []int{0, 1, 2, 1000} {
		l := impl.Loop{D: d, Scale: 1, Most: mostReach}
		for _, e := range []int{-3, -1, 0, 1, 2, 900} {
			checkHeldStep(t, heldStep{l, impl.Hold{}, e, 0, impl.Hold{On: true, Last: e}})
			checkHeldStep(t, heldStep{l, impl.Hold{On: true}, e, 0, impl.Hold{On: true, Last: e, Out: d * e}})
			checkHeldStep(t, heldStep{l, impl.Hold{On: true, Last: e}, e, 0, impl.Hold{On: true, Last: e}})
			checkHeldStep(t, heldStep{l, impl.Hold{On: true, Last: 5}, e, 0, impl.Hold{On: true, Last: e, Out: d * (e - 5)}})
		}
	}
}

// Out is cut to its limits and to what it was less and more Slew; a Slew of 0 is none.
func TestSlew(t *testing.T) {
	for _, slew := range []int{1, 2, 5, 19, 20, 21, mostReach} {
		l := impl.Loop{P: 1, Scale: 1, Most: 10, Slew: slew}
		for was := -10; was <= 10; was++ {
			for e := -25; e <= 25; e++ {
				want := max(-10, min(10, e))
				want = max(was-slew, min(was+slew, want))
				checkHeldStep(t, heldStep{l, impl.Hold{On: true, Out: was}, e, 0, impl.Hold{On: true, Last: e, Out: want}})
			}
		}
	}
	for _, slew := range []int{0, 1, 3} {
		for e := -25; e <= 25; e++ {
			want := max(-10, min(10, e))
			l := impl.Loop{P: 1, Scale: 1, Most: 10, Slew: slew}
			checkHeldStep(t, heldStep{l, impl.Hold{}, e, 0, impl.Hold{On: true, Last: e, Out: want}})
			l.Slew = 0
			checkHeldStep(t, heldStep{l, impl.Hold{On: true, Out: -9}, e, 0, impl.Hold{On: true, Last: e, Out: want}})
		}
	}
}

// want and seen at the ends of what they may be, and one beyond each.
func TestWantsAtTheirEnds(t *testing.T) {
	far := impl.Loop{P: 1000, I: 1000, D: 1000, Scale: 1, Most: mostReach, Wind: mostReach, Slew: mostReach}
	one := impl.Loop{P: 1000, I: 1000, D: 1000, Scale: 1000, Most: mostReach, Wind: mostReach}
	for _, l := range []impl.Loop{far, one, plainLoop} {
		for _, h := range []impl.Hold{{}, {On: true, Sum: l.Wind, Last: 2 * mostReach, Out: l.Most}, {On: true, Sum: -l.Wind, Last: -2 * mostReach, Out: -l.Most}} {
			for _, want := range []int{-mostReach, mostReach, 0, 1 - mostReach} {
				for _, seen := range []int{-mostReach, mostReach, 0, mostReach - 1} {
					if got, ok := impl.HoldStep(l, h, want, seen); !ok || got.Last != want-seen {
						t.Errorf("HoldStep of %+v, %+v, %d, %d: %+v %v", l, h, want, seen, got, ok)
					}
					checkHeld(t, l, h, want, seen)
				}
				for _, wrong := range append([]int{-mostReach - 1, mostReach + 1, 1 << 32, -1 << 32}, farInts...) {
					checkNoHeld(t, l, h, want, wrong)
					checkNoHeld(t, l, h, wrong, want)
					checkNoHeld(t, l, h, wrong, wrong)
				}
			}
		}
	}
}

func checkNoHeld(t *testing.T, l impl.Loop, h impl.Hold, want int, seen int) {
	t.Helper()
	if got, ok := impl.HoldStep(l, h, want, seen); ok || got != (impl.Hold{}) {
		t.Errorf("HoldStep of %+v, %+v, %d, %d: %+v %v", l, h, want, seen, got, ok)
	}
}

// All loops with small numbers, all their holds with small numbers.
func TestSmallSteps(t *testing.T) {
	for n := range 3 * 3 * 3 * 2 * 2 * 2 * 2 {
		l := impl.Loop{P: n % 3, I: n / 3 % 3, D: n / 9 % 3, Scale: 1 + n/27%2, Most: 1 + n/54%2, Wind: n / 108 % 2, Slew: n / 216 % 2}
		holds := []impl.Hold{{}}
		for sum := -l.Wind; sum <= l.Wind; sum++ {
			for out := -l.Most; out <= l.Most; out++ {
				for last := -2; last <= 2; last++ {
					holds = append(holds, impl.Hold{On: true, Sum: sum, Last: last, Out: out})
				}
			}
		}
		for _, h := range holds {
			for e := -3; e <= 3; e++ {
				checkHeld(t, l, h, e, 0)
			}
		}
	}
}

func TestDrawnSteps(t *testing.T) {
	r := rand.New(rand.NewSource(189))
	for range 100000 {
		l := drawnLoop(r, []int{3, 30, 1000, mostReach}[r.Intn(4)])
		h, most := drawnHeld(r, l), []int{3, 30, 1000, mostReach}[r.Intn(4)]
		checkHeld(t, l, h, drawnTo(r, -most, most), drawnTo(r, -most, most))
	}
}
