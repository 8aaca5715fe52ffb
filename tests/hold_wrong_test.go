package tests

import (
	"math"
	"math/rand"
	"slices"
	"sync"
	"testing"

	"loop.example/g00047/impl"
)

// wrongReaches are numbers that are no wants.
var wrongReaches = append([]int{mostReach + 1, -mostReach - 1, 2 * mostReach, 1 << 32, -1 << 32}, farInts...)

// wrongLoops are loops that are not good, each by one of its numbers, and the zero loop.
func wrongLoops() []impl.Loop {
	loops := []impl.Loop{{}}
	for place := range 7 {
		for _, n := range append([]int{leastOfLoop[place] - 1, mostOfLoop[place] + 1}, farInts...) {
			loops = append(loops, loopWith(plainLoop, place, n))
		}
	}
	return loops
}

// wrongHolds are holds that are not good for the loop, each by one of its numbers.
func wrongHolds(l impl.Loop) []impl.Hold {
	holds := []impl.Hold{{Sum: 1}, {Last: 1}, {Out: 1}, {Sum: -1, Last: -1, Out: -1}}
	for place, most := range []int{l.Wind, l.Most, 2 * mostReach} {
		for _, n := range append([]int{most + 1, -most - 1}, farInts...) {
			holds = append(holds, heldWith(impl.Hold{On: true, Sum: 1, Last: 1, Out: 1}, place, n))
		}
	}
	return holds
}

func checkNoHeldRun(t *testing.T, l impl.Loop, h impl.Hold, want []int, seen []int) {
	t.Helper()
	if outs, end, ok := impl.RunHold(l, h, want, seen); len(outs) != 0 || end != (impl.Hold{}) || ok {
		t.Errorf("RunHold of %+v, %+v, %v, %v: %v %+v %v", l, h, want, seen, outs, end, ok)
	}
}

func checkNoPlant(t *testing.T, l impl.Loop, mass int, want []int) {
	t.Helper()
	if places, outs, ok := impl.RunPlant(l, mass, want); len(places) != 0 || len(outs) != 0 || ok {
		t.Errorf("RunPlant of %+v, %d, %v: %v %v %v", l, mass, want, places, outs, ok)
	}
}

func checkNoCascade(t *testing.T, c cascade) {
	t.Helper()
	if o, i, ok := c.step(); o != (impl.Hold{}) || i != (impl.Hold{}) || ok {
		t.Errorf("CascadeStep of %+v: %+v %+v %v", c, o, i, ok)
	}
}

func checkNoLoopAt(t *testing.T, l []impl.Gain, at int) {
	t.Helper()
	if got, ok := impl.LoopAt(l, at); got != (impl.Loop{}) || ok {
		t.Errorf("LoopAt of %+v, %d: %+v %v", l, at, got, ok)
	}
}

// A loop that is not good has the zero answer everywhere, also where there is no step to take.
func TestWrongLoops(t *testing.T) {
	for _, l := range wrongLoops() {
		checkGoodLoop(t, l, false)
		for _, h := range []impl.Hold{{}, {On: true}, {On: true, Sum: 1, Last: 1, Out: 1}} {
			checkGoodHeld(t, l, h, false)
			checkNoHeld(t, l, h, 0, 0)
			checkNoHeld(t, l, h, 1, -1)
			checkNoHeldRun(t, l, h, nil, nil)
			checkNoHeldRun(t, l, h, []int{}, []int{})
			checkNoHeldRun(t, l, h, []int{1}, []int{0})
			checkNoCascade(t, cascade{outer: l, inner: plainLoop, o: h})
			checkNoCascade(t, cascade{outer: plainLoop, inner: l, i: h})
			checkNoCascade(t, cascade{outer: l, inner: l, o: h, i: h})
		}
		checkNoPlant(t, l, 1, nil)
		checkNoPlant(t, l, 1, []int{1})
		checkNoPlant(t, l, 1000, make([]int, mostHeld))
	}
}

func TestWrongHolds(t *testing.T) {
	for _, l := range []impl.Loop{plainLoop, {P: 1, Scale: 1, Most: 1}, {I: 1000, Scale: 1000, Most: mostReach, Wind: mostReach, Slew: mostReach}} {
		for _, h := range wrongHolds(l) {
			checkGoodHeld(t, l, h, false)
			checkNoHeld(t, l, h, 0, 0)
			checkNoHeldRun(t, l, h, nil, nil)
			checkNoHeldRun(t, l, h, []int{1, 2}, []int{0, 0})
			checkNoCascade(t, cascade{outer: l, inner: plainLoop, o: h})
			checkNoCascade(t, cascade{outer: plainLoop, inner: l, i: h})
		}
	}
	// A hold is good for one loop, and may not be for another.
	wide, narrow, h := impl.Loop{Scale: 1, Most: 10, Wind: 10}, impl.Loop{Scale: 1, Most: 9, Wind: 9}, impl.Hold{On: true, Sum: 10, Out: -10}
	checkGoodHeld(t, wide, h, true)
	checkGoodHeld(t, narrow, h, false)
	checkNoCascade(t, cascade{outer: wide, inner: narrow, o: h, i: h})
	checkNoCascade(t, cascade{outer: narrow, inner: wide, o: h, i: h})
}

func TestWrongNumbersInCascades(t *testing.T) {
	c := cascade{outer: plainLoop, inner: plainLoop, want: 5, place: 3, speed: 1}
	for _, n := range wrongReaches {
		for place := range 3 {
			wrong := c
			*[]*int{&wrong.want, &wrong.place, &wrong.speed}[place] = n
			checkNoCascade(t, wrong)
		}
	}
	for _, n := range []int{mostReach, -mostReach, 0} {
		for place := range 3 {
			good := c
			*[]*int{&good.want, &good.place, &good.speed}[place] = n
			if _, _, ok := good.step(); !ok {
				t.Errorf("CascadeStep of %+v is false", good)
			}
			checkCascade(t, good)
		}
	}
}

// Lists of 0, 1, MaxHeld and MaxHeld + 1 numbers, and much longer ones, as long as each other and not.
func TestLengthsOfRuns(t *testing.T) {
	lengths := []int{0, 1, 2, mostHeld - 1, mostHeld, mostHeld + 1, 2 * mostHeld, 100000}
	for _, n := range lengths {
		good := n <= mostHeld
		if outs, _, ok := impl.RunHold(plainLoop, impl.Hold{}, make([]int, n), make([]int, n)); ok != good || ok && len(outs) != n || !ok && len(outs) != 0 {
			t.Errorf("RunHold of %d numbers: %d %v", n, len(outs), ok)
		}
		if places, outs, ok := impl.RunPlant(plainLoop, 1, make([]int, n)); ok != good || len(places) != len(outs) || ok && len(outs) != n || !ok && len(outs) != 0 {
			t.Errorf("RunPlant of %d numbers: %d %d %v", n, len(places), len(outs), ok)
		}
		if !good {
			checkNoHeldRun(t, plainLoop, impl.Hold{}, make([]int, n), make([]int, n))
			checkNoPlant(t, plainLoop, 1, make([]int, n))
		}
		for _, more := range []int{-1, 1, 2, mostHeld} {
			if other := n + more; other >= 0 {
				checkNoHeldRun(t, plainLoop, impl.Hold{}, make([]int, n), make([]int, other))
			}
		}
		if n > 0 {
			checkNoHeldRun(t, plainLoop, impl.Hold{}, make([]int, n), nil)
			checkNoHeldRun(t, plainLoop, impl.Hold{}, nil, make([]int, n))
		}
	}
}

// One number that is no want, first, between and last: there is no answer, not even of the steps ahead of it.
func TestWrongNumbersInRuns(t *testing.T) {
	for _, n := range []int{1, 2, 7, mostHeld} {
		for _, at := range placesIn(n) {
			for _, number := range wrongReaches {
				wrong, good := make([]int, n), make([]int, n)
				wrong[at] = number
				checkNoHeldRun(t, plainLoop, impl.Hold{}, wrong, good)
				checkNoHeldRun(t, plainLoop, impl.Hold{}, good, wrong)
				checkNoHeldRun(t, plainLoop, impl.Hold{On: true, Sum: 3}, wrong, wrong)
				checkNoPlant(t, plainLoop, 1, wrong)
			}
			for _, number := range []int{mostReach, -mostReach} {
				far, good := make([]int, n), make([]int, n)
				far[at] = number
				for _, lists := range [][][]int{{far, good}, {good, far}, {far, far}} {
					if _, _, ok := impl.RunHold(plainLoop, impl.Hold{}, lists[0], lists[1]); !ok {
						t.Errorf("RunHold of %v is false", lists)
					}
					checkHeldRun(t, plainLoop, impl.Hold{}, lists[0], lists[1])
				}
				if _, _, ok := impl.RunPlant(plainLoop, 1, far); !ok {
					t.Errorf("RunPlant of %v is false", far)
				}
				checkPlant(t, plainLoop, 1, far)
			}
		}
	}
}

func TestMasses(t *testing.T) {
	for _, want := range [][]int{nil, {}, {1}, {-1, 5, 90}} {
		for _, mass := range []int{1, 2, mostGain - 1, mostGain} {
			if _, _, ok := impl.RunPlant(plainLoop, mass, want); !ok {
				t.Errorf("RunPlant of %d, %v is false", mass, want)
			}
			checkPlant(t, plainLoop, mass, want)
		}
		for _, mass := range append([]int{0, -1, mostGain + 1, -mostGain, 1 << 32, -1 << 32}, farInts...) {
			checkNoPlant(t, plainLoop, mass, want)
		}
	}
}

// Gains that do not rise, and ones with a loop that is not good, at the first, at a middle and at the last place: there is no answer, wherever it is asked.
func TestWrongGains(t *testing.T) {
	r := rand.New(rand.NewSource(194))
	for _, n := range []int{1, 2, 3, 20, mostHeld} {
		l := drawnGains(r, n)
		asked := []int{l[0].From - 1, l[0].From, l[n/2].From, l[n-1].From, l[n-1].From + 1, math.MinInt, math.MaxInt}
		for _, at := range placesIn(n) {
			for _, loop := range wrongLoops() {
				wrong := slices.Clone(l)
				wrong[at].Loop = loop
				for _, where := range asked {
					checkNoLoopAt(t, wrong, where)
				}
			}
			for _, by := range []int{0, -1, -1000, math.MinInt} {
				if at == 0 {
					continue
				}
				wrong := slices.Clone(l)
				wrong[at].From = max(wrong[at-1].From, math.MinInt-by) + by
				for _, where := range asked {
					checkNoLoopAt(t, wrong, where)
				}
			}
		}
	}
	checkNoLoopAt(t, []impl.Gain{{From: math.MaxInt, Loop: plainLoop}, {From: math.MinInt, Loop: plainLoop}}, 0)
	checkNoLoopAt(t, []impl.Gain{{From: math.MinInt, Loop: plainLoop}, {From: math.MinInt, Loop: plainLoop}}, 0)
}

func TestLengthsOfGains(t *testing.T) {
	r := rand.New(rand.NewSource(195))
	for _, at := range []int{math.MinInt, -1, 0, math.MaxInt} {
		checkNoLoopAt(t, nil, at)
		checkNoLoopAt(t, []impl.Gain{}, at)
		for _, n := range []int{mostHeld + 1, 2 * mostHeld, 1000} {
			checkNoLoopAt(t, drawnGains(r, n), at)
		}
	}
	for _, n := range []int{1, mostHeld - 1, mostHeld} {
		l := drawnGains(r, n)
		if got, ok := impl.LoopAt(l, math.MaxInt); got != l[n-1].Loop || !ok {
			t.Errorf("LoopAt of %d gains: %+v %v", n, got, ok)
		}
	}
}

func sameGain(a impl.Gain, b impl.Gain) bool { return a == b }

// What lies behind the lists counts for nothing and stays, as the lists do.
func TestWhatLiesBehindRuns(t *testing.T) {
	r := rand.New(rand.NewSource(196))
	for n := range mostHeld + 2 {
		want, seen, gains := drawnWants(r, n, 100), drawnWants(r, n, 100), drawnGains(r, n)
		for _, more := range [][]int{{1, 2, 3}, {mostReach + 1, math.MinInt}, make([]int, mostHeld)} {
			inWant, inSeen := behind(want, more...), behind(seen, more...)
			moreGains := []impl.Gain{{From: math.MinInt}, {From: math.MaxInt, Loop: plainLoop}}
			inGains := behind(gains, moreGains...)
			checkHeldRun(t, plainLoop, impl.Hold{}, inWant, inSeen)
			if n > 0 {
				checkNoHeldRun(t, plainLoop, impl.Hold{}, inWant, inSeen[:n-1])
				checkNoHeldRun(t, plainLoop, impl.Hold{}, inWant[:n-1], inSeen)
			}
			checkPlant(t, plainLoop, 3, inWant)
			checkLoopAt(t, inGains, 100)
			checkLoopAt(t, inGains, math.MaxInt)
			if !kept(inWant, want, sameNumber, more...) || !kept(inSeen, seen, sameNumber, more...) || !kept(inGains, gains, sameGain, moreGains...) {
				t.Fatalf("a list was changed: %v, %v, %v", inWant, inSeen, inGains)
			}
		}
	}
}

// Whoever writes into an answer changes nothing else: no other list of it, no later answer, no argument.
func TestRunAnswersAreNewMemory(t *testing.T) {
	r := rand.New(rand.NewSource(197))
	for n := range mostHeld + 1 {
		want, seen := drawnWants(r, n, 100), drawnWants(r, n, 100)
		wantBefore, seenBefore := slices.Clone(want), slices.Clone(seen)
		outs, _, _ := impl.RunHold(plainLoop, impl.Hold{}, want, seen)
		spoil(outs, -7777)
		places, outs, _ := impl.RunPlant(plainLoop, 3, want)
		before := slices.Clone(outs)
		spoil(places, -7777)
		if !slices.Equal(outs, before) {
			t.Fatal("the two lists of one answer share memory")
		}
		spoil(outs, -8888)
		if slices.Contains(places, -8888) || !slices.Equal(want, wantBefore) || !slices.Equal(seen, seenBefore) {
			t.Fatal("lists share memory")
		}
		checkHeldRun(t, plainLoop, impl.Hold{}, want, seen)
		checkPlant(t, plainLoop, 3, want)
		// One list may be handed in twice.
		checkHeldRun(t, plainLoop, impl.Hold{}, want, want)
	}
}

// The same call has the same answer every time, many at once too.
func TestHoldAnswersAreTheSameEveryTime(t *testing.T) {
	r := rand.New(rand.NewSource(198))
	want, seen, gains, c := drawnWants(r, mostHeld, 200), drawnWants(r, mostHeld, 200), drawnGains(r, mostHeld), drawnCascade(r)
	outs, end, _ := impl.RunHold(plainLoop, impl.Hold{}, want, seen)
	places, pushes, _ := impl.RunPlant(plainLoop, 3, want)
	o, i, _ := c.step()
	loop, _ := impl.LoopAt(gains, gains[30].From)
	var all sync.WaitGroup
	for range 8 {
		all.Go(func() {
			for range 200 {
				gotOuts, gotEnd, _ := impl.RunHold(plainLoop, impl.Hold{}, want, seen)
				gotPlaces, gotPushes, _ := impl.RunPlant(plainLoop, 3, want)
				gotO, gotI, _ := c.step()
				gotLoop, _ := impl.LoopAt(gains, gains[30].From)
				if !slices.Equal(gotOuts, outs) || gotEnd != end || !slices.Equal(gotPlaces, places) || !slices.Equal(gotPushes, pushes) || gotO != o || gotI != i || gotLoop != loop ||
					!impl.GoodLoop(loop) || !impl.GoodHold(c.outer, o) {
					t.Error("another answer")
				}
			}
		})
	}
	all.Wait()
}

// askAllHolds asks every function of a loop and a hold.
func askAllHolds(t *testing.T, l impl.Loop, h impl.Hold, want []int, seen []int, at int) {
	t.Helper()
	if impl.GoodLoop(l) != isLoop(l) || impl.GoodHold(l, h) != isHeld(l, h) {
		t.Errorf("of %+v, %+v: %v %v", l, h, impl.GoodLoop(l), impl.GoodHold(l, h))
	}
	checkHeldRun(t, l, h, want, seen)
	checkHeldRun(t, l, h, want, want)
	checkPlant(t, l, at, want)
	checkPlant(t, l, 1+leftOf(at, mostGain), want)
	gains := []impl.Gain{}
	for _, n := range want {
		checkHeld(t, l, h, n, at)
		checkHeld(t, l, h, at, n)
		checkCascade(t, cascade{outer: l, inner: plainLoop, o: h, want: n, place: at, speed: n})
		checkCascade(t, cascade{outer: plainLoop, inner: l, i: h, want: at, place: n, speed: at})
		gains = append(gains, impl.Gain{From: n, Loop: l})
	}
	checkLoopAt(t, gains, at)
}

// FuzzHolds asks every function of any numbers.
func FuzzHolds(f *testing.F) {
	f.Add(2, 1, 0, 1, 10, 5, 0, true, 3, 3, 9, "\x1e\xfd\x03", "\x00\x00\x01", 0)
	f.Add(3, 2, 5, 7, 100, 40, 9, false, 0, 0, 0, "\x00\x01\x02\x7d\x83", "\x05\x04\x03\x83\x7d", 1)
	f.Add(1000, 1000, 1000, 1, mostReach, mostReach, mostReach, true, mostReach, -2*mostReach, -mostReach, "\x7d\x83\x7d", "\x83\x7d\x83", mostReach)
	f.Add(1001, -1, 0, 0, 0, -1, mostReach+1, false, 1, 1, 1, "\x7e\x7f\x80", "", 1001)
	f.Add(math.MaxInt, math.MinInt, math.MaxInt, math.MinInt, math.MaxInt, math.MinInt, math.MaxInt, true, math.MinInt, math.MaxInt, math.MinInt, "\x7f", "\x80", math.MinInt)
	f.Fuzz(func(t *testing.T, p int, i int, d int, scale int, most int, wind int, slew int, on bool, sum int, last int, out int, wants string, seens string, at int) {
		l, h := impl.Loop{P: p, I: i, D: d, Scale: scale, Most: most, Wind: wind, Slew: slew}, impl.Hold{On: on, Sum: sum, Last: last, Out: out}
		want, seen := farNumbers(wants), farNumbers(seens)
		askAllHolds(t, l, h, want, seen, at)
		// The same with all of it made good, so that good ones are met often.
		for place, n := range numbersIn(&l) {
			*n = leastOfLoop[place] + leftOf(*n, mostOfLoop[place]-leastOfLoop[place]+1)
		}
		h = impl.Hold{}
		if on {
			h = impl.Hold{On: true, Sum: leftOf(sum, 2*l.Wind+1) - l.Wind, Last: leftOf(last, 4*mostReach+1) - 2*mostReach, Out: leftOf(out, 2*l.Most+1) - l.Most}
		}
		n := min(len(want), len(seen), mostHeld)
		want, seen = want[:n], seen[:n]
		for k := range n {
			want[k], seen[k] = middle(-mostReach, want[k], mostReach), middle(-mostReach, seen[k], mostReach)
		}
		askAllHolds(t, l, h, want, seen, leftOf(at, mostReach+1))
		if _, _, ok := impl.RunHold(l, h, want, seen); !ok {
			t.Errorf("RunHold of %+v, %+v, %v, %v is false", l, h, want, seen)
		}
	})
}
