package tests

import (
	"math"
	"math/rand"
	"slices"
	"testing"

	"loop.example/g00047/impl"
)

// A run is its steps one by one: each Out, and the hold in the end.
func TestRunsAreStepsOneByOne(t *testing.T) {
	r := rand.New(rand.NewSource(190))
	for n := range 600 {
		l := drawnLoop(r, []int{3, 30, 1000, mostReach}[r.Intn(4)])
		first, most := drawnHeld(r, l), []int{3, 30, 1000, mostReach}[r.Intn(4)]
		want, seen := drawnWants(r, n%(mostHeld+1), most), drawnWants(r, n%(mostHeld+1), most)
		h, outs := first, []int{}
		for i := range want {
			next, ok := impl.HoldStep(l, h, want[i], seen[i])
			if !ok {
				t.Fatalf("HoldStep of %+v, %+v, %d, %d is false", l, h, want[i], seen[i])
			}
			checkLimits(t, l, h, next)
			h, outs = next, append(outs, next.Out)
		}
		if got, end, ok := impl.RunHold(l, first, want, seen); !ok || end != h || !slices.Equal(got, outs) {
			t.Errorf("RunHold of %+v, %+v, %v, %v: %v %+v %v, want %v %+v", l, first, want, seen, got, end, ok, outs, h)
		}
		checkHeldRun(t, l, first, want, seen)
	}
}

func TestOneRun(t *testing.T) {
	l := impl.Loop{P: 2, I: 1, Scale: 1, Most: 10, Wind: 5}
	got, end, ok := impl.RunHold(l, impl.Hold{}, []int{3, 30, -3, 0}, []int{0, 0, 0, 1})
	if want := (impl.Hold{On: true, Sum: -1, Last: -1, Out: -3}); !ok || !slices.Equal(got, []int{9, 10, -6, -3}) || end != want {
		t.Errorf("RunHold: %v %+v %v", got, end, ok)
	}
}

// A run of no steps leaves the hold as it is.
func TestRunOfNothing(t *testing.T) {
	for _, h := range []impl.Hold{{}, {On: true}, {On: true, Sum: -40, Last: 7, Out: 100}} {
		for _, l := range [][]int{nil, {}} {
			if got, end, ok := impl.RunHold(plainLoop, h, l, nil); len(got) != 0 || end != h || !ok {
				t.Errorf("RunHold of nothing: %v %+v %v", got, end, ok)
			}
			if got, end, ok := impl.RunHold(plainLoop, h, nil, l); len(got) != 0 || end != h || !ok {
				t.Errorf("RunHold of nothing: %v %+v %v", got, end, ok)
			}
		}
	}
	for _, l := range [][]int{nil, {}} {
		if places, outs, ok := impl.RunPlant(plainLoop, 1, l); len(places) != 0 || len(outs) != 0 || !ok {
			t.Errorf("RunPlant of nothing: %v %v %v", places, outs, ok)
		}
	}
}

// Nothing winds up: where Out has stood at its limit for long, it leaves it with the first step at which it is to.
func TestNothingWindsUp(t *testing.T) {
	l := impl.Loop{P: 1, I: 1, Scale: 1, Most: 100, Wind: mostReach}
	for _, sign := range []int{1, -1} {
		want, seen := slices.Repeat([]int{sign * 1000}, 50), make([]int, 50)
		outs, end, ok := impl.RunHold(l, impl.Hold{}, want, seen)
		if !ok || end.Sum != 0 || outs[0] != sign*100 || outs[49] != sign*100 {
			t.Fatalf("RunHold: %v %+v %v", outs, end, ok)
		}
		if next, _ := impl.HoldStep(l, end, -sign, 0); next.Out != -2*sign {
			t.Errorf("behind a long time at the limit: %+v", next)
		}
	}
	// One that may be wound up a little is at Wind, and goes back from there.
	l = impl.Loop{I: 1, Scale: 10, Most: 100, Wind: 30}
	_, end, _ := impl.RunHold(l, impl.Hold{}, slices.Repeat([]int{20}, 40), make([]int, 40))
	if end != (impl.Hold{On: true, Sum: 30, Last: 20, Out: 3}) {
		t.Errorf("at Wind: %+v", end)
	}
	if next, _ := impl.HoldStep(l, end, -11, 0); next.Sum != 19 || next.Out != 1 {
		t.Errorf("back from Wind: %+v", next)
	}
}

func TestCascades(t *testing.T) {
	outer, inner := impl.Loop{P: 1, Scale: 2, Most: 20}, impl.Loop{P: 3, I: 1, Scale: 1, Most: 50, Wind: 10}
	o, i, ok := impl.CascadeStep(outer, inner, impl.Hold{}, impl.Hold{}, 10, 3, 1)
	if o != (impl.Hold{On: true, Last: 7, Out: 3}) || i != (impl.Hold{On: true, Sum: 2, Last: 2, Out: 8}) || !ok {
		t.Errorf("CascadeStep: %+v %+v %v", o, i, ok)
	}
	// The outer Out is cut ahead of the inner one's seeing it.
	o, i, ok = impl.CascadeStep(outer, inner, impl.Hold{}, impl.Hold{}, 1000, 0, 15)
	if o != (impl.Hold{On: true, Last: 1000, Out: 20}) || i != (impl.Hold{On: true, Sum: 5, Last: 5, Out: 20}) || !ok {
		t.Errorf("CascadeStep: %+v %+v %v", o, i, ok)
	}
}

// drawnCascade is good.
func drawnCascade(r *rand.Rand) cascade {
	most := []int{3, 30, 1000, mostReach}[r.Intn(4)]
	c := cascade{outer: drawnLoop(r, most), inner: drawnLoop(r, most), want: drawnTo(r, -most, most), place: drawnTo(r, -most, most), speed: drawnTo(r, -most, most)}
	c.o, c.i = drawnHeld(r, c.outer), drawnHeld(r, c.inner)
	return c
}

// A step of a cascade is the outer loop's step, then the inner one's, which is to reach what the outer one puts out.
func TestCascadesAreTwoSteps(t *testing.T) {
	r := rand.New(rand.NewSource(191))
	for range 20000 {
		c := drawnCascade(r)
		o, first := impl.HoldStep(c.outer, c.o, c.want, c.place)
		i, second := impl.HoldStep(c.inner, c.i, o.Out, c.speed)
		if gotO, gotI, ok := c.step(); gotO != o || gotI != i || !ok || !first || !second {
			t.Errorf("CascadeStep of %+v: %+v %+v %v, want %+v %+v", c, gotO, gotI, ok, o, i)
		}
		checkCascade(t, c)
	}
	// An Out at the greatest reach is a want still.
	for _, sign := range []int{1, -1} {
		far := impl.Loop{P: 1000, Scale: 1, Most: mostReach}
		c := cascade{outer: far, inner: far, want: sign * mostReach, place: -sign * mostReach, speed: -sign * mostReach}
		if o, i, ok := c.step(); !ok || o.Out != sign*mostReach || i.Last != sign*2*mostReach {
			t.Errorf("CascadeStep of %+v: %+v %+v %v", c, o, i, ok)
		}
	}
}

func TestLoopsByGains(t *testing.T) {
	low, high := impl.Loop{P: 1, Scale: 1, Most: 1}, impl.Loop{P: 2, Scale: 1, Most: 1}
	l := []impl.Gain{{From: -5, Loop: low}, {From: 10, Loop: high}}
	for at, want := range map[int]impl.Loop{-5: low, -4: low, 0: low, 9: low, 10: high, 11: high, math.MaxInt: high} {
		if got, ok := impl.LoopAt(l, at); got != want || !ok {
			t.Errorf("LoopAt of %d: %+v %v", at, got, ok)
		}
	}
	for _, at := range []int{-6, -1000, math.MinInt} {
		if got, ok := impl.LoopAt(l, at); got != (impl.Loop{}) || ok {
			t.Errorf("LoopAt of %d: %+v %v", at, got, ok)
		}
	}
	// From may be any number.
	l = []impl.Gain{{From: math.MinInt, Loop: low}, {From: math.MaxInt, Loop: high}}
	for at, want := range map[int]impl.Loop{math.MinInt: low, 0: low, math.MaxInt - 1: low, math.MaxInt: high} {
		if got, ok := impl.LoopAt(l, at); got != want || !ok {
			t.Errorf("LoopAt of %d: %+v %v", at, got, ok)
		}
	}
}

// At each From, one below and one above, and below the first and above the last.
func TestLoopsByDrawnGains(t *testing.T) {
	r := rand.New(rand.NewSource(192))
	for n := range mostHeld + 3 {
		l := drawnGains(r, n)
		for _, g := range l {
			for _, at := range []int{g.From - 1, g.From, g.From + 1} {
				checkLoopAt(t, l, at)
			}
		}
		for _, at := range []int{math.MinInt, -1000, 0, 1000, math.MaxInt} {
			checkLoopAt(t, l, at)
		}
		if n > mostHeld {
			continue
		}
		for i, g := range l {
			if got, ok := impl.LoopAt(l, g.From); got != g.Loop || !ok {
				t.Errorf("LoopAt of gain %d of %d: %+v %v, want %+v", i, n, got, ok, g.Loop)
			}
		}
	}
}

func TestOnePlant(t *testing.T) {
	l := impl.Loop{P: 1, Scale: 1, Most: 5}
	places, outs, ok := impl.RunPlant(l, 2, []int{4, 4, 4, 4, 4, 4})
	// speed: 2, 3, 2, 0, -2, -3
	if !ok || !slices.Equal(outs, []int{4, 2, -1, -3, -3, -1}) || !slices.Equal(places, []int{2, 5, 7, 7, 5, 2}) {
		t.Errorf("RunPlant: %v %v %v", places, outs, ok)
	}
}

// Out / mass is down where Out is below 0, with and without a rest.
func TestPlantsThatGoDown(t *testing.T) {
	l := impl.Loop{P: 1, Scale: 1, Most: mostReach}
	for _, c := range [][]int{{7, 2, 3}, {-7, 2, -4}, {-8, 2, -4}, {-1, 1000, -1}, {1, 1000, 0}, {-1000, 1000, -1}, {-1001, 1000, -2}, {-6, 1, -6}} {
		want, mass, place := c[0], c[1], c[2]
		if places, outs, ok := impl.RunPlant(l, mass, []int{want}); !ok || !slices.Equal(places, []int{place}) || !slices.Equal(outs, []int{want}) {
			t.Errorf("RunPlant of %d, %d: %v %v %v", mass, want, places, outs, ok)
		}
	}
}

// Speed and place are cut to the greatest reach, both ways, each by itself.
func TestPlantsAtTheirReach(t *testing.T) {
	for _, sign := range []int{1, -1} {
		fast := impl.Loop{P: 1000, Scale: 1, Most: mostReach}
		want := []int{sign * 1000000, sign * 1000000, -sign * 1000000, -sign * 1000000, -sign * 1000000}
		places, outs, ok := impl.RunPlant(fast, 1, want)
		// speed: 1000000, 1000000 (nothing is missing), 0, -1000000, -1000000
		if !ok || !slices.Equal(outs, []int{sign * 1000000, 0, -sign * 1000000, -sign * 1000000, -sign * 1000000}) ||
			!slices.Equal(places, []int{sign * 1000000, sign * 1000000, sign * 1000000, 0, -sign * 1000000}) {
			t.Errorf("RunPlant of %v: %v %v %v", want, places, outs, ok)
		}
		slow := impl.Loop{P: 9, Scale: 10, Most: mostReach}
		checkPlant(t, slow, 1, want)
		checkPlant(t, slow, 1, slices.Repeat(want, 12))
	}
	// A speed of 1200000 that is not cut would turn round later.
	l := impl.Loop{P: 1000, Scale: 1, Most: 600000}
	want := []int{mostReach, mostReach, mostReach, -mostReach, -mostReach, -mostReach, -mostReach, -mostReach}
	places, outs, ok := impl.RunPlant(l, 1, want)
	// speed: 600000, 1000000, 1000000, 400000, -200000, -800000, -1000000, -1000000
	if !ok || !slices.Equal(outs, []int{600000, 600000, 0, -600000, -600000, -600000, -600000, 0}) ||
		!slices.Equal(places, []int{600000, mostReach, mostReach, mostReach, 800000, 0, -mostReach, -mostReach}) {
		t.Errorf("RunPlant of %v: %v %v %v", want, places, outs, ok)
	}
	checkPlant(t, l, 1, want)
}

// A plant's run is its steps one by one, the hold being the zero value at first.
func TestPlantsAreStepsOneByOne(t *testing.T) {
	r := rand.New(rand.NewSource(193))
	for n := range 1500 {
		l := drawnLoop(r, []int{3, 30, 1000, mostReach}[r.Intn(4)])
		want := drawnWants(r, n%(mostHeld+1), []int{3, 30, 1000, mostReach}[r.Intn(4)])
		mass := drawnTo(r, 1, []int{2, 10, 1000}[r.Intn(3)])
		checkPlant(t, l, mass, want)
		places, outs, _ := impl.RunPlant(l, mass, want)
		seen := append([]int{0}, places...)[:len(want)]
		if got, _, ok := impl.RunHold(l, impl.Hold{}, want, seen); !ok || !slices.Equal(got, outs) {
			t.Errorf("RunPlant of %+v, %d, %v has the Outs %v, RunHold %v", l, mass, want, outs, got)
		}
	}
}

// A plant with a good loop comes to what is wanted, and stays there.
func TestPlantsThatCome(t *testing.T) {
	l := impl.Loop{P: 1, D: 2, Scale: 2, Most: 40}
	for _, goal := range []int{0, 10, 100, -100} {
		places, _, ok := impl.RunPlant(l, 1, slices.Repeat([]int{goal}, mostHeld))
		if last := places[mostHeld-1]; !ok || last < goal-2 || last > goal+2 {
			t.Errorf("RunPlant to %d: %v %v", goal, places, ok)
		}
	}
}
