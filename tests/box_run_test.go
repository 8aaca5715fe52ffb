package tests

import (
	"fmt"
	"math"
	"math/rand"
	"testing"

	"loop.example/g00047/impl"
)

func TestBoxRunByHand(t *testing.T) {
	m, b, w := [][]float64{{0.5}}, boxOf(reals(-1), reals(1)), reals(0.25)
	want := []impl.Box{b, boxOf(reals(-0.75), reals(0.75)), boxOf(reals(-0.625), reals(0.625)), boxOf(reals(-0.5625), reals(0.5625))}
	for steps := range want {
		got, ok := impl.BoxRun(m, b, w, steps)
		checkBoxes(t, fmt.Sprint("BoxRun of half, ", steps), got, ok, want[:steps+1], true)
	}
	m, b, w = [][]float64{{1, 1}, {0, 1}}, boxOf(reals(0, 1), reals(0, 2)), reals(0, 0.5)
	want = []impl.Box{b, boxOf(reals(1, 0.5), reals(2, 2.5)), boxOf(reals(1.5, 0), reals(4.5, 3)), boxOf(reals(1.5, -0.5), reals(7.5, 3.5))}
	for steps := range want {
		got, ok := impl.BoxRun(m, b, w, steps)
		checkBoxes(t, fmt.Sprint("BoxRun of a place and its speed, ", steps), got, ok, want[:steps+1], true)
	}
	m, b, w = [][]float64{{0, 1, 0}, {0, 0, 1}, {1, 0, 0}}, boxOf(reals(1, 2, 3), reals(4, 5, 6)), reals(0, 0, 0)
	want = []impl.Box{b, boxOf(reals(2, 3, 1), reals(5, 6, 4)), boxOf(reals(3, 1, 2), reals(6, 4, 5)), b, boxOf(reals(2, 3, 1), reals(5, 6, 4))}
	for steps := range want {
		got, ok := impl.BoxRun(m, b, w, steps)
		checkBoxes(t, fmt.Sprint("BoxRun of three that go round, ", steps), got, ok, want[:steps+1], true)
	}
}

// The box itself is first, each next one is BoxStep of the one ahead; a shorter run is the beginning of a longer one.
func TestBoxRunStepByStep(t *testing.T) {
	r := rand.New(rand.NewSource(271))
	for range 40 {
		for n := 1; n <= mostState; n++ {
			for _, one := range []func(*rand.Rand) float64{nearReal, smallReal, nearSum, leastReal} {
				a := drawnRide(r, n, one)
				all, ok := impl.BoxRun(a.m, a.b, a.w, mostRun)
				if !ok || len(all) != mostRun+1 || !sameBox(all[0], a.b) {
					t.Fatalf("BoxRun of %x: %x %v", a, all, ok)
				}
				for i := range mostRun {
					next, ok := impl.BoxStep(a.m, all[i], a.w)
					checkBox(t, fmt.Sprintf("step %d of %x", i+1, a), all[i+1], true, next, ok)
				}
				for steps := range mostRun + 1 {
					part, ok := impl.BoxRun(a.m, a.b, a.w, steps)
					checkBoxes(t, fmt.Sprintf("BoxRun of %x, %d steps", a, steps), part, ok, all[:steps+1], true)
				}
			}
		}
	}
}

func TestBoxRunOfWrongSteps(t *testing.T) {
	for n := 1; n <= mostState; n++ {
		for _, steps := range append([]int{-1, mostRun + 1, -2, mostRun + 2, 1 << 32, 1<<32 + 1, -1 << 32, math.MinInt32, math.MaxInt32}, farInts...) {
			a := goodRide(n)
			a.steps = steps
			if _, ok := a.run(); ok {
				continue
			}
			run, ok := impl.BoxRun(a.m, a.b, a.w, steps)
			checkBoxes(t, fmt.Sprint("BoxRun of steps ", steps), run, ok, nil, false)
			number, ok := impl.FirstOut(a.m, a.b, a.w, a.keep, steps)
			if number != 0 || ok {
				t.Errorf("FirstOut of %d steps: %d %v", steps, number, ok)
			}
			a.check(t)
		}
		for steps := range mostRun + 1 {
			a := goodRide(n)
			a.steps = steps
			run, ok := impl.BoxRun(a.m, a.b, a.w, steps)
			if !ok || len(run) != steps+1 {
				t.Errorf("BoxRun of %d steps: %x %v", steps, run, ok)
			}
			if number, ok := impl.FirstOut(a.m, a.b, a.w, a.keep, steps); number != -1 || !ok {
				t.Errorf("FirstOut of %d steps: %d %v", steps, number, ok)
			}
			a.check(t)
		}
	}
}

// A later step does not exist: from there on there is no run, even if it would be smaller behind.
func TestBoxRunThatEnds(t *testing.T) {
	for last := 1; last < mostRun; last++ {
		for n := 1; n <= mostState; n++ {
			for at := range n {
				for _, by := range []float64{2, -2} {
					a := goodRide(n)
					a.m, a.w = oneReals(n, 0.5), make([]float64, n)
					a.m[at][at] = by
					a.b = boxOf(evenReals(n, 0.5), evenReals(n, 1))
					a.b.Hi[at] = math.Ldexp(1, 1023-last)
					for steps := range mostRun + 1 {
						run, ok := impl.BoxRun(a.m, a.b, a.w, steps)
						number, okToo := impl.FirstOut(a.m, a.b, a.w, a.keep, steps)
						if ok != (steps <= last) || ok != okToo || !ok && (run != nil || number != 0) {
							t.Errorf("%x, %d steps: %x %v, %d %v", a, steps, run, ok, number, okToo)
						}
						a.steps = steps
						a.check(t)
					}
				}
			}
		}
	}
}

// Every run lies in its boxes: drawn points and drawn noise, step by step, exactly.
func TestDrawnRunsLieInTheirBoxes(t *testing.T) {
	r := rand.New(rand.NewSource(272))
	for range 30 {
		for n := 1; n <= mostState; n++ {
			for _, one := range []func(*rand.Rand) float64{nearReal, smallReal, nearSum, leastReal} {
				a := drawnRide(r, n, one)
				boxes, ok := impl.BoxRun(a.m, a.b, a.w, mostRun)
				if !ok {
					t.Fatalf("no run of %x", a)
				}
				noise := noiseBox(a.w)
				for range 4 {
					x := drawnPoint(r, a.b)
					for i, b := range boxes {
						checkInside(t, fmt.Sprintf("step %d of %x", i, a), b, x)
						x = moved(a.m, x, drawnPoint(r, noise))
					}
				}
			}
		}
	}
}

// A run of one number that doubles, from -1 and 1 on.
func TestFirstOutByHand(t *testing.T) {
	double, b, none := [][]float64{{2}}, boxOf(reals(-1), reals(1)), reals(0)
	for _, c := range []struct {
		keep  impl.Box
		steps int
		want  int
	}{
		{boxOf(reals(-3), reals(3)), 4, 2},
		{boxOf(reals(-3), reals(3)), 2, 2},
		{boxOf(reals(-3), reals(3)), 1, -1},
		{boxOf(reals(-3), reals(3)), 0, -1},
		// Met exactly, or not by one float, above and below.
		{boxOf(reals(-4), reals(4)), 2, -1},
		{boxOf(reals(-4), reals(4)), 3, 3},
		{boxOf(reals(-4), reals(stepDown(4))), 8, 2},
		{boxOf(reals(-stepDown(4)), reals(4)), 8, 2},
		{boxOf(reals(-stepUp(4)), reals(stepUp(4))), 8, 3},
		{boxOf(reals(-1), reals(1)), 0, -1},
		{boxOf(reals(-1), reals(1)), 8, 1},
		{boxOf(reals(-1), reals(stepDown(1))), 8, 0},
		{boxOf(reals(-1), reals(stepDown(1))), 0, 0},
		{boxOf(reals(stepUp(-1)), reals(1)), 0, 0},
		{boxOf(reals(5), reals(6)), 8, 0},
		{boxOf(reals(0), reals(0)), 3, 0},
		{boxOf(reals(-256), reals(256)), 8, -1},
		{boxOf(reals(-256), reals(stepDown(256))), 8, 8},
		{boxOf(reals(-256), reals(stepDown(256))), 7, -1},
		{boxOf(reals(-greatest), reals(greatest)), 8, -1},
	} {
		got, ok := impl.FirstOut(double, b, none, c.keep, c.steps)
		if got != c.want || !ok {
			t.Errorf("FirstOut in %x, %d steps: %d %v, want %d", c.keep, c.steps, got, ok, c.want)
		}
	}
}

// A box that leaves and comes back is out where it left first.
func TestFirstOutOfABoxThatComesBack(t *testing.T) {
	turn, b, none := [][]float64{{0, 1}, {-1, 0}}, boxOf(reals(-1, -5), reals(1, 5)), reals(0, 0)
	for _, c := range []struct {
		keep impl.Box
		want int
	}{
		{boxOf(reals(-1, -5), reals(1, 5)), 1}, {boxOf(reals(-5, -1), reals(5, 1)), 0}, {boxOf(reals(-5, -5), reals(5, 5)), -1}, {boxOf(reals(-5, -5), reals(5, stepDown(5))), 0}, {boxOf(reals(stepUp(-5), -5), reals(5, 5)), 1},
	} {
		for steps := 1; steps <= mostRun; steps++ {
			if got, ok := impl.FirstOut(turn, b, none, c.keep, steps); got != c.want || !ok {
				t.Errorf("FirstOut in %v, %d steps: %d %v, want %d", c.keep, steps, got, ok, c.want)
			}
		}
	}
	// It is within again behind the third step, having left at the second.
	round, b, none := [][]float64{{0, 1, 0}, {0, 0, 1}, {1, 0, 0}}, boxOf(reals(0, 0, 0), reals(1, 2, 9)), reals(0, 0, 0)
	for steps := range mostRun + 1 {
		want := -1
		if steps >= 2 {
			want = 2
		}
		if got, ok := impl.FirstOut(round, b, none, boxOf(reals(0, 0, 0), reals(8, 9, 9)), steps); got != want || !ok {
			t.Errorf("FirstOut of %d steps: %d %v, want %d", steps, got, ok, want)
		}
	}
}

// A run that does not exist to its end has no answer, even where a box ahead of that has left.
func TestFirstOutOfARunThatEnds(t *testing.T) {
	m, b, w := [][]float64{{0x1p300}}, boxOf(reals(0), reals(1)), reals(0)
	keep := boxOf(reals(0), reals(2))
	for steps := range mostRun + 1 {
		got, ok := impl.FirstOut(m, b, w, keep, steps)
		want := 0
		switch {
		case steps == 0:
			want = -1
		case steps <= 3:
			want = 1
		}
		if got != want || ok != (steps <= 3) {
			t.Errorf("FirstOut of %d steps: %d %v", steps, got, ok)
		}
	}
}

// By drawn boxes: every number that FirstOut can tell comes up.
func TestFirstOutOfDrawnRides(t *testing.T) {
	r := rand.New(rand.NewSource(273))
	seen := map[int]int{}
	for range 3000 {
		a := drawnRide(r, 1+r.Intn(mostState), smallReal)
		n := len(a.b.Lo)
		width := math.Ldexp(1, r.Intn(16))
		a.keep = boxOf(evenReals(n, -width), evenReals(n, width))
		got, ok := impl.FirstOut(a.m, a.b, a.w, a.keep, a.steps)
		want, wantOk := a.firstOut()
		if got != want || ok != wantOk {
			t.Errorf("FirstOut of %x: %d %v, want %d %v", a, got, ok, want, wantOk)
		}
		run, _ := impl.BoxRun(a.m, a.b, a.w, a.steps)
		for i, b := range run {
			if impl.BoxWithin(b, a.keep) == (i == got) && (i <= got || got < 0) {
				t.Errorf("FirstOut of %x: %d, and box %d is %x", a, got, i, b)
			}
		}
		seen[got]++
	}
	for number := -1; number <= mostRun; number++ {
		if seen[number] == 0 {
			t.Error("never told:", number, seen)
		}
	}
}
