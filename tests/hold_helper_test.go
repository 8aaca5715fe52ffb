package tests

import (
	"math/rand"
	"slices"
	"testing"

	"loop.example/g00047/impl"
)

const (
	mostHeld  = 60
	mostReach = 1000000
	mostGain  = 1000
)

// numbersIn are all numbers of a loop, in the order in which the document has them.
func numbersIn(l *impl.Loop) []*int {
	return []*int{&l.P, &l.I, &l.D, &l.Scale, &l.Most, &l.Wind, &l.Slew}
}

// leastOfLoop and mostOfLoop are what each of those numbers may be.
var (
	leastOfLoop = []int{0, 0, 0, 1, 1, 0, 0}
	mostOfLoop  = []int{mostGain, mostGain, mostGain, mostGain, mostReach, mostReach, mostReach}
)

// loopWith is a loop whose number at that place is another one.
func loopWith(l impl.Loop, place int, n int) impl.Loop {
	*numbersIn(&l)[place] = n
	return l
}

func isLoop(l impl.Loop) bool {
	for i, n := range numbersIn(&l) {
		if *n < leastOfLoop[i] || *n > mostOfLoop[i] {
			return false
		}
	}
	return true
}

func isHeld(l impl.Loop, h impl.Hold) bool {
	if !isLoop(l) || !h.On {
		return isLoop(l) && h.Sum == 0 && h.Last == 0 && h.Out == 0
	}
	return upTo(l.Wind, h.Sum) && upTo(l.Most, h.Out) && upTo(2*mostReach, h.Last)
}

// middle is the second of three numbers by size.
func middle(l ...int) int {
	slices.Sort(l)
	return l[1]
}

// floorOf is n / by down, by above 0.
func floorOf(n int, by int) int { return (n - leftOf(n, by)) / by }

// exactHeld goes by the words of the document.
func exactHeld(l impl.Loop, h impl.Hold, want int, seen int) (impl.Hold, bool) {
	if !isHeld(l, h) || !upTo(mostReach, want, seen) {
		return impl.Hold{}, false
	}
	e, d := want-seen, 0
	if h.On {
		d = e - h.Last
	}
	s := middle(-l.Wind, h.Sum+e, l.Wind)
	raw := floorOf(l.P*e+l.I*s+l.D*d, l.Scale)
	next := impl.Hold{On: true, Sum: s, Last: e, Out: middle(-l.Most, raw, l.Most)}
	if raw > l.Most && e > 0 {
		next.Sum = h.Sum
	}
	if raw < -l.Most && e < 0 {
		next.Sum = h.Sum
	}
	if h.On && l.Slew != 0 {
		next.Out = middle(h.Out-l.Slew, next.Out, h.Out+l.Slew)
	}
	return next, true
}

// checkHeld asks HoldStep of anything, and that the limits are kept behind it.
func checkHeld(t *testing.T, l impl.Loop, h impl.Hold, want int, seen int) {
	t.Helper()
	next, good := exactHeld(l, h, want, seen)
	got, ok := impl.HoldStep(l, h, want, seen)
	if ok != good || got != next {
		t.Errorf("HoldStep of %+v, %+v, %d, %d: %+v %v, want %+v %v", l, h, want, seen, got, ok, next, good)
	}
	if ok {
		checkLimits(t, l, h, got)
	}
}

// checkLimits: the second hold may come of the first one.
func checkLimits(t *testing.T, l impl.Loop, h impl.Hold, next impl.Hold) {
	t.Helper()
	if !next.On || !upTo(l.Wind, next.Sum) || !upTo(l.Most, next.Out) || !impl.GoodHold(l, next) {
		t.Errorf("of %+v, %+v comes %+v, which is not good", l, h, next)
	}
	if h.On && l.Slew > 0 && !upTo(l.Slew, next.Out-h.Out) {
		t.Errorf("of %+v, %+v comes %+v, beyond its Slew", l, h, next)
	}
}

// exactHeldRun is the holds behind each step.
func exactHeldRun(l impl.Loop, h impl.Hold, want []int, seen []int) ([]impl.Hold, bool) {
	if !isHeld(l, h) || len(want) > mostHeld || len(want) != len(seen) || !upTo(mostReach, want...) || !upTo(mostReach, seen...) {
		return nil, false
	}
	holds := []impl.Hold{}
	for i := range want {
		h, _ = exactHeld(l, h, want[i], seen[i])
		holds = append(holds, h)
	}
	return holds, true
}

func outsOf(holds []impl.Hold) []int {
	outs := []int{}
	for _, h := range holds {
		outs = append(outs, h.Out)
	}
	return outs
}

// checkHeldRun asks RunHold of anything.
func checkHeldRun(t *testing.T, l impl.Loop, h impl.Hold, want []int, seen []int) {
	t.Helper()
	holds, good := exactHeldRun(l, h, want, seen)
	last := impl.Hold{}
	if good {
		last = append([]impl.Hold{h}, holds...)[len(holds)]
	}
	got, end, ok := impl.RunHold(l, h, want, seen)
	if ok != good || end != last || !slices.Equal(got, outsOf(holds)) {
		t.Errorf("RunHold of %+v, %+v, %v, %v: %v %+v %v, want %+v %v", l, h, want, seen, got, end, ok, holds, good)
	}
}

// cascade is what CascadeStep takes.
type cascade struct {
	outer, inner       impl.Loop
	o, i               impl.Hold
	want, place, speed int
}

func (c cascade) step() (impl.Hold, impl.Hold, bool) {
	return impl.CascadeStep(c.outer, c.inner, c.o, c.i, c.want, c.place, c.speed)
}

// checkCascade asks CascadeStep of anything.
func checkCascade(t *testing.T, c cascade) {
	t.Helper()
	o, good := exactHeld(c.outer, c.o, c.want, c.place)
	i := impl.Hold{}
	if good {
		i, good = exactHeld(c.inner, c.i, o.Out, c.speed)
	}
	if !good {
		o = impl.Hold{}
	}
	if gotO, gotI, ok := c.step(); ok != good || gotO != o || gotI != i {
		t.Errorf("CascadeStep of %+v: %+v %+v %v, want %+v %+v %v", c, gotO, gotI, ok, o, i, good)
	}
}

func areGains(l []impl.Gain) bool {
	for i, g := range l {
		if !isLoop(g.Loop) || i > 0 && l[i-1].From >= g.From {
			return false
		}
	}
	return len(l) <= mostHeld
}

// checkLoopAt asks LoopAt of anything.
func checkLoopAt(t *testing.T, l []impl.Gain, at int) {
	t.Helper()
	want, good := impl.Loop{}, false
	if areGains(l) {
		for i := len(l) - 1; i >= 0 && !good; i-- {
			if at >= l[i].From {
				want, good = l[i].Loop, true
			}
		}
	}
	if got, ok := impl.LoopAt(l, at); ok != good || got != want {
		t.Errorf("LoopAt of %+v, %d: %+v %v, want %+v %v", l, at, got, ok, want, good)
	}
}

// exactPlant is the places and the Outs.
func exactPlant(l impl.Loop, mass int, want []int) ([]int, []int, bool) {
	if !isLoop(l) || mass < 1 || mass > mostGain || len(want) > mostHeld || !upTo(mostReach, want...) {
		return nil, nil, false
	}
	h, place, speed, places, outs := impl.Hold{}, 0, 0, []int{}, []int{}
	for _, n := range want {
		h, _ = exactHeld(l, h, n, place)
		speed = middle(-mostReach, speed+floorOf(h.Out, mass), mostReach)
		place = middle(-mostReach, place+speed, mostReach)
		places, outs = append(places, place), append(outs, h.Out)
	}
	return places, outs, true
}

// checkPlant asks RunPlant of anything.
func checkPlant(t *testing.T, l impl.Loop, mass int, want []int) {
	t.Helper()
	places, outs, good := exactPlant(l, mass, want)
	if got, out, ok := impl.RunPlant(l, mass, want); ok != good || !slices.Equal(got, places) || !slices.Equal(out, outs) {
		t.Errorf("RunPlant of %+v, %d, %v: %v %v %v, want %v %v %v", l, mass, want, got, out, ok, places, outs, good)
	}
}

// drawnTo is a number from least to most, and often one of the two, or one beside it.
func drawnTo(r *rand.Rand, least int, most int) int {
	switch r.Intn(6) {
	case 0:
		return least
	case 1:
		return most
	case 2:
		return min(least+r.Intn(4), most)
	}
	return drawnBetween(r, least, most)
}

// drawnLoop is a good loop, none of its numbers above most.
func drawnLoop(r *rand.Rand, most int) impl.Loop {
	l := impl.Loop{}
	for i, n := range numbersIn(&l) {
		*n = drawnTo(r, leastOfLoop[i], min(most, mostOfLoop[i]))
	}
	return l
}

// drawnHeld is a hold that is good for the loop, mostly one that is On.
func drawnHeld(r *rand.Rand, l impl.Loop) impl.Hold {
	if r.Intn(6) == 0 {
		return impl.Hold{}
	}
	return impl.Hold{On: true, Sum: drawnTo(r, -l.Wind, l.Wind), Last: drawnTo(r, -2*mostReach, 2*mostReach), Out: drawnTo(r, -l.Most, l.Most)}
}

// drawnWants are so many numbers, none of them further than most.
func drawnWants(r *rand.Rand, n int, most int) []int {
	l := []int{}
	for range n {
		l = append(l, drawnTo(r, -most, most))
	}
	return l
}

// drawnGains have rising From, the first one drawn.
func drawnGains(r *rand.Rand, n int) []impl.Gain {
	l, from := []impl.Gain{}, drawnBetween(r, -50, 50)
	for range n {
		l = append(l, impl.Gain{From: from, Loop: drawnLoop(r, mostReach)})
		from += drawnTo(r, 1, 9)
	}
	return l
}
