package tests

import (
	"fmt"
	"math/big"
	"math/rand"
	"slices"
	"testing"

	"loop.example/g00047/impl"
)

// stepCase is a row, as all rows of its matrix, with what it makes of a box by hand.
type stepCase struct {
	row, lo, hi []float64
	w           float64
	wantLo      float64
	wantHi      float64
}

func stepCases() []stepCase {
	return []stepCase{
		// One number: above, below and of 0.
		{reals(2), reals(-1), reals(3), 0, -2, 6},
		{reals(-2), reals(-1), reals(3), 0, -6, 2},
		{reals(0), reals(-1), reals(3), 0, 0, 0},
		{reals(1), reals(-1), reals(3), 0, -1, 3},
		{reals(0.5), reals(-1), reals(1), 0.25, -0.75, 0.75},
		{reals(-0.5), reals(0), reals(1), 0.25, -0.75, 0.25},
		{reals(0), reals(-greatest), reals(greatest), 3, -3, 3},
		{reals(2), reals(0), reals(0), 0, 0, 0},
		{reals(-2), reals(0), reals(0), 0, 0, 0},
		{reals(2), reals(1), reals(1), 1, 1, 3},
		{reals(2), reals(1), reals(1), 2, 0, 4},
		{reals(2), reals(-1), reals(-1), 2, -4, 0},
		// Each single product is rounded outward, and each single sum.
		{reals(0.1), reals(3), reals(3), 0, 0.3, stepUp(0.3)},
		{reals(-0.1), reals(3), reals(3), 0, -stepUp(0.3), -0.3},
		{reals(1), reals(0.1), reals(0.1), 0.2, -0.1, stepUp(0.3)},
		{reals(1), reals(1), reals(1), least, stepDown(1), stepUp(1)},
		{reals(1), reals(-1), reals(-1), least, -stepUp(1), -stepDown(1)},
		{reals(least), reals(0.5), reals(0.5), 0, 0, least},
		{reals(-least), reals(0.5), reals(0.5), 0, -least, 0},
		{reals(least), reals(-0.5), reals(0.5), 0, -least, least},
		{reals(least), reals(0), reals(0.5), least, -least, 2 * least},
		{reals(0.1, 0.1), reals(3, 3), reals(3, 3), 0, 0.6, 2 * stepUp(0.3)},
		{reals(1, 1), reals(0.1, 0.2), reals(0.1, 0.2), 0, 0.3, stepUp(0.3)},
		{reals(1, -1), reals(0.1, -0.2), reals(0.1, -0.2), 0, 0.3, stepUp(0.3)},
		{reals(1, -1), reals(0, 0), reals(1, 1), 0, -1, 1},
		{reals(1, -1), reals(2, 3), reals(5, 7), 1, -6, 3},
		{reals(0, 1), reals(-greatest, 2), reals(greatest, 3), 0, 2, 3},
		// The order of the sums: what is small is lost behind what is great.
		{reals(1, 1, 1), reals(1e16, 1, -1e16), reals(1e16, 1, -1e16), 0, 0, 2},
		{reals(1, 1, 1), reals(1e16, -1e16, 1), reals(1e16, -1e16, 1), 0, 1, 1},
		{reals(1, 1, 1), reals(1, 1e16, -1e16), reals(1, 1e16, -1e16), 0, 0, 2},
		{reals(1, 1, 1), reals(-1, 1e16, -1e16), reals(-1, 1e16, -1e16), 0, -2, 0},
		{reals(1e16, 1, 1e16), reals(1, 1, -1), reals(1, 1, -1), 1, -1, 3},
		// w comes in the end: with it ahead the sums would come out otherwise.
		{reals(1, 1), reals(1e16, -1e16), reals(1e16, -1e16), 1, -1, 1},
		{reals(1, 1), reals(1, 1), reals(1, 1), 0x1p-53, stepDown(2), stepUp(2)},
		{reals(2, -3, 0), reals(1, 1, 1), reals(2, 2, 2), 0.5, -4.5, 1.5},
		{reals(1, 2, 3), reals(-1, 0, 1), reals(1, 1, 1), 1, 1, 7},
		{reals(-1, -2, -3), reals(-1, 0, 1), reals(1, 1, 1), 1, -7, -1},
		// As great as can be.
		{reals(1), reals(-greatest), reals(greatest), 0, -greatest, greatest},
		{reals(-1), reals(-greatest), reals(greatest), 0, -greatest, greatest},
		{reals(1, 1), reals(greatest, -greatest), reals(greatest, -greatest), 0, 0, 0},
		{reals(0.5, 0.5), reals(-greatest, -greatest), reals(greatest, greatest), 0, -greatest, greatest},
	}
}

func TestBoxStepByHand(t *testing.T) {
	for _, c := range stepCases() {
		n := len(c.row)
		a := ride{b: boxOf(c.lo, c.hi), w: evenReals(n, c.w), keep: boxOf(evenReals(n, -1), evenReals(n, 1)), steps: 1}
		for range n {
			a.m = append(a.m, slices.Clone(c.row))
		}
		got, ok := impl.BoxStep(a.m, a.b, a.w)
		checkBox(t, fmt.Sprintf("BoxStep of %v", c), got, ok, boxOf(evenReals(n, c.wantLo), evenReals(n, c.wantHi)), true)
		a.check(t)
	}
}

// Each row has its own place, its own w.
func TestBoxStepRowByRow(t *testing.T) {
	m := [][]float64{{1, 0, 0}, {0, -1, 0}, {1, 1, 1}}
	got, ok := impl.BoxStep(m, boxOf(reals(1, 2, 3), reals(2, 4, 6)), reals(0, 1, 2))
	checkBox(t, "BoxStep of three rows", got, ok, boxOf(reals(1, -5, 4), reals(2, -1, 14)), true)
	got, ok = impl.BoxStep([][]float64{{0, 1}, {-2, 0}}, boxOf(reals(1, 3), reals(2, 4)), reals(0.5, 0))
	checkBox(t, "BoxStep of two rows", got, ok, boxOf(reals(2.5, -4), reals(4.5, -2)), true)
	for n := 1; n <= mostState; n++ {
		for _, x := range edgeReals() {
			b := boxOf(evenReals(n, x), evenReals(n, max(x, 1)))
			got, ok := impl.BoxStep(oneReals(n, 1), b, make([]float64, n))
			checkBox(t, "BoxStep that changes nothing", got, ok, b, true)
			got, ok = impl.BoxStep(oneReals(n, 0), b, make([]float64, n))
			checkBox(t, "BoxStep of noughts", got, ok, boxOf(make([]float64, n), make([]float64, n)), true)
			got, ok = impl.BoxStep(oneReals(n, -1), b, make([]float64, n))
			checkBox(t, "BoxStep that turns round", got, ok, boxOf(evenReals(n, min(-x, -1)), evenReals(n, -x+0)), true)
		}
	}
}

// Whatever order the numbers stand in, the sums go along it: most boxes of drawn floats come out otherwise in another order.
func TestBoxStepGoesInOrder(t *testing.T) {
	r := rand.New(rand.NewSource(266))
	other := 0
	for range 300 {
		a := drawnRide(r, 3, nearReal)
		got, ok := impl.BoxStep(a.m, a.b, a.w)
		want, _ := a.step()
		checkBox(t, fmt.Sprintf("BoxStep of %x", a), got, ok, want, true)
		turned := a.clone()
		for _, l := range append(turned.m, turned.b.Lo, turned.b.Hi) {
			slices.Reverse(l)
		}
		back, ok := impl.BoxStep(turned.m, turned.b, turned.w)
		want, _ = turned.step()
		checkBox(t, fmt.Sprintf("BoxStep of %x", turned), back, ok, want, true)
		if !sameBox(back, got) {
			other++
		}
	}
	if other < 100 {
		t.Error("too few that come out otherwise:", other)
	}
}

func TestBoxStepOfDrawnRides(t *testing.T) {
	r := rand.New(rand.NewSource(267))
	told := map[bool]int{}
	for range 60 {
		for n := 1; n <= mostState; n++ {
			for _, one := range realKinds() {
				a := drawnRide(r, n, one)
				a.check(t)
				_, ok := impl.BoxStep(a.m, a.b, a.w)
				told[ok]++
				// Each number of another kind.
				kinds := realKinds()
				mixed := drawnRide(r, n, func(r *rand.Rand) float64 { return kinds[r.Intn(len(kinds))](r) })
				mixed.check(t)
			}
		}
	}
	if told[true] < 400 || told[false] < 150 {
		t.Error("too few of one kind:", told)
	}
}

// moved is m x and the noise, exactly.
func moved(m [][]float64, x []*big.Rat, noise []*big.Rat) []*big.Rat {
	next := []*big.Rat{}
	for r, row := range m {
		sum := noise[r]
		for k, by := range row {
			sum = plus(sum, times(exact(by), x[k]))
		}
		next = append(next, sum)
	}
	return next
}

func drawnPoint(r *rand.Rand, b impl.Box) []*big.Rat {
	x := []*big.Rat{}
	for i := range b.Lo {
		x = append(x, drawnWithin(r, exact(b.Lo[i]), exact(b.Hi[i])))
	}
	return x
}

// noiseBox has whatever noise is within w.
func noiseBox(w []float64) impl.Box {
	b := impl.Box{Hi: w}
	for _, x := range w {
		b.Lo = append(b.Lo, -x+0)
	}
	return b
}

// checkInside: an exact point lies in a box, by the test's own word and, where it can be told, by BoxHas.
func checkInside(t *testing.T, what string, b impl.Box, x []*big.Rat) {
	t.Helper()
	for i := range x {
		if x[i].Cmp(exact(b.Lo[i])) < 0 || x[i].Cmp(exact(b.Hi[i])) > 0 {
			t.Errorf("%s: %x does not have %.300v", what, b, x)
			return
		}
	}
	if l, told := tellRats(x); told && !impl.BoxHas(b, l) {
		t.Errorf("%s: BoxHas of %x and %.300v", what, b, l)
	}
}

// Every corner of a box with every corner of the noise, and drawn points, come into the new box.
func TestBoxStepHasWhateverComes(t *testing.T) {
	r := rand.New(rand.NewSource(268))
	for range 40 {
		for n := 1; n <= mostState; n++ {
			for _, one := range []func(*rand.Rand) float64{nearReal, smallReal, nearSum, leastReal} {
				a := drawnRide(r, n, one)
				next, ok := impl.BoxStep(a.m, a.b, a.w)
				if !ok {
					t.Fatalf("no step of %x", a)
				}
				what := fmt.Sprintf("step of %x", a)
				noise := noiseBox(a.w)
				for corner := range 1 << (2 * n) {
					checkInside(t, what, next, moved(a.m, cornerOf(a.b, corner), cornerOf(noise, corner>>n)))
				}
				for range 5 {
					checkInside(t, what, next, moved(a.m, drawnPoint(r, a.b), drawnPoint(r, noise)))
				}
			}
		}
	}
}

// cornerOf takes the Hi of each number whose bit is set.
func cornerOf(b impl.Box, bits int) []*big.Rat {
	x := []*big.Rat{}
	for i := range b.Lo {
		if bits>>i&1 == 1 {
			x = append(x, exact(b.Hi[i]))
		} else {
			x = append(x, exact(b.Lo[i]))
		}
	}
	return x
}

// Where sums and products are exact the new box is no greater than it must be: some corner comes to each edge.
func TestBoxStepIsTightWhereAllIsExact(t *testing.T) {
	r := rand.New(rand.NewSource(269))
	for range 100 {
		for n := 1; n <= mostState; n++ {
			a := drawnRide(r, n, smallReal)
			next, ok := impl.BoxStep(a.m, a.b, a.w)
			lo, hi := make([]bool, n), make([]bool, n)
			for corner := range 1 << (2 * n) {
				for i, x := range moved(a.m, cornerOf(a.b, corner), cornerOf(noiseBox(a.w), corner>>n)) {
					lo[i] = lo[i] || x.Cmp(exact(next.Lo[i])) == 0
					hi[i] = hi[i] || x.Cmp(exact(next.Hi[i])) == 0
				}
			}
			if !ok || slices.Contains(lo, false) || slices.Contains(hi, false) {
				t.Errorf("step of %x: %x, reached %v %v", a, next, lo, hi)
			}
		}
	}
}

// A box within another comes within what the other comes to.
func TestBoxStepKeepsWithin(t *testing.T) {
	r := rand.New(rand.NewSource(270))
	for range 200 {
		for n := 1; n <= mostState; n++ {
			a := drawnRide(r, n, nearReal)
			hull, _ := impl.BoxHull(a.b, a.keep)
			wide, ok := impl.BoxStep(a.m, hull, a.w)
			for _, b := range []impl.Box{a.b, a.keep} {
				next, okToo := impl.BoxStep(a.m, b, a.w)
				if !ok || !okToo || !impl.BoxWithin(next, wide) {
					t.Errorf("%x comes to %x, its hull to %x", b, next, wide)
				}
			}
		}
	}
}

// A product or a sum that does not exist, in each place of each row, above and below, at either edge of the box and at w.
func TestBoxStepThatDoesNotExist(t *testing.T) {
	for n := 1; n <= mostState; n++ {
		for at := range n * n {
			r, k := at/n, at%n
			for _, sign := range []float64{1, -1} {
				// The product of one edge, that of the other is 0.
				a := goodRide(n)
				a.m = oneReals(n, 0)
				a.m[r][k] = sign * greatest
				a.b = boxOf(make([]float64, n), evenReals(n, 2))
				a.checkNoStep(t)
				a.b = boxOf(evenReals(n, -2), make([]float64, n))
				a.checkNoStep(t)
				a.b = boxOf(evenReals(n, 2), evenReals(n, 2))
				a.checkNoStep(t)
				// Just above the greatest float.
				a.b = boxOf(make([]float64, n), evenReals(n, stepUp(1)))
				a.checkNoStep(t)
				a.b = boxOf(make([]float64, n), evenReals(n, 1))
				a.w = make([]float64, n)
				if _, ok := impl.BoxStep(a.m, a.b, a.w); !ok {
					t.Errorf("no step of %x", a)
				}
				a.check(t)
				// And at w.
				a.w[r] = least
				a.checkNoStep(t)
				a.w[r] = greatest
				a.checkNoStep(t)
			}
		}
	}
}

// checkNoStep: what is as said has a run of no step alone.
func (a ride) checkNoStep(t *testing.T) {
	t.Helper()
	if !a.isMove() {
		t.Fatalf("%x is not as said", a)
	}
	got, ok := impl.BoxStep(a.m, a.b, a.w)
	checkBox(t, fmt.Sprintf("BoxStep of %x", a), got, ok, impl.Box{}, false)
	for steps := range mostRun + 1 {
		run, ok := impl.BoxRun(a.m, a.b, a.w, steps)
		if steps == 0 {
			checkBoxes(t, fmt.Sprintf("BoxRun of %x, no steps", a), run, ok, []impl.Box{a.b}, true)
			continue
		}
		checkBoxes(t, fmt.Sprintf("BoxRun of %x, %d steps", a, steps), run, ok, nil, false)
		if number, ok := impl.FirstOut(a.m, a.b, a.w, a.keep, steps); number != 0 || ok {
			t.Errorf("FirstOut of %x, %d steps: %d %v", a, steps, number, ok)
		}
	}
	a.check(t)
}

// A sum that does not exist, though all its products do: at the second, at the third number, at w, above and below; and where a later number would bring it back.
func TestBoxStepOfSumsThatDoNotExist(t *testing.T) {
	g, h := greatest, greatest/2
	for _, c := range []struct {
		row []float64
		w   float64
		ok  bool
	}{
		{reals(g, g), 0, false}, {reals(g, least), 0, false}, {reals(-g, -least), 0, false}, {reals(-g, -g), 0, false}, {reals(g, 0), 0, true}, {reals(g, -least), 0, true}, {reals(0, g), least, false}, {reals(0, -g), least, false}, {reals(h, h), 0, true}, {reals(h, h), least, false}, {reals(-h, -h), least, false}, {reals(h, stepUp(h)), 0, false}, {reals(g, -g), g, true}, {reals(g, -g), 0, true},
		{reals(g, g, -g), 0, false}, {reals(g, -g, g), 0, true}, {reals(-g, g, g), 0, true}, {reals(h, h, least), 0, false}, {reals(h, h, -least), 0, true}, {reals(0, 0, g), least, false}, {reals(0, 0, g), 0, true}, {reals(-h, -h, -least), 0, false}, {reals(-h, h, -g), 0, true}, {reals(g, -g, 1), g, false}, {reals(g, -g, 0), g, true}, {reals(g, g, g), 0, false}, {reals(g, -least, g), 0, false},
	} {
		n := len(c.row)
		for r := range n {
			for _, sign := range []float64{1, -1} {
				a := goodRide(n)
				a.b = boxOf(evenReals(n, sign), evenReals(n, sign))
				a.m, a.w = oneReals(n, 1), make([]float64, n)
				a.m[r], a.w[r] = c.row, c.w
				if _, ok := impl.BoxStep(a.m, a.b, a.w); ok != c.ok {
					t.Errorf("BoxStep of %v: %v", c, ok)
				}
				if !c.ok {
					a.checkNoStep(t)
				}
				a.check(t)
			}
		}
	}
	// One edge alone goes beyond: the other one is 0.
	for _, lo := range []bool{true, false} {
		for n := 1; n <= mostState; n++ {
			a := goodRide(n)
			a.b, a.m = boxOf(make([]float64, n), evenReals(n, greatest)), oneReals(n, 1)
			if lo {
				a.b = boxOf(evenReals(n, -greatest), make([]float64, n))
			}
			a.w = make([]float64, n)
			a.check(t)
			a.w[n-1] = least
			a.checkNoStep(t)
		}
	}
}
