package tests

import (
	"fmt"
	"math/big"
	"math/rand"
	"slices"
	"testing"

	"loop.example/g00047/impl"
)

func TestGoodBox(t *testing.T) {
	if impl.MaxRun != mostRun || impl.MaxState != mostState {
		t.Error("limits", impl.MaxRun, impl.MaxState)
	}
	for _, c := range []struct {
		b    impl.Box
		want bool
	}{
		{boxOf(reals(-1), reals(1)), true},
		{boxOf(reals(1), reals(1)), true},
		{boxOf(reals(0), reals(0)), true},
		{boxOf(reals(stepUp(1)), reals(1)), false},
		{boxOf(reals(least), reals(0)), false},
		{boxOf(reals(0), reals(-least)), false},
		{boxOf(reals(-least), reals(0)), true},
		{boxOf(reals(-greatest), reals(greatest)), true},
		{boxOf(reals(greatest), reals(-greatest)), false},
		{boxOf(reals(1, 2), reals(3, 4)), true},
		{boxOf(reals(1, 2, 3), reals(1, 2, 3)), true},
		{boxOf(reals(1, 2, 3), reals(1, 2, stepDown(3))), false},
		{boxOf(reals(1, 2, 3), reals(1, stepDown(2), 3)), false},
		{boxOf(reals(1, 2, 3), reals(stepDown(1), 2, 3)), false},
		{boxOf(reals(1, 2, 3, 4), reals(1, 2, 3, 4)), false},
		{boxOf(nil, nil), false},
		{boxOf(reals(), reals()), false},
		{boxOf(nil, reals(1)), false},
		{boxOf(reals(1), nil), false},
		{boxOf(reals(1, 2), reals(3)), false},
		{boxOf(reals(1), reals(3, 4)), false},
		{boxOf(reals(1, 2, 3), reals(3, 4, 5, 6)), false},
	} {
		if got := impl.GoodBox(c.b); got != c.want {
			t.Errorf("GoodBox of %x: %v", c.b, got)
		}
		if isBox(c.b) != c.want {
			t.Errorf("the test's own word of %x", c.b)
		}
	}
}

// A Lo that is above its Hi by one float, or is it, or is below it by one, at every place.
func TestGoodBoxByOneFloat(t *testing.T) {
	for n := 1; n <= mostState; n++ {
		for at := range n {
			for _, x := range edgeReals() {
				a := goodRide(n)
				a.b.Lo[at], a.b.Hi[at] = x, x
				a.x[at] = impl.FracOfReal(x)
				if !impl.GoodBox(a.b) || !impl.BoxHas(a.b, a.x) {
					t.Errorf("%x is not good, or does not have itself", a.b)
				}
				if x < greatest {
					a.b.Hi[at] = stepUp(x)
					if !impl.GoodBox(a.b) {
						t.Errorf("%x is not good", a.b)
					}
					a.b.Lo[at], a.b.Hi[at] = stepUp(x), x
					a.checkNoBox(t)
				}
			}
		}
	}
}

func TestBoxHasByHand(t *testing.T) {
	for _, c := range []struct {
		b    impl.Box
		x    string
		want bool
	}{
		{boxOf(reals(-1), reals(1)), "0", true},
		{boxOf(reals(-1), reals(1)), "-1", true},
		{boxOf(reals(-1), reals(1)), "1", true},
		{boxOf(reals(-1), reals(1)), "-1/3", true},
		{boxOf(reals(-1), reals(1)), "1000001/1000000", false},
		{boxOf(reals(-1), reals(1)), "-1000001/1000000", false},
		// The float 0.1 is somewhat more than 1/10, 0.3 somewhat less than 3/10.
		{boxOf(reals(0.1), reals(0.3)), "1/10", false},
		{boxOf(reals(0.1), reals(0.3)), "3/10", false},
		{boxOf(reals(0.1), reals(0.3)), "1/5", true},
		{boxOf(reals(stepDown(0.1)), reals(stepUp(0.3))), "1/10", true},
		{boxOf(reals(stepDown(0.1)), reals(stepUp(0.3))), "3/10", true},
		{boxOf(reals(-greatest), reals(greatest)), nines(308), true},
		{boxOf(reals(-greatest), reals(greatest)), nines(309), false},
		{boxOf(reals(-greatest), reals(greatest)), "-" + nines(400), false},
		{boxOf(reals(0), reals(0)), "0", true},
		{boxOf(reals(0), reals(0)), "1/" + nines(400), false},
		{boxOf(reals(0), reals(least)), "1/" + nines(400), true},
		{boxOf(reals(-least), reals(0)), "-1/" + nines(400), true},
	} {
		if got := impl.BoxHas(c.b, []string{c.x}); got != c.want {
			t.Errorf("BoxHas of %x and %.60s: %v", c.b, c.x, got)
		}
	}
	b := boxOf(reals(0, -1, 2), reals(1, 1, 2))
	for _, c := range []struct {
		x    []string
		want bool
	}{
		{[]string{"1/2", "0", "2"}, true}, {[]string{"0", "-1", "2"}, true}, {[]string{"1", "1", "2"}, true}, {[]string{"-1/9", "0", "2"}, false}, {[]string{"10/9", "0", "2"}, false}, {[]string{"1", "10/9", "2"}, false}, {[]string{"1", "-10/9", "2"}, false}, {[]string{"1", "0", "19/9"}, false}, {[]string{"1", "0", "17/9"}, false}, {[]string{"2", "0", "1/2"}, false},
		{[]string{"1/2", "0"}, false}, {[]string{"1/2", "0", "2", "2"}, false}, {nil, false}, {[]string{}, false},
	} {
		if got := impl.BoxHas(b, c.x); got != c.want {
			t.Errorf("BoxHas of %v and %v: %v", b, c.x, got)
		}
	}
}

// sliver is a size above 0 that is less than what parts any two floats, so small that x and it can be told.
func sliver(x float64) *big.Rat {
	if x < -1 || x > 1 {
		return power(-300)
	}
	return power(-1300)
}

// An edge is within; just inside and just outside are told by less than any float can tell.
func TestBoxHasAtItsEdges(t *testing.T) {
	for n := 1; n <= mostState; n++ {
		for at := range n {
			for _, x := range edgeReals() {
				inner, outer := plus(exact(x), sliver(x)), minus(exact(x), sliver(x))
				a := goodRide(n)
				ask := func(v *big.Rat, want bool) {
					t.Helper()
					a.x[at] = textOf(v)
					if !isFrac(a.x[at]) || impl.BoxHas(a.b, a.x) != want {
						t.Errorf("BoxHas of %x and %.900v is not %v", a.b, a.x, want)
					}
				}
				a.b.Lo[at], a.b.Hi[at] = x, greatest
				ask(exact(x), true)
				ask(outer, false)
				ask(inner, x < greatest)
				a.b.Lo[at], a.b.Hi[at] = -greatest, x
				ask(exact(x), true)
				ask(outer, x > -greatest)
				ask(inner, false)
				a.b.Lo[at], a.b.Hi[at] = x, x
				ask(exact(x), true)
				ask(outer, false)
				ask(inner, false)
			}
		}
	}
}

func TestBoxHasOfDrawnPoints(t *testing.T) {
	r := rand.New(rand.NewSource(263))
	seen := [2]int{}
	for range 400 {
		for n := 1; n <= mostState; n++ {
			for _, one := range realKinds() {
				b := drawnBox(r, n, one)
				x := []*big.Rat{}
				for i := range n {
					x = append(x, drawnWithin(r, exact(b.Lo[i]), exact(b.Hi[i])))
				}
				l, told := tellRats(x)
				if !told {
					continue
				}
				want := hasBox(t, b, l)
				if !want || impl.BoxHas(b, l) != want {
					t.Errorf("%x and %.600v", b, l)
				}
				// One of them is put elsewhere.
				l[r.Intn(n)] = randomFrac(r, 6)
				if impl.BoxHas(b, l) != hasBox(t, b, l) {
					t.Errorf("%x and %.600v", b, l)
				}
				seen[map[bool]int{true: 1}[hasBox(t, b, l)]]++
			}
		}
	}
	if seen[0] < 500 || seen[1] < 500 {
		t.Error("too few of one kind:", seen)
	}
}

// drawnWithin is a number from lo to hi, both of them among what may come up.
func drawnWithin(r *rand.Rand, lo *big.Rat, hi *big.Rat) *big.Rat {
	switch r.Intn(5) {
	case 0:
		return lo
	case 1:
		return hi
	}
	return plus(lo, times(minus(hi, lo), big.NewRat(r.Int63n(1000), 999)))
}

// pairCase is two boxes and where they lie by each other, told by hand.
type pairCase struct {
	a, b      impl.Box
	within    bool
	meet      impl.Box
	met       bool
	hull      impl.Box
	withinToo bool // b within a
}

func pairCases() []pairCase {
	one := func(lo float64, hi float64) impl.Box { return boxOf(reals(lo), reals(hi)) }
	no := impl.Box{}
	return []pairCase{
		// In each other, alike, edges alike.
		{one(0, 1), one(0, 1), true, one(0, 1), true, one(0, 1), true},
		{one(0.25, 0.5), one(0, 1), true, one(0.25, 0.5), true, one(0, 1), false},
		{one(0, 0.5), one(0, 1), true, one(0, 0.5), true, one(0, 1), false},
		{one(0.5, 1), one(0, 1), true, one(0.5, 1), true, one(0, 1), false},
		{one(0, 1), one(0, stepDown(1)), false, one(0, stepDown(1)), true, one(0, 1), true},
		{one(0, 1), one(0, stepUp(1)), true, one(0, 1), true, one(0, stepUp(1)), false},
		{one(0, 1), one(least, 1), false, one(least, 1), true, one(0, 1), true},
		{one(0, 1), one(-least, 1), true, one(0, 1), true, one(-least, 1), false},
		// They meet in part, at one edge, not at all.
		{one(0, 2), one(1, 3), false, one(1, 2), true, one(0, 3), false},
		{one(0, 1), one(1, 3), false, one(1, 1), true, one(0, 3), false},
		{one(0, 1), one(stepUp(1), 3), false, no, false, one(0, 3), false},
		{one(0, 1), one(stepDown(1), 3), false, one(stepDown(1), 1), true, one(0, 3), false},
		{one(-3, -1), one(1, 3), false, no, false, one(-3, 3), false},
		{one(-least, 0), one(0, least), false, one(0, 0), true, one(-least, least), false},
		{one(-least, -least), one(0, least), false, no, false, one(-least, least), false},
		{one(-greatest, -1), one(1, greatest), false, no, false, one(-greatest, greatest), false},
		{one(-greatest, greatest), one(1, 1), false, one(1, 1), true, one(-greatest, greatest), true},
		// Boxes whose Lo is their Hi.
		{one(1, 1), one(1, 1), true, one(1, 1), true, one(1, 1), true},
		{one(1, 1), one(2, 2), false, no, false, one(1, 2), false},
		{one(1, 1), one(1, 2), true, one(1, 1), true, one(1, 2), false},
		{one(2, 2), one(1, 2), true, one(2, 2), true, one(1, 2), false},
		{one(1, 1), one(stepUp(1), stepUp(1)), false, no, false, one(1, stepUp(1)), false},
		{one(0, 0), one(-1, 1), true, one(0, 0), true, one(-1, 1), false},
		// More numbers: one of them alone decides.
		{boxOf(reals(0, 0), reals(1, 1)), boxOf(reals(0, 0), reals(1, 2)), true, boxOf(reals(0, 0), reals(1, 1)), true, boxOf(reals(0, 0), reals(1, 2)), false},
		{boxOf(reals(0, 0), reals(1, 3)), boxOf(reals(-1, 0), reals(1, 2)), false, boxOf(reals(0, 0), reals(1, 2)), true, boxOf(reals(-1, 0), reals(1, 3)), false},
		{boxOf(reals(0, 0, 0), reals(1, 1, 1)), boxOf(reals(0, 0, 2), reals(1, 1, 3)), false, no, false, boxOf(reals(0, 0, 0), reals(1, 1, 3)), false},
		{boxOf(reals(0, 0, 0), reals(1, 1, 1)), boxOf(reals(0, 2, 0), reals(1, 3, 1)), false, no, false, boxOf(reals(0, 0, 0), reals(1, 3, 1)), false},
		{boxOf(reals(2, 0, 0), reals(3, 1, 1)), boxOf(reals(0, 0, 0), reals(1, 1, 1)), false, no, false, boxOf(reals(0, 0, 0), reals(3, 1, 1)), false},
		{boxOf(reals(1, -1, 5), reals(2, 1, 5)), boxOf(reals(0, -2, 5), reals(3, 2, 5)), true, boxOf(reals(1, -1, 5), reals(2, 1, 5)), true, boxOf(reals(0, -2, 5), reals(3, 2, 5)), false},
	}
}

func (c pairCase) check(t *testing.T, a impl.Box, b impl.Box, within bool) {
	t.Helper()
	what := fmt.Sprintf("%x and %x", a, b)
	if impl.BoxWithin(a, b) != within {
		t.Errorf("BoxWithin of %s is not %v", what, within)
	}
	got, ok := impl.BoxMeet(a, b)
	checkBox(t, "BoxMeet of "+what, got, ok, c.meet, c.met)
	got, ok = impl.BoxHull(a, b)
	checkBox(t, "BoxHull of "+what, got, ok, c.hull, true)
	checkTwoBoxes(t, a, b)
}

func TestTwoBoxesByHand(t *testing.T) {
	for _, c := range pairCases() {
		c.check(t, c.a, c.b, c.within)
		c.check(t, c.b, c.a, c.withinToo)
	}
}

// A box and itself, and with one edge out or in by one float, at every place.
func TestTwoBoxesByOneFloat(t *testing.T) {
	for n := 1; n <= mostState; n++ {
		for at := range n {
			for _, lo := range edgeReals() {
				a := goodRide(n).b
				a.Lo[at], a.Hi[at] = lo, max(lo, 7)
				if !impl.BoxWithin(a, a) {
					t.Errorf("%x does not lie in itself", a)
				}
				for _, edge := range []func(impl.Box) []float64{func(b impl.Box) []float64 { return b.Lo }, func(b impl.Box) []float64 { return b.Hi }} {
					for _, by := range []func(float64) float64{stepUp, stepDown} {
						b := cloneBox(a)
						edge(b)[at] = by(edge(b)[at])
						checkTwoBoxes(t, a, b)
						checkTwoBoxes(t, b, a)
						if isBox(b) && impl.BoxWithin(a, b) == impl.BoxWithin(b, a) {
							t.Errorf("%x and %x lie in each other, or neither does", a, b)
						}
					}
				}
			}
		}
	}
}

func TestTwoBoxesOfUnlikeNumbers(t *testing.T) {
	for n := 1; n <= mostState; n++ {
		for k := 1; k <= mostState; k++ {
			a, b := goodRide(n).b, goodRide(k).b
			meet, met := impl.BoxMeet(a, b)
			hull, ok := impl.BoxHull(a, b)
			if n == k {
				checkBox(t, "BoxMeet of alike ones", meet, met, a, true)
				checkBox(t, "BoxHull of alike ones", hull, ok, a, true)
				continue
			}
			checkBox(t, "BoxMeet of unlike ones", meet, met, impl.Box{}, false)
			checkBox(t, "BoxHull of unlike ones", hull, ok, impl.Box{}, false)
			if impl.BoxWithin(a, b) {
				t.Error("a box lies in one of other numbers")
			}
			c := goodRide(n)
			c.keep = goodRide(k).keep
			if out, ok := impl.FirstOut(c.m, c.b, c.w, c.keep, 1); out != 0 || ok {
				t.Error("FirstOut of a keep of other numbers:", out, ok)
			}
			c.check(t)
		}
	}
}

// What lies in both boxes lies in the meet, and nothing else does; what lies in one of them lies in the hull, and no less box has both.
func TestTwoBoxesByTheirPoints(t *testing.T) {
	r := rand.New(rand.NewSource(264))
	kinds := map[bool]int{}
	for range 300 {
		for n := 1; n <= mostState; n++ {
			one := []func(*rand.Rand) float64{smallReal, nearSum, leastReal}[r.Intn(3)]
			a, b := drawnBox(r, n, one), drawnBox(r, n, one)
			checkTwoBoxes(t, a, b)
			meet, met := impl.BoxMeet(a, b)
			hull, ok := impl.BoxHull(a, b)
			kinds[met]++
			if !ok || !impl.BoxWithin(a, hull) || !impl.BoxWithin(b, hull) || met && (!impl.BoxWithin(meet, a) || !impl.BoxWithin(meet, b)) {
				t.Errorf("%x and %x: meet %x, hull %x", a, b, meet, hull)
			}
			for range 10 {
				x := textsOf(realList(r, n, one))
				inA, inB := impl.BoxHas(a, x), impl.BoxHas(b, x)
				if impl.BoxHas(meet, x) != (inA && inB) || (inA || inB) && !impl.BoxHas(hull, x) {
					t.Errorf("%x and %x: meet %x, hull %x, at %v", a, b, meet, hull, x)
				}
			}
			for i := range n {
				less := cloneBox(hull)
				less.Lo[i] = stepUp(less.Lo[i])
				more := cloneBox(hull)
				more.Hi[i] = stepDown(more.Hi[i])
				if impl.BoxWithin(a, less) && impl.BoxWithin(b, less) || impl.BoxWithin(a, more) && impl.BoxWithin(b, more) {
					t.Errorf("%x and %x: a less box than %x has both", a, b, hull)
				}
			}
		}
	}
	if kinds[true] < 100 || kinds[false] < 100 {
		t.Error("too few of one kind:", kinds)
	}
}

func textsOf(l []float64) []string {
	texts := []string{}
	for _, x := range l {
		texts = append(texts, impl.FracOfReal(x))
	}
	return texts
}

func TestTwoDrawnBoxes(t *testing.T) {
	r := rand.New(rand.NewSource(265))
	for range 200 {
		for n := 1; n <= mostState; n++ {
			for _, one := range realKinds() {
				a, b := drawnBox(r, n, one), drawnBox(r, n, one)
				// Some edges are alike.
				for i := range n {
					if r.Intn(3) == 0 {
						b.Lo[i] = min(a.Lo[i], b.Hi[i])
					}
					if r.Intn(3) == 0 {
						b.Hi[i] = max(a.Hi[i], b.Lo[i])
					}
				}
				checkTwoBoxes(t, a, b)
				checkTwoBoxes(t, b, a)
				checkTwoBoxes(t, a, cloneBox(a))
				if !slices.Equal(a.Lo, b.Lo) && impl.BoxWithin(a, b) && impl.BoxWithin(b, a) {
					t.Errorf("%x and %x lie in each other", a, b)
				}
			}
		}
	}
}
