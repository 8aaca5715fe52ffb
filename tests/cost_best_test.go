package tests

import (
	"math/rand"
	"slices"
	"strings"
	"testing"

	"loop.example/g00047/impl"
)

func TestBestControls(t *testing.T) {
	for _, c := range []struct {
		c    impl.Cost
		x    string
		u    string
		cost string
	}{
		{costOf("1", "1", "0", "1", "1", 1), "2", "-1", "2"},
		{costOf("1", "1", "0", "1", "1", 1), "-2", "1", "2"},
		{costOf("1", "1", "0", "1", "1", 1), "0", "0", "0"},
		{costOf("1", "1", "1", "1", "1", 3), "13", "-8 -3 -1", "273"},
		{costOf("1", "-1", "1", "1", "1", 3), "13", "8 3 1", "273"},
		{costOf("2", "1", "1", "1", "0", 2), "1/3", "-1/3 0", "1/3"},
		{costOf("-2", "1/2", "1", "1/4", "3", 1), "1", "3", "4"},
		{costOf("3", "2", "0", "1", "0", 2), "7", "0 0", "0"},
		{costOf("3", "0", "1", "1", "1", 3), "-1", "0 0 0", "820"},
		// The place alone counts in the end, and only the first push moves it by then.
		{costOf("1 1 | 0 1", "0 1", "0 0 | 0 0", "1", "1 0 | 0 0", 2), "2 0", "-1 0", "2"},
		{costOf("1 1 | 0 1", "0 1", "0 0 | 0 0", "1", "1 0 | 0 0", 2), "0 1", "-1 0", "2"},
		{costOf("1 2 | 3 4", "1 1", "1 -1 | -1 1", "2", "1 1 | 1 1", 1), "3 -1", "-2", "28"},
		{costOf("0 1 0 | 0 0 1 | 1 0 0", "0 0 1", "0 0 0 | 0 0 0 | 0 0 0", "1", "0 0 0 | 0 0 0 | 0 0 1", 2), "5 6 7", "0 -3", "18"},
	} {
		u, cost, ok := impl.BestControls(c.c, strings.Fields(c.x))
		if !slices.Equal(u, strings.Fields(c.u)) || cost != c.cost || !ok {
			t.Errorf("BestControls of %v, %s: %q %q %v, want %s, %s", c.c, c.x, u, cost, ok, c.u, c.cost)
		}
		checkBest(t, c.c, strings.Fields(c.x))
	}
}

// By nothing but what controls cost: where no one control changes it any more.
func TestBestControlsByCostsAlone(t *testing.T) {
	r := rand.New(rand.NewSource(223))
	for i := range 60 {
		for _, e := range []errand{drawnErrand(t, r, 1+i%mostState, 1), smallErrand(t, r, 1+i%mostState)} {
			k, x := billOf(t, e.c), ratList(t, e.x)
			want := k.least(x)
			u, cost, ok := impl.BestControls(e.c, e.x)
			if l, fits := tellRats(want); !fits || !slices.Equal(u, l) || cost != textOf(k.total(x, want)) || !ok {
				t.Errorf("BestControls of %v, %q: %q %q %v, but %q cost least", e.c, e.x, u, cost, ok, l)
			}
		}
	}
}

// u = -K x at each step, x being what chapter 14 says that the controls so far lead to.
func TestBestControlsAreByGains(t *testing.T) {
	r := rand.New(rand.NewSource(224))
	for i := range 100 {
		n := 1 + i%mostState
		e := drawnErrand(t, r, n, 1)
		gains, _ := impl.CostGains(e.c)
		u, cost, ok := impl.BestControls(e.c, e.x)
		if !ok {
			t.Fatalf("no answer for %v, %q", e.c, e.x)
		}
		x := e.x
		for at := range u {
			if want := textOf(negative(product(ratList(t, gains[at]), ratList(t, x)))); u[at] != want {
				t.Errorf("BestControls of %v, %q: %q at step %d, by its gain %q", e.c, e.x, u[at], at, want)
			}
			x, _ = impl.StateStep(e.c.A, e.c.B, x, u[at])
		}
		if total, ok := impl.CostOf(e.c, e.x, u); total != cost || !ok {
			t.Errorf("BestControls of %v, %q: %q, CostOf %q %v", e.c, e.x, cost, total, ok)
		}
	}
}

// Any other controls cost more by a sum of squares, and the best ones by none.
func TestWhatOtherControlsCost(t *testing.T) {
	r := rand.New(rand.NewSource(225))
	for i := range 60 {
		e := drawnErrand(t, r, 1+i%mostState, 1)
		u, _, ok := impl.BestControls(e.c, e.x)
		if !ok {
			t.Fatalf("no answer for %v, %q", e.c, e.x)
		}
		checkMore(t, e.c, e.x, u)
		checkMore(t, e.c, e.x, e.u)
		for _, y := range otherControls(r, u) {
			checkMore(t, e.c, e.x, y)
		}
	}
}

// What is best for all steps is best for the rest of them, from wherever they have led to.
func TestBestControlsGoOn(t *testing.T) {
	r := rand.New(rand.NewSource(226))
	for i := range 60 {
		e := drawnErrand(t, r, 1+i%mostState, 1)
		u, _, _ := impl.BestControls(e.c, e.x)
		rest, x := e.c, e.x
		for at := range u {
			rest.Steps = len(u) - at
			if y, _, ok := impl.BestControls(rest, x); !ok || !slices.Equal(y, u[at:]) {
				t.Errorf("BestControls of %v, %q: %q, from step %d on %q", e.c, e.x, u, at, y)
			}
			x, _ = impl.StateStep(e.c.A, e.c.B, x, u[at])
		}
	}
}

// From so many times as far the controls are so many times as great, and cost the square of that; from two places added they are added.
func TestBestControlsElsewhere(t *testing.T) {
	r := rand.New(rand.NewSource(227))
	for i := range 40 {
		n := 1 + i%mostState
		e, by, other := drawnErrand(t, r, n, 1), randomFrac(r, 2), drawnTexts(r, n, 1)
		far, sum := []string{}, []string{}
		for k := range n {
			far, sum = append(far, impl.MulFrac(e.x[k], by)), append(sum, impl.AddFrac(e.x[k], other[k]))
		}
		u, cost, _ := impl.BestControls(e.c, e.x)
		v, farCost, _ := impl.BestControls(e.c, far)
		w, _, _ := impl.BestControls(e.c, other)
		both, _, _ := impl.BestControls(e.c, sum)
		for k := range e.c.Steps {
			if v[k] != impl.MulFrac(u[k], by) || both[k] != impl.AddFrac(u[k], w[k]) {
				t.Errorf("BestControls of %v: %q from %q, %q from %q, %q from %q, %q from %q", e.c, u, e.x, v, far, w, other, both, sum)
			}
		}
		if farCost != impl.MulFrac(cost, impl.MulFrac(by, by)) {
			t.Errorf("BestControls of %v: %q from %q, %q from %q", e.c, cost, e.x, farCost, far)
		}
	}
}

// From 0 on nothing need be done, and nothing is spent, whatever the cost is.
func TestBestControlsFromNought(t *testing.T) {
	for n := 1; n <= mostState; n++ {
		for steps := 1; steps <= mostSteps; steps++ {
			e := goodErrand(n, steps)
			zero := slices.Repeat([]string{"0"}, n)
			u, cost, ok := impl.BestControls(e.c, zero)
			if !slices.Equal(u, slices.Repeat([]string{"0"}, steps)) || cost != "0" || !ok {
				t.Errorf("BestControls of %v from 0: %q %q %v", e.c, u, cost, ok)
			}
			checkBest(t, e.c, zero)
		}
	}
}

// Every cost of one number and two steps, and every one of two numbers and one step, of few texts.
func TestAllSmallErrands(t *testing.T) {
	eachTexts([]string{"-1", "0", "2"}, 4, func(l []string) {
		if l[2] == "-1" || l[3] == "-1" {
			return
		}
		for steps := 1; steps <= 2; steps++ {
			errand{costOf(l[0], l[1], l[2], "1/2", l[3], steps), []string{"3"}, slices.Repeat([]string{"-1/2"}, steps)}.check(t)
		}
	})
	eachTexts([]string{"-1", "0", "1"}, 6, func(l []string) {
		c := impl.Cost{A: [][]string{l[:2], l[2:4]}, B: l[4:], Q: [][]string{{"1", "1"}, {"1", "2"}}, R: "1", Last: [][]string{{"2", "0"}, {"0", "0"}}, Steps: 1}
		x := []string{"1", "-3"}
		checkCost(t, c)
		checkBest(t, c, x)
		checkTotal(t, c, x, []string{"2"})
	})
}
