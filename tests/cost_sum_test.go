package tests

import (
	"math/rand"
	"slices"
	"strings"
	"testing"

	"loop.example/g00047/impl"
)

func TestCostOf(t *testing.T) {
	place := costOf("1 1 | 0 1", "0 1", "1 0 | 0 0", "2", "0 0 | 0 3", 2)
	for _, c := range []struct {
		c    impl.Cost
		x    string
		u    string
		want string
	}{
		{costOf("1", "1", "0", "1", "1", 1), "2", "-1", "2"},
		{costOf("1", "1", "0", "1", "1", 1), "2", "0", "4"},
		{costOf("1", "1", "0", "1", "1", 1), "2", "-2", "4"},
		// x Q x + R u u + Last (A x + B u)^2, each by a number of its own.
		{costOf("2", "3", "5", "7", "11", 1), "13", "17", "68087"},
		{costOf("2", "3", "5", "7", "11", 1), "13", "-17", "9743"},
		{costOf("1/2", "-1/3", "1/5", "1/7", "1/11", 1), "-1", "1/2", "3827/13860"},
		// Step by step: x is 1, 2, 4, and Last is for the last one alone.
		{costOf("2", "1", "1", "1", "0", 2), "1", "0 0", "5"},
		{costOf("2", "1", "0", "1", "1", 2), "1", "0 0", "16"},
		{costOf("2", "1", "1", "1", "1", 5), "1", "0 0 0 0 0", "1365"},
		{costOf("2", "1", "0", "3", "0", 3), "9", "1 2 3", "42"},
		{costOf("2", "1", "0", "3", "1", 3), "0", "1 0 0", "19"},
		{costOf("2", "1", "0", "3", "1", 3), "0", "0 0 1", "4"},
		{costOf("0", "0", "1", "1", "1", 3), "5", "0 0 0", "25"},
		{place, "1 0", "0 0", "2"},
		{place, "0 1", "0 0", "4"},
		{place, "0 1", "0 -1", "3"},
		{place, "0 1", "-1 0", "3"},
		{place, "1 -1", "1/2 1/2", "2"},
		// What stands beside the line along counts twice.
		{costOf("0 0 | 0 0", "0 0", "1 1/2 | 1/2 1", "1", "0 0 | 0 0", 1), "3 -2", "0", "7"},
		{costOf("0 0 | 0 0", "2 1", "0 0 | 0 0", "1/9", "4 -2 | -2 1", 1), "3 -2", "3", "82"},
		{costOf("0 0 1 | 1 0 0 | 0 1 0", "0 0 0", "1 0 0 | 0 0 0 | 0 0 0", "1", "0 0 0 | 0 1 0 | 0 0 0", 3), "1 2 3", "0 0 0", "18"},
		{costOf("1 2 3 | 0 1 0 | 0 0 1", "1 0 -1", "0 0 0 | 0 0 0 | 0 0 0", "1", "1 0 0 | 0 1 0 | 0 0 1", 1), "1 1 1", "1", "51"},
	} {
		x, u := strings.Fields(c.x), strings.Fields(c.u)
		if got, ok := impl.CostOf(c.c, x, u); got != c.want || !ok {
			t.Errorf("CostOf of %v, %s, %s: %q %v, want %s", c.c, c.x, c.u, got, ok, c.want)
		}
		checkTotal(t, c.c, x, u)
	}
}

// Step by step by chapter 14: what all states and controls but the last state cost, and Last for that one.
func TestCostsByStates(t *testing.T) {
	r := rand.New(rand.NewSource(221))
	for i := range 150 {
		n := 1 + i%mostState
		e := drawnErrand(t, r, n, 2)
		states, ok := impl.RunState(e.c.A, e.c.B, e.x, e.u)
		if !ok {
			t.Fatal("no states")
		}
		states = append([][]string{e.x}, states...)
		sum := bracket(ratList(t, states[e.c.Steps]), ratRows(t, e.c.Last))
		for k, u := range e.u {
			sum = plus(sum, plus(bracket(ratList(t, states[k]), ratRows(t, e.c.Q)), times(rat(t, e.c.R), times(rat(t, u), rat(t, u)))))
		}
		if got, ok := impl.CostOf(e.c, e.x, e.u); got != textOf(sum) || !ok {
			t.Errorf("CostOf of %v, %q, %q: %q %v, by states %q", e.c, e.x, e.u, got, ok, textOf(sum))
		}
		checkTotal(t, e.c, e.x, e.u)
	}
}

// The first step and all others: what the first one costs, and CostOf of the rest from where it leads to.
func TestCostsGoOn(t *testing.T) {
	r := rand.New(rand.NewSource(222))
	for i := range 60 {
		n := 1 + i%mostState
		e := drawnErrand(t, r, n, 2)
		if e.c.Steps == 1 {
			continue
		}
		all, ok := impl.CostOf(e.c, e.x, e.u)
		next, okToo := impl.StateStep(e.c.A, e.c.B, e.x, e.u[0])
		rest := e.c
		rest.Steps--
		behind, okRest := impl.CostOf(rest, next, e.u[1:])
		first := e.c
		first.Steps, first.Last = 1, identity(n, "0")
		ahead, okFirst := impl.CostOf(first, e.x, e.u[:1])
		if !ok || !okToo || !okRest || !okFirst || impl.AddFrac(ahead, behind) != all {
			t.Errorf("CostOf of %v, %q, %q: %q, the first step %q, the rest %q", e.c, e.x, e.u, all, ahead, behind)
		}
	}
}

// x as long as A, u as many as Steps: not one less and not one more.
func TestCountsOfCosts(t *testing.T) {
	for n := 1; n <= mostState; n++ {
		for steps := 1; steps <= mostSteps; steps++ {
			e := goodErrand(n, steps)
			for count := range 8 {
				l := slices.Repeat([]string{"1/2"}, count)
				if count != n {
					checkNoTotal(t, e.c, l, e.u)
					checkNoBest(t, e.c, l)
				}
				if _, ok := impl.CostOf(e.c, e.x, l); ok != (count == steps) {
					t.Errorf("CostOf of %d steps, %d controls: %v", steps, count, ok)
				}
				checkTotal(t, e.c, e.x, l)
			}
			for _, none := range [][]string{nil, {}} {
				checkNoTotal(t, e.c, none, e.u)
				checkNoTotal(t, e.c, e.x, none)
				checkNoTotal(t, e.c, none, none)
				checkNoBest(t, e.c, none)
			}
			checkNoTotal(t, e.c, e.x, slices.Repeat([]string{"0"}, 1000))
			checkNoTotal(t, e.c, slices.Repeat([]string{"0"}, 1000), e.u)
			checkNoBest(t, e.c, slices.Repeat([]string{"0"}, 1000))
		}
	}
}
