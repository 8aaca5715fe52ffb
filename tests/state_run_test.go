package tests

import (
	"math/rand"
	"slices"
	"strings"
	"testing"

	"loop.example/g00047/impl"
)

func TestStateStep(t *testing.T) {
	for _, c := range []struct {
		a    string
		b    string
		x    string
		u    string
		want string
	}{
		{"3", "2", "5", "7", "29"},
		{"0", "0", "5", "7", "0"},
		{"1/2", "-1/3", "1/5", "1", "-7/30"},
		{"1 2 | 3 4", "5 6", "7 8", "0", "23 53"},
		{"1 2 | 3 4", "5 6", "0 0", "2", "10 12"},
		{"1 2 | 3 4", "5 6", "7 8", "-1", "18 47"},
		{"0 1 | -2 -3", "0 1", "1 1/2", "3/2", "1/2 -2"},
		{"1 0 0 | 0 1 0 | 0 0 1", "0 0 0", "1 -2 1/3", "9", "1 -2 1/3"},
		{"1 2 3 | 4 5 6 | 7 8 9", "1 0 -1", "1 -1 1/2", "1/2", "1 2 3"},
		{"0 0 0 | 0 0 0 | 0 0 0", "1 2 3", "4 5 6", "1/3", "1/3 2/3 1"},
	} {
		s := system{a: square(c.a), b: strings.Fields(c.b), x: strings.Fields(c.x), u: []string{c.u}}
		got, ok := impl.StateStep(s.a, s.b, s.x, c.u)
		checkNumbers(t, "StateStep of "+c.a+", "+c.b+", "+c.x+", "+c.u, got, ok, strings.Fields(c.want), true)
		checkStates(t, s)
	}
}

func TestRunState(t *testing.T) {
	for _, c := range []struct {
		a    string
		b    string
		x    string
		u    string
		want string
	}{
		{"2", "1", "1", "0 0 1 0 -1", "2 | 4 | 9 | 18 | 35"},
		{"1/2", "1", "0", "1 1 1", "1 | 3/2 | 7/4"},
		{"1 1 | 0 1", "0 1", "0 0", "1 1 -1 -1", "0 1 | 1 2 | 3 1 | 4 0"},
		{"1 1 | 0 1", "1/2 1", "0 0", "1 0", "1/2 1 | 3/2 1"},
		{"0 1 0 | 0 0 1 | 0 0 0", "0 0 1", "1 2 3", "4 5 6 7 8", "2 3 4 | 3 4 5 | 4 5 6 | 5 6 7 | 6 7 8"},
		{"0 0 1 | 1 0 0 | 0 1 0", "0 0 0", "1 2 3", "1 1 1", "3 1 2 | 2 3 1 | 1 2 3"},
	} {
		s := system{a: square(c.a), b: strings.Fields(c.b), x: strings.Fields(c.x), u: strings.Fields(c.u)}
		if got, ok := impl.RunState(s.a, s.b, s.x, s.u); !sameRows(got, square(c.want)) || !ok {
			t.Errorf("RunState of %s, %s, %s, %s: %q %v, want %s", c.a, c.b, c.x, c.u, got, ok, c.want)
		}
		checkStates(t, s)
	}
}

// No u is as said: there is no state then, and true. MaxSteps are as said too, one more not.
func TestRunStateCounts(t *testing.T) {
	for n := 1; n <= mostState; n++ {
		for _, none := range [][]string{nil, {}} {
			s := goodSystem(n, 0)
			s.u = none
			if got, ok := impl.RunState(s.a, s.b, s.x, s.u); len(got) != 0 || !ok {
				t.Errorf("RunState of no u: %q %v", got, ok)
			}
			checkStates(t, s)
		}
		for steps := range 9 {
			s := goodSystem(n, steps)
			got, ok := impl.RunState(s.a, s.b, s.x, s.u)
			if ok != (steps <= mostSteps) || ok && len(got) != steps || !ok && len(got) != 0 {
				t.Errorf("RunState of %d u: %q %v", steps, got, ok)
			}
			checkStates(t, s)
		}
	}
}

func TestDrawnStates(t *testing.T) {
	r := rand.New(rand.NewSource(210))
	for i := range 500 {
		checkStates(t, drawnSystem(r, 1+i%mostState, 1+i%8))
		checkStates(t, smallSystem(r, 1+i%mostState))
	}
}

// What settles by its matrix comes near 0 by itself, step by step, and what does not settle goes away or stays.
func TestWhatSettlesComesToRest(t *testing.T) {
	r := rand.New(rand.NewSource(211))
	settled := 0
	for i := range 200 {
		n := 1 + i%mostState
		a := drawnSquare(r, n, 1)
		poly, _ := impl.CharPoly(a)
		is, ok := impl.Settles(poly)
		if !ok || !is {
			continue
		}
		settled++
		// 2 to the 9 steps by squares: all is small then, but for poles quite near the edge.
		power := ratRows(t, a)
		for range 9 {
			power = rowsByColumns(power, power)
		}
		for _, row := range power {
			for _, n := range row {
				if size, _ := n.Float64(); size > 1 || size < -1 {
					t.Errorf("%q settles, but has %g after many steps", a, size)
				}
			}
		}
	}
	if settled < 20 {
		t.Errorf("only %d settle", settled)
	}
}

// Watched and steered at once: what is believed comes to what is, and what is comes to 0, in as many steps as there are numbers and as many again.
func TestWatchedAndSteered(t *testing.T) {
	for n := 1; n <= mostState; n++ {
		s := goodSystem(n, 0)
		zero := slices.Repeat([]string{"0"}, n)
		goal := append(slices.Clone(zero), "1")
		k, ok := impl.PlaceGain(s.a, s.b, goal)
		l, okToo := impl.WatchGain(s.a, s.c, goal)
		if !ok || !okToo {
			t.Fatal("no gain")
		}
		x, guess := s.x, zero
		for range 2 * n {
			u := impl.SubFrac("0", textOf(product(ratList(t, k), ratList(t, guess))))
			off := textOf(minus(product(ratList(t, s.c), ratList(t, x)), product(ratList(t, s.c), ratList(t, guess))))
			guess, _ = impl.StateStep(s.a, s.b, guess, u)
			for i := range guess {
				guess[i] = impl.AddFrac(guess[i], impl.MulFrac(l[i], off))
			}
			x, ok = impl.StateStep(s.a, s.b, x, u)
			if !ok {
				t.Fatal("no state")
			}
		}
		if !slices.Equal(x, zero) || !slices.Equal(guess, zero) {
			t.Errorf("%q comes to %q, believed at %q", s, x, guess)
		}
	}
}
