package tests

import (
	"math/rand"
	"slices"
	"strings"
	"testing"

	"loop.example/g00047/impl"
)

// squaresOf has squares with a semicolon between them.
func squaresOf(s string) [][][]string {
	all := [][][]string{}
	for m := range strings.SplitSeq(s, ";") {
		all = append(all, square(m))
	}
	return all
}

func TestGainsAndCostsToGo(t *testing.T) {
	for _, c := range []struct {
		c     impl.Cost
		gains string
		toGo  string
	}{
		{costOf("1", "1", "0", "1", "1", 1), "1/2", "1/2 ; 1"},
		{costOf("1", "1", "1", "1", "1", 3), "8/13 | 3/5 | 1/2", "21/13 ; 8/5 ; 3/2 ; 1"},
		{costOf("2", "1", "1", "1", "0", 2), "1 | 0", "3 ; 1 ; 0"},
		{costOf("-2", "1/2", "1", "1/4", "3", 1), "-3", "4 ; 3"},
		{costOf("1/2", "-1", "0", "1/3", "2/3", 2), "-1/14 | -1/3", "1/84 ; 1/18 ; 2/3"},
		// The last one alone, or none at all, counts.
		{costOf("3", "2", "0", "1", "0", 2), "0 | 0", "0 ; 0 ; 0"},
		{costOf("3", "2", "5", "1", "0", 1), "0", "5 ; 0"},
		// Controls that move nothing.
		{costOf("3", "0", "1", "1", "1", 3), "0 | 0 | 0", "820 ; 91 ; 10 ; 1"},
		{costOf("0", "3", "2", "1", "7", 2), "0 | 0", "2 ; 2 ; 7"},
		// A place and its speed: what a push does to the speed, and one step later to the place.
		{costOf("1 1 | 0 1", "0 1", "1 0 | 0 0", "1", "1 0 | 0 1", 1), "0 1/2", "2 1 | 1 3/2 ; 1 0 | 0 1"},
		{costOf("1 1 | 0 1", "0 1", "0 0 | 0 0", "1", "1 0 | 0 0", 2), "1/2 1 | 0 0", "1/2 1 | 1 2 ; 1 1 | 1 1 ; 1 0 | 0 0"},
		// K is a row: of A the columns count.
		{costOf("1 2 | 3 4", "1 0", "0 0 | 0 0", "1", "1 0 | 0 0", 1), "1/2 1", "1/2 1 | 1 2 ; 1 0 | 0 0"},
		{costOf("1 2 | 3 4", "0 1", "0 0 | 0 0", "1", "0 0 | 0 1", 1), "3/2 2", "9/2 6 | 6 8 ; 0 0 | 0 1"},
		{costOf("1 2 | 3 4", "1 1", "1 -1 | -1 1", "2", "1 1 | 1 1", 1), "4/3 2", "19/3 7 | 7 13 ; 1 1 | 1 1"},
		// Three numbers, each of which becomes the one behind it.
		{costOf("0 1 0 | 0 0 1 | 0 0 0", "0 0 1", "1 0 0 | 0 1 0 | 0 0 1", "1", "1 0 0 | 0 2 0 | 0 0 3", 1), "0 0 0", "1 0 0 | 0 2 0 | 0 0 3 ; 1 0 0 | 0 2 0 | 0 0 3"},
		{costOf("0 1 0 | 0 0 1 | 1 0 0", "0 0 1", "0 0 0 | 0 0 0 | 0 0 0", "1", "0 0 0 | 0 0 0 | 0 0 1", 2), "0 0 0 | 1/2 0 0", "0 0 0 | 0 1/2 0 | 0 0 0 ; 1/2 0 0 | 0 0 0 | 0 0 0 ; 0 0 0 | 0 0 0 | 0 0 1"},
	} {
		if got, ok := impl.CostGains(c.c); !sameRows(got, square(c.gains)) || !ok {
			t.Errorf("CostGains of %v: %q %v, want %s", c.c, got, ok, c.gains)
		}
		if got, ok := impl.CostToGo(c.c); !sameSquares(got, squaresOf(c.toGo)) || !ok {
			t.Errorf("CostToGo of %v: %q %v, want %s", c.c, got, ok, c.toGo)
		}
		checkCost(t, c.c)
	}
}

// The last cost to go is Last itself, and nothing of it comes ahead unless it is carried there.
func TestLastOfCosts(t *testing.T) {
	for n := 1; n <= mostState; n++ {
		for steps := 1; steps <= mostSteps; steps++ {
			e := goodErrand(n, steps)
			if toGo, ok := impl.CostToGo(e.c); !ok || !sameRows(toGo[steps], e.c.Last) {
				t.Errorf("CostToGo of %v: %q %v, Last is %q", e.c, toGo, ok, e.c.Last)
			}
			e.c.A = identity(n, "0")
			toGo, ok := impl.CostToGo(e.c)
			gains, _ := impl.CostGains(e.c)
			for i := range steps {
				if !ok || !sameRows(toGo[i], e.c.Q) || !slices.Equal(gains[i], slices.Repeat([]string{"0"}, n)) {
					t.Errorf("%v: %q %q", e.c, toGo, gains)
				}
			}
		}
	}
}

// With more steps what is told of the last ones stays: it is put behind what comes ahead of it.
func TestMoreStepsAreAhead(t *testing.T) {
	r := rand.New(rand.NewSource(216))
	for i := range 60 {
		e := drawnErrand(t, r, 1+i%mostState, 1+i%2)
		e.c.Steps = mostSteps
		gains, gained := impl.CostGains(e.c)
		toGo, went := impl.CostToGo(e.c)
		if !gained || !went {
			continue
		}
		for steps := 1; steps < mostSteps; steps++ {
			e.c.Steps = steps
			less, ok := impl.CostGains(e.c)
			lessToGo, okToo := impl.CostToGo(e.c)
			if !sameRows(less, gains[mostSteps-steps:]) || !sameSquares(lessToGo, toGo[mostSteps-steps:]) || !ok || !okToo {
				t.Errorf("%v: %q %q, with five steps %q %q", e.c, less, lessToGo, gains, toGo)
			}
		}
	}
}

// Any cost to go may be Last of the steps ahead of it.
func TestCostsToGoAreLasts(t *testing.T) {
	r := rand.New(rand.NewSource(217))
	for i := range 60 {
		e := drawnErrand(t, r, 1+i%mostState, 1)
		steps := e.c.Steps
		gains, gained := impl.CostGains(e.c)
		toGo, went := impl.CostToGo(e.c)
		if !gained || !went {
			t.Fatalf("no answer for %v", e.c)
		}
		for at := 1; at <= steps; at++ {
			ahead := e.c
			ahead.Last, ahead.Steps = toGo[at], at
			k, ok := impl.CostGains(ahead)
			p, okToo := impl.CostToGo(ahead)
			if !sameRows(k, gains[:at]) || !sameSquares(p, toGo[:at+1]) || !ok || !okToo {
				t.Errorf("%v: %q %q, up to step %d %q %q", e.c, gains, toGo, at, k, p)
			}
		}
	}
}

// A cost to go is a spread that goes back: as a belief is that sees by B with the noise R, and is moved by A mirrored with the noise Q (chapter 10).
func TestCostsToGoAreBeliefs(t *testing.T) {
	r := rand.New(rand.NewSource(218))
	for i := range 60 {
		n := 1 + i%mostState
		e := drawnErrand(t, r, n, 1)
		toGo, ok := impl.CostToGo(e.c)
		if !ok {
			t.Fatalf("no answer for %v", e.c)
		}
		zero := slices.Repeat([]string{"0"}, n)
		for at := range e.c.Steps {
			seen, _ := impl.SeeBelief(impl.Belief{Mean: zero, Cov: toGo[at+1]}, impl.See{H: e.c.B, R: e.c.R, Z: "0"})
			moved, ok := impl.MoveBelief(seen, impl.Move{F: transposed(e.c.A), U: zero, Q: e.c.Q})
			if !ok || !sameRows(moved.Cov, toGo[at]) {
				t.Errorf("CostToGo of %v: %q ahead of step %d, by beliefs %q", e.c, toGo[at], at, moved.Cov)
			}
		}
	}
}

// Another one for all that counts changes no gain, and the costs to go evenly.
func TestCostsInOtherUnits(t *testing.T) {
	r := rand.New(rand.NewSource(219))
	for i := range 40 {
		n := 1 + i%mostState
		e, by := drawnErrand(t, r, n, 1), drawnLength(r, 2)
		other := e.clone()
		other.c.R = impl.MulFrac(e.c.R, by)
		for r := range n {
			for c := range n {
				other.c.Q[r][c], other.c.Last[r][c] = impl.MulFrac(e.c.Q[r][c], by), impl.MulFrac(e.c.Last[r][c], by)
			}
		}
		k, ok := impl.CostGains(e.c)
		otherK, okToo := impl.CostGains(other.c)
		p, _ := impl.CostToGo(e.c)
		otherP, _ := impl.CostToGo(other.c)
		if !ok || !okToo || !sameRows(k, otherK) || len(p) != len(otherP) {
			t.Errorf("CostGains of %v: %q, in other units %q", e.c, k, otherK)
		}
		for at := range p {
			for r := range n {
				for c := range n {
					if impl.MulFrac(p[at][r][c], by) != otherP[at][r][c] {
						t.Errorf("CostToGo of %v: %q, %s times as much %q", e.c, p, by, otherP)
					}
				}
			}
		}
		one, _ := impl.CostOf(e.c, e.x, e.u)
		if two, _ := impl.CostOf(other.c, e.x, e.u); impl.MulFrac(one, by) != two {
			t.Errorf("CostOf of %v: %q, %s times as much %q", e.c, one, by, two)
		}
	}
}

// Q, Last and B of noughts, with noughts along, and half sure but not sure.
func TestNoughtsInCosts(t *testing.T) {
	for n := 1; n <= mostState; n++ {
		ones := make([][]string, n)
		for i := range ones {
			ones[i] = slices.Repeat([]string{"1"}, n)
		}
		alone := identity(n, "0")
		alone[n-1][n-1] = "2"
		squares := [][][]string{identity(n, "0"), identity(n, "1"), ones, alone, goodInfo(n).M}
		lone := slices.Repeat([]string{"0"}, n)
		lone[0] = "-1/2"
		for _, q := range squares {
			for _, last := range squares {
				for _, b := range [][]string{slices.Repeat([]string{"0"}, n), lone, slices.Repeat([]string{"1"}, n)} {
					for _, steps := range []int{1, 3} {
						e := goodErrand(n, steps)
						e.c.Q, e.c.Last, e.c.B = q, last, b
						if !impl.GoodCost(e.c) {
							t.Errorf("GoodCost of %v is false", e.c)
						}
						e.check(t)
					}
				}
			}
		}
	}
}

func TestDrawnCosts(t *testing.T) {
	r := rand.New(rand.NewSource(220))
	for i := range 150 {
		drawnErrand(t, r, 1+i%mostState, 1+i%3).check(t)
		smallErrand(t, r, 1+i%mostState).check(t)
	}
	for i := range 12 {
		drawnErrand(t, r, 1+i%mostState, 10).check(t)
	}
}
