package tests

import (
	"math/rand"
	"slices"
	"testing"

	"loop.example/g00047/impl"
)

func TestChartNumbers(t *testing.T) {
	if impl.MaxStates != mostStates || impl.MaxArrows != mostArrows || impl.MaxEvents != manyEvents {
		t.Error(impl.MaxStates, impl.MaxArrows, impl.MaxEvents)
	}
}

func TestGoodChartByHand(t *testing.T) {
	for _, c := range []struct {
		states, arrows string
		want           bool
	}{
		// One state, two, a chain, several beneath one, any child as the first one.
		{"-1/-1", "", true},
		{"-1/1 0/-1", "", true},
		{"-1/1 0/2 1/-1", "", true},
		{"-1/1 0/-1 0/-1", "", true},
		{"-1/2 0/-1 0/-1", "", true},
		{"-1/3 0/-1 0/-1 0/-1", "", true},
		{"-1/1 0/-1 0/3 2/-1", "1:0>2 2:1>1 0:1>2", true},
		{"-1/2 0/4 0/3 2/-1 1/-1", "", true},
		{"", "", false},
		{"", "0:0>0", false},
		// The Parent of the first state is -1, and only of it.
		{"0/-1", "", false},
		{"-2/-1", "", false},
		{"1/-1", "", false},
		{"1/1 0/-1", "", false},
		{"0/1 0/-1", "", false},
		{"0/0", "", false},
		{"-1/-1 -1/-1", "", false},
		{"-1/1 0/-1 -1/-1", "", false},
		{"-1/1 -1/-1", "", false},
		// A Parent is ahead of its state: not the state itself, none behind it, none below 0.
		{"-1/-1 1/-1", "", false},
		{"-1/-1 1/1", "", false},
		{"-1/1 0/-1 2/-1", "", false},
		{"-1/1 0/-1 2/2", "", false},
		{"-1/1 0/-1 3/-1 0/-1", "", false},
		{"-1/1 0/-1 3/-1 0/2", "", false},
		{"-1/2 2/-1 0/1", "", false},
		{"-1/1 2/2 1/1", "", false},
		{"-1/1 0/-1 -2/-1", "", false},
		{"-1/1 0/-1 4/-1", "", false},
		// The First of a leaf is -1.
		{"-1/0", "", false},
		{"-1/1", "", false},
		{"-1/-2", "", false},
		{"-1/1 0/0", "", false},
		{"-1/1 0/1", "", false},
		{"-1/1 0/2", "", false},
		{"-1/1 0/-2", "", false},
		{"-1/1 0/-1 0/1", "", false},
		// The First of another one is one of its children: not -1, not another's, no grandchild, none beyond, not itself, not its parent.
		{"-1/-1 0/-1", "", false},
		{"-1/-2 0/-1", "", false},
		{"-1/0 0/-1", "", false},
		{"-1/2 0/-1", "", false},
		{"-1/1 0/-1 0/-1 2/-1", "", false},
		{"-1/1 0/3 0/4 2/-1 1/-1", "", false},
		{"-1/1 0/4 0/3 2/-1 1/-1", "", true},
		{"-1/2 0/2 1/-1", "", false},
		{"-1/3 0/2 1/3 2/-1", "", false},
		{"-1/1 0/0 1/-1", "", false},
		{"-1/1 0/1 1/-1", "", false},
		{"-1/1 0/2 1/-1", "", true},
		{"-1/1 0/3 1/-1", "", false},
		// Arrows go from states to states, on events; several alike are none the worse.
		{"-1/-1", "0:0>0", true},
		{"-1/-1", "0:5>0", true},
		{"-1/-1", "0:6>0", false},
		{"-1/-1", "0:-1>0", false},
		{"-1/-1", "1:0>0", false},
		{"-1/-1", "-1:0>0", false},
		{"-1/-1", "0:0>1", false},
		{"-1/-1", "0:0>-1", false},
		{"-1/1 0/-1", "0:0>1 1:5>0 1:5>0 1:5>1", true},
		{"-1/1 0/-1", "2:0>1", false},
		{"-1/1 0/-1", "0:0>2", false},
		{"-1/1 0/-1", "0:0>1 1:6>0", false},
		{"-1/1 0/-1", "0:0>1 1:5>0 -1:5>0", false},
		{"-1/1 0/-1", "0:0>-1 1:5>0", false},
	} {
		chart := chartOf(c.states, c.arrows)
		if got := impl.GoodChart(chart); got != c.want {
			t.Errorf("GoodChart of %q, %q: %v", c.states, c.arrows, got)
		}
		checkChart(t, chart)
	}
}

// As many states and arrows as there may be, and one more, in a chain, in a star, and between both.
func TestGoodChartSizes(t *testing.T) {
	for n := range 15 {
		for i, states := range [][]impl.State{chainOf(n), starOf(max(n, 1))[:n], nestOf(n)} {
			for _, many := range []int{0, 1, mostArrows - 1, mostArrows, mostArrows + 1, 2 * mostArrows, 1000} {
				c := impl.Chart{States: states, Arrows: slices.Repeat([]impl.Arrow{{From: n - 1, On: manyEvents - 1, To: 0}}, many)}
				if got, want := impl.GoodChart(c), n >= 1 && n <= 12 && many <= 24; got != want {
					t.Errorf("GoodChart of form %d, %d states, %d arrows: %v", i, n, many, got)
				}
				checkChart(t, c)
			}
			if c := (impl.Chart{States: states}); impl.GoodChart(c) != (n >= 1 && n <= 12) {
				t.Errorf("GoodChart of form %d, %d states, no arrows", i, n)
			}
		}
	}
	for _, n := range []int{13, 100, 5000} {
		if c := (impl.Chart{States: chainOf(n)}); impl.GoodChart(c) {
			t.Errorf("GoodChart of %d states", n)
		}
	}
}

// nestOf has two states beneath each one, as long as there are any.
func nestOf(n int) []impl.State {
	parents := []int{}
	for i := range n {
		parents = append(parents, (i+1)/2-1)
	}
	return statesUnder(parents, lastOfMany)
}

// All lists of up to three states, of numbers from -2 to one beyond.
func TestGoodChartOfAllSmallStates(t *testing.T) {
	seen := map[bool]int{}
	for n := 1; n <= 3; n++ {
		values, many := n+4, 1
		for range 2 * n {
			many *= values
		}
		for code := range many {
			c, rest := impl.Chart{}, code
			for range n {
				c.States = append(c.States, impl.State{Parent: rest%values - 2, First: rest/values%values - 2})
				rest /= values * values
			}
			if got, want := impl.GoodChart(c), isChart(c); got != want {
				t.Fatalf("GoodChart of %v: %v", c, got)
			}
			seen[impl.GoodChart(c)]++
		}
	}
	// One of one state, one of two; of three a chain, and a star with two choices of First.
	if seen[true] != 1+1+3 {
		t.Errorf("good ones: %d", seen[true])
	}
}

// All arrows between numbers from -2 to one beyond, by themselves and behind a good one.
func TestGoodChartOfAllArrows(t *testing.T) {
	for _, states := range []string{"-1/-1", "-1/1 0/-1", "-1/2 0/-1 0/3 2/-1"} {
		c := chartOf(states, "")
		n := len(c.States)
		for from := -2; from <= n+1; from++ {
			for to := -2; to <= n+1; to++ {
				for on := -2; on <= manyEvents+1; on++ {
					a := impl.Arrow{From: from, On: on, To: to}
					want := isAmong(from, n) && isAmong(to, n) && isAmong(on, 6)
					for _, arrows := range [][]impl.Arrow{{a}, {{From: 0, On: 0, To: 0}, a}, {a, {From: n - 1, On: 5, To: n - 1}}} {
						c.Arrows = arrows
						if got := impl.GoodChart(c); got != want {
							t.Errorf("GoodChart of %v: %v", c, got)
						}
					}
				}
			}
		}
	}
}

// Drawn good charts with one number changed by a little.
func TestGoodChartOfDrawnCharts(t *testing.T) {
	r := rand.New(rand.NewSource(340))
	seen := map[bool]int{}
	for range 3000 {
		c := drawnChart(r)
		if !impl.GoodChart(c) {
			t.Fatalf("GoodChart of %v is false", c)
		}
		checkChart(t, c)
		places := chartNumbers(&c)
		*places[r.Intn(len(places))] += drawnBetween(r, -3, 3)
		checkChart(t, c)
		seen[impl.GoodChart(c)]++
	}
	if seen[true] < 500 || seen[false] < 500 {
		t.Errorf("only %v", seen)
	}
}

// chartNumbers are all numbers of a chart, where they stand.
func chartNumbers(c *impl.Chart) []*int {
	l := []*int{}
	for i := range c.States {
		l = append(l, &c.States[i].Parent, &c.States[i].First)
	}
	for i := range c.Arrows {
		l = append(l, &c.Arrows[i].From, &c.Arrows[i].On, &c.Arrows[i].To)
	}
	return l
}
