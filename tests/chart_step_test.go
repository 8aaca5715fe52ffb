package tests

import (
	"math/rand"
	"slices"
	"testing"

	"loop.example/g00047/impl"
)

func TestEnterStateByHand(t *testing.T) {
	for _, c := range []struct {
		states string
		s      int
		want   int
	}{
		{"-1/-1", 0, 0},
		{"-1/-1", 1, -1},
		{"-1/-1", -1, -1},
		// A leaf, and states above one level and above several.
		{"-1/1 0/-1", 1, 1},
		{"-1/1 0/-1", 0, 1},
		{"-1/1 0/-1", 2, -1},
		{"-1/1 0/2 1/3 2/-1", 0, 3},
		{"-1/1 0/2 1/3 2/-1", 1, 3},
		{"-1/1 0/2 1/3 2/-1", 2, 3},
		{"-1/1 0/2 1/3 2/-1", 3, 3},
		{"-1/1 0/2 1/3 2/-1", 4, -1},
		{"-1/1 0/2 1/3 2/-1", -2, -1},
		// First, not the first child: at one level, and at two.
		{"-1/2 0/-1 0/-1", 0, 2},
		{"-1/2 0/-1 0/4 2/-1 2/-1", 0, 4},
		{"-1/1 0/-1 0/4 2/-1 2/-1", 0, 1},
		{"-1/1 0/-1 0/4 2/-1 2/-1", 2, 4},
		{"-1/1 0/-1 0/3 2/-1 2/-1", 2, 3},
		{"-1/1 0/-1 0/3 2/-1 2/-1", 4, 4},
		// A chart that is not good.
		{"", 0, -1},
		{"-1/0", 0, -1},
		{"-1/-1 0/-1", 1, -1},
		{"-1/1 0/-1 2/2", 0, -1},
		{"-1/1 0/-1 2/2", 1, -1},
		{"0/-1", 0, -1},
	} {
		chart := chartOf(c.states, "")
		if got := impl.EnterState(chart, c.s); got != c.want {
			t.Errorf("EnterState of %q, %d: %d, want %d", c.states, c.s, got, c.want)
		}
		checkChart(t, chart)
	}
}

// In a chain all lead to its end, in a star the first one alone leads elsewhere.
func TestEnterStateOfGreatCharts(t *testing.T) {
	for n := 1; n <= mostStates; n++ {
		for s := range n {
			if got := impl.EnterState(impl.Chart{States: chainOf(n)}, s); got != n-1 {
				t.Errorf("EnterState of a chain of %d, %d: %d", n, s, got)
			}
			star := impl.Chart{States: starOf(n)}
			if got, want := impl.EnterState(star, s), max(s, min(1, n-1)); got != want {
				t.Errorf("EnterState of a star of %d, %d: %d", n, s, got)
			}
		}
	}
}

// What hangs on arrows does not change where a state leads.
func TestEnterStateGoesByFirsts(t *testing.T) {
	r := rand.New(rand.NewSource(341))
	for range 500 {
		c := drawnChart(r)
		bare := impl.Chart{States: c.States}
		for s := range c.States {
			leaf := impl.EnterState(c, s)
			if leaf != impl.EnterState(bare, s) || leaf < s || c.States[leaf].First != -1 || impl.EnterState(c, leaf) != leaf || !slices.Contains(linesUp(c)[leaf], s) {
				t.Fatalf("EnterState of %v, %d: %d", c, s, leaf)
			}
			if first := c.States[s].First; first != -1 && impl.EnterState(c, first) != leaf {
				t.Fatalf("EnterState of %v, %d: %d, of its First %d", c, s, leaf, first)
			}
		}
	}
}

type chartStepCase struct {
	states, arrows    string
	leaf, event, want int
}

func checkChartSteps(t *testing.T, cases []chartStepCase) {
	t.Helper()
	for _, c := range cases {
		chart := chartOf(c.states, c.arrows)
		if got := impl.ChartStep(chart, c.leaf, c.event); got != c.want {
			t.Errorf("ChartStep of %q, %q, %d, %d: %d, want %d", c.states, c.arrows, c.leaf, c.event, got, c.want)
		}
		checkChart(t, chart)
	}
}

// threeLeaves has the leaves 1, 3 and 4, the last two beneath 2; the First of 2 is 4.
const threeLeaves = "-1/1 0/-1 0/4 2/-1 2/-1"

func TestChartStepByHand(t *testing.T) {
	checkChartSteps(t, []chartStepCase{
		// Of one state: it stays, with and without an arrow.
		{"-1/-1", "", 0, 0, 0},
		{"-1/-1", "", 0, 5, 0},
		{"-1/-1", "0:3>0", 0, 3, 0},
		// An arrow of the leaf, on its event alone, from its state alone.
		{threeLeaves, "3:0>1", 3, 0, 1},
		{threeLeaves, "3:0>1", 3, 1, 3},
		{threeLeaves, "3:0>1", 4, 0, 4},
		{threeLeaves, "3:5>1", 3, 5, 1},
		{threeLeaves, "3:5>1", 3, 0, 3},
		// An arrow of its parent, and of the one above that: of all that are beneath.
		{threeLeaves, "2:0>1", 3, 0, 1},
		{threeLeaves, "2:0>1", 4, 0, 1},
		{threeLeaves, "2:0>1", 1, 0, 1},
		{threeLeaves, "0:0>1", 3, 0, 1},
		{threeLeaves, "0:0>3", 1, 0, 3},
		{threeLeaves, "0:0>3", 3, 0, 3},
		// Not that of a sibling, or of one beneath it.
		{threeLeaves, "1:0>3", 4, 0, 4},
		{threeLeaves, "4:0>1", 3, 0, 3},
		{threeLeaves, "2:0>3", 1, 0, 1},
		// The inner one decides, wherever it stands in the list.
		{threeLeaves, "3:0>1 2:0>4", 3, 0, 1},
		{threeLeaves, "2:0>4 3:0>1", 3, 0, 1},
		{threeLeaves, "0:0>4 2:0>1", 3, 0, 1},
		{threeLeaves, "2:0>1 0:0>4", 3, 0, 1},
		{threeLeaves, "0:0>4 2:0>4 3:0>1", 3, 0, 1},
		{threeLeaves, "0:0>4 2:0>1 3:0>3", 3, 0, 3},
		// But an inner one on another event does not.
		{threeLeaves, "3:1>3 2:0>1", 3, 0, 1},
		{threeLeaves, "3:1>1 2:2>1 0:0>4", 3, 0, 4},
		// Of two of one state on one event the first of the list.
		{threeLeaves, "3:0>1 3:0>4", 3, 0, 1},
		{threeLeaves, "3:0>4 3:0>1", 3, 0, 4},
		{threeLeaves, "2:0>1 2:0>3", 4, 0, 1},
		{threeLeaves, "2:0>3 2:0>1", 4, 0, 3},
		{threeLeaves, "0:0>1 2:0>3 0:0>4 2:0>1", 4, 0, 3},
		{threeLeaves, "0:0>3 1:1>4 0:0>4", 1, 0, 3},
		// To a state that is no leaf: where its Firsts lead.
		{threeLeaves, "1:0>2", 1, 0, 4},
		{threeLeaves, "1:0>0", 1, 0, 1},
		{threeLeaves, "3:0>2", 3, 0, 4},
		{threeLeaves, "3:0>0", 3, 0, 1},
		{threeLeaves, "2:0>2", 3, 0, 4},
		{threeLeaves, "0:0>0", 3, 0, 1},
		{"-1/1 0/2 1/3 2/-1 0/-1", "4:2>0", 4, 2, 3},
		{"-1/1 0/2 1/3 2/-1 0/-1", "4:2>1", 4, 2, 3},
		{"-1/1 0/2 1/3 2/-1 0/-1", "4:2>2", 4, 2, 3},
		{"-1/4 0/2 1/3 2/-1 0/-1", "4:2>0", 4, 2, 4},
		{"-1/4 0/2 1/3 2/-1 0/-1", "4:2>1", 4, 2, 3},
		// To itself: it stays, though an outer one would lead away.
		{threeLeaves, "3:0>3", 3, 0, 3},
		{threeLeaves, "3:0>3 2:0>1 0:0>1", 3, 0, 3},
	})
}

func TestChartStepOfWhatIsNotAsSaid(t *testing.T) {
	checkChartSteps(t, []chartStepCase{
		// A state that is no leaf, though it has an arrow; a number that is no state.
		{threeLeaves, "2:0>1 0:0>1", 2, 0, -1},
		{threeLeaves, "2:0>1 0:0>1", 0, 0, -1},
		{threeLeaves, "2:0>1 0:0>1", 5, 0, -1},
		{threeLeaves, "2:0>1 0:0>1", -1, 0, -1},
		{threeLeaves, "2:0>1 0:0>1", -2, 0, -1},
		{"-1/-1", "", 1, 0, -1},
		{"-1/-1", "", -1, 0, -1},
		// An event that is none.
		{threeLeaves, "", 1, -1, -1},
		{threeLeaves, "", 1, 6, -1},
		{threeLeaves, "0:0>1 0:5>1", 3, 6, -1},
		{threeLeaves, "0:0>1 0:5>1", 3, -1, -1},
		// A chart that is not good, by states or arrows that the step would not come to.
		{"", "", 0, 0, -1},
		{"-1/0", "", 0, 0, -1},
		{"0/-1", "", 0, 0, -1},
		{"-1/1 0/-1 2/2", "1:0>0", 1, 0, -1},
		{"-1/1 0/-1 0/0", "1:0>1", 1, 0, -1},
		{threeLeaves, "3:0>1 3:1>5", 3, 0, -1},
		{threeLeaves, "3:0>1 5:0>1", 3, 0, -1},
		{threeLeaves, "3:0>1 1:6>1", 3, 0, -1},
	})
}

// A chain whose states all have an arrow on the same event: from the innermost one on each decides when all inner ones are gone.
func TestInnerArrowsDecideFirst(t *testing.T) {
	for depth := range mostStates - 2 {
		// The last state is a sibling of the chain's second one, and each arrow goes to a leaf or above one.
		states := append(chainOf(mostStates-1), impl.State{Parent: 0, First: -1})
		leaf, aside := mostStates-2, mostStates-1
		arrows := []impl.Arrow{}
		for from := range depth {
			arrows = append(arrows, impl.Arrow{From: from, On: 3, To: leaf})
		}
		arrows = append(arrows, impl.Arrow{From: depth, On: 3, To: aside})
		for _, order := range []func([]impl.Arrow){func([]impl.Arrow) {}, slices.Reverse[[]impl.Arrow]} {
			order(arrows)
			c := impl.Chart{States: states, Arrows: arrows}
			if got := impl.ChartStep(c, leaf, 3); got != aside {
				t.Errorf("ChartStep of %v: %d, want %d", c, got, aside)
			}
			if got := impl.ChartStep(c, leaf, 2); got != leaf {
				t.Errorf("ChartStep of %v on another event: %d", c, got)
			}
			checkChart(t, c)
		}
	}
}

// As many arrows as there may be: the last one counts where all others are of other states or events.
func TestChartStepGoesThroughAllArrows(t *testing.T) {
	c := impl.Chart{States: starOf(mostStates)}
	for i := range mostArrows {
		c.Arrows = append(c.Arrows, impl.Arrow{From: 1 + i%11, On: i / 11, To: 1 + (i+3)%11})
	}
	for i, a := range c.Arrows {
		if got := impl.ChartStep(c, a.From, a.On); got != a.To {
			t.Errorf("ChartStep of arrow %d: %d, want %d", i, got, a.To)
		}
	}
	checkChart(t, c)
}

// All charts of up to four states with any two arrows on two events.
func TestChartStepOfAllSmallCharts(t *testing.T) {
	forms := []int{}
	for n := 1; n <= 4; n++ {
		many := 0
		eachForm(n, func(states []impl.State) {
			many++
			for code := range n * n * n * n * 4 {
				rest := code / 4
				c := impl.Chart{States: states, Arrows: []impl.Arrow{{From: rest % n, On: code % 2 * 5, To: rest / n % n}, {From: rest / n / n % n, On: code / 2 % 2 * 5, To: rest / n / n / n}}}
				checkChart(t, c)
			}
		})
		forms = append(forms, many)
	}
	// Of four states: a chain; three beneath the first; two beneath the second or the first, one of which may go on.
	if !slices.Equal(forms, []int{1, 1, 3, 3 + 2 + 2 + 2 + 2 + 1}) {
		t.Errorf("forms: %v", forms)
	}
}

// Whatever an arrow of another event, of another state, or behind the one that decides is: the step is the same.
func TestWhatDoesNotDecide(t *testing.T) {
	r := rand.New(rand.NewSource(342))
	decided := 0
	for range 2000 {
		c := drawnChart(r)
		table, _ := impl.FlatChart(c)
		for leaf, list := range table {
			for event, to := range list {
				line := linesUp(c)[leaf]
				counts := func(a impl.Arrow) bool { return a.On == event && slices.Contains(line, a.From) }
				some := slices.Clone(c.Arrows)
				some = slices.DeleteFunc(some, func(a impl.Arrow) bool { return !counts(a) })
				slices.SortStableFunc(some, func(a impl.Arrow, b impl.Arrow) int { return slices.Index(line, a.From) - slices.Index(line, b.From) })
				few := impl.Chart{States: c.States, Arrows: some[:min(1, len(some))]}
				if got := impl.ChartStep(few, leaf, event); got != to {
					t.Fatalf("ChartStep of %v, %d, %d: %d, of %v %d", c, leaf, event, to, few, got)
				}
				if len(some) > 1 {
					decided++
				}
			}
		}
	}
	if decided < 1000 {
		t.Errorf("only %d among several", decided)
	}
}
