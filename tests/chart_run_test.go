package tests

import (
	"math/rand"
	"slices"
	"testing"

	"loop.example/g00047/impl"
)

func TestRunChartByHand(t *testing.T) {
	for _, c := range []struct{ states, arrows, events, want string }{
		// No event: the leaf at first alone.
		{"-1/-1", "", "", "0"},
		{"-1/1 0/-1", "", "", "1"},
		{"-1/2 0/-1 0/3 2/-1", "", "", "3"},
		{"-1/-1", "", "0 5 3", "0 0 0 0"},
		{"-1/-1", "0:0>0", "0 0", "0 0 0"},
		// From event to event; one that nobody has an arrow for changes nothing.
		{"-1/1 0/-1 0/3 2/-1", "1:0>2 2:1>1 0:1>2", "1 1 0 5", "1 3 1 3 3"},
		{"-1/1 0/-1 0/-1 0/-1", "1:0>2 2:0>3 3:0>1", "0 0 0 0", "1 2 3 1 2"},
		{"-1/1 0/-1 0/-1 0/-1", "1:0>2 2:0>3 3:0>1", "0 1 0 2 0", "1 2 2 3 3 1"},
		{"-1/1 0/-1 0/-1", "0:0>2 0:1>1", "0 0 1 1 0", "1 2 2 1 1 2"},
		{threeLeaves, "1:0>2 2:0>0 4:1>3 0:2>1", "0 1 0 0 2 2", "1 4 3 1 4 1 1"},
		{threeLeaves, "1:0>2 2:0>0 4:1>3 0:2>1", "1 2 0 1 1", "1 1 1 4 3 3"},
	} {
		chart := chartOf(c.states, c.arrows)
		got, ok := impl.RunChart(chart, listOf(c.events))
		if !ok || !slices.Equal(got, listOf(c.want)) {
			t.Errorf("RunChart of %q, %q, %q: %v %v, want %s", c.states, c.arrows, c.events, got, ok, c.want)
		}
		checkChartRun(t, chart, listOf(c.events))
	}
}

// ringChart goes from leaf to leaf of a star, on the event 0 forwards and on 1 backwards.
func ringChart() impl.Chart {
	c := impl.Chart{States: starOf(mostStates)}
	for leaf := 1; leaf < mostStates; leaf++ {
		c.Arrows = append(c.Arrows, impl.Arrow{From: leaf, On: 0, To: leaf%11 + 1}, impl.Arrow{From: leaf, On: 1, To: (leaf+9)%11 + 1})
	}
	return c
}

// No event, as many as there may be, and one more.
func TestRunChartCounts(t *testing.T) {
	for _, c := range []impl.Chart{{States: chainOf(1)}, {States: chainOf(mostStates)}, ringChart()} {
		table, _ := impl.FlatChart(c)
		for _, n := range []int{0, 1, 2, 59, 60, 61, 62, 120, 1000} {
			for _, event := range []int{0, 1, 5} {
				events := slices.Repeat([]int{event}, n)
				got, ok := impl.RunChart(c, events)
				if ok != (n <= 60) || ok && len(got) != n+1 || !ok && len(got) != 0 {
					t.Errorf("RunChart of %v, %d events: %v %v", c, n, got, ok)
				}
				checkChartRun(t, c, events)
				if checkRunFlat(t, table, len(c.States)-1, events) != (n <= 60) {
					t.Errorf("RunFlat of %v, %d events", table, n)
				}
			}
		}
	}
	// Round and round, and back.
	events := append(slices.Repeat([]int{0}, 30), slices.Repeat([]int{1}, 30)...)
	run, ok := impl.RunChart(ringChart(), events)
	if !ok {
		t.Fatal("no run")
	}
	for i, leaf := range run {
		if steps := min(i, 60-i); leaf != steps%11+1 {
			t.Errorf("RunChart: %d behind %d events", leaf, i)
		}
	}
}

// An event that is none, at each place: no answer, however far one would have come.
func TestRunChartOfNoEvents(t *testing.T) {
	for _, c := range []impl.Chart{{States: chainOf(1)}, chartOf(threeLeaves, "1:0>2 2:0>0"), ringChart()} {
		table, _ := impl.FlatChart(c)
		leaf := impl.EnterState(c, 0)
		for _, n := range []int{1, 2, 7, 60} {
			for at := range n {
				for _, none := range append([]int{-1, 6, 7, -6, 12, 1 << 32, -1 << 32, 1<<32 + 1}, farInts...) {
					events := slices.Repeat([]int{0}, n)
					events[at] = none
					if got, ok := impl.RunChart(c, events); ok || len(got) != 0 {
						t.Errorf("RunChart of %v, %v: %v %v", c, events, got, ok)
					}
					if got, ok := impl.RunFlat(table, leaf, events); ok || len(got) != 0 {
						t.Errorf("RunFlat of %v, %v: %v %v", table, events, got, ok)
					}
				}
			}
		}
	}
}

func TestFlatChartByHand(t *testing.T) {
	for _, c := range []struct{ states, arrows, want string }{
		{"-1/-1", "", "0 0 0 0 0 0"},
		{"-1/-1", "0:2>0", "0 0 0 0 0 0"},
		{"-1/1 0/-1", "", "|1 1 1 1 1 1"},
		{"-1/1 0/2 1/-1", "2:0>0 1:3>1", "||2 2 2 2 2 2"},
		{"-1/1 0/-1 0/3 2/-1", "1:0>2 2:1>1 0:1>2", "|3 3 1 1 1 1||3 1 3 3 3 3"},
		{threeLeaves, "1:0>2 2:0>0 4:1>3 0:2>1 3:5>3 2:5>1", "|4 1 1 1 1 1||1 3 1 3 3 3|1 3 1 4 4 1"},
	} {
		chart := chartOf(c.states, c.arrows)
		got, ok := impl.FlatChart(chart)
		if !ok || !samePaths(got, pathsOf(c.want)) {
			t.Errorf("FlatChart of %q, %q: %v %v, want %s", c.states, c.arrows, got, ok, c.want)
		}
		checkChart(t, chart)
	}
}

// A list for each state, none of which is no leaf, and of six numbers for the others.
func TestFlatChartOfGreatCharts(t *testing.T) {
	for n := 1; n <= mostStates; n++ {
		for _, states := range [][]impl.State{chainOf(n), starOf(n), nestOf(n)} {
			table, ok := impl.FlatChart(impl.Chart{States: states})
			if !ok || len(table) != n {
				t.Fatalf("FlatChart of %v: %v %v", states, table, ok)
			}
			for i, s := range states {
				want := []int{}
				if s.First == -1 {
					want = slices.Repeat([]int{i}, 6)
				}
				if !slices.Equal(table[i], want) {
					t.Errorf("FlatChart of %v: %v of %d", states, table[i], i)
				}
			}
		}
	}
}

// All charts of up to three states with any two arrows on two events, and all runs of up to four of three events.
func TestFlatTablesOfAllSmallCharts(t *testing.T) {
	runs, seen := listsUpTo(4, 0, 2, 5), map[int]int{}
	for n := 1; n <= 3; n++ {
		eachForm(n, func(states []impl.State) {
			for code := range n * n * n * n * 4 {
				rest := code / 4
				c := impl.Chart{States: states, Arrows: []impl.Arrow{{From: rest % n, On: code % 2 * 5, To: rest / n % n}, {From: rest / n / n % n, On: code / 2 % 2 * 5, To: rest / n / n / n}}}
				for _, events := range runs {
					got := slices.Clone(checkChartRun(t, c, events))
					slices.Sort(got)
					seen[len(slices.Compact(got))]++
				}
			}
		})
	}
	if len(runs) != 1+3+9+27+81 || seen[2] < 1000 {
		t.Errorf("%d runs, leaves: %v", len(runs), seen)
	}
}

// Drawn charts: the run is its flat table, step by step, and a beginning of it that of a beginning of the events.
func TestFlatTablesOfDrawnCharts(t *testing.T) {
	r := rand.New(rand.NewSource(343))
	moved := 0
	for range 2000 {
		c := drawnChart(r)
		events := drawnEvents(r, drawnBetween(r, 0, mostHappened))
		run := checkChartRun(t, c, events)
		table, _ := impl.FlatChart(c)
		for i, e := range events {
			if run[i+1] != impl.ChartStep(c, run[i], e) || run[i+1] != table[run[i]][e] {
				t.Fatalf("RunChart of %v, %v: %v at %d", c, events, run, i)
			}
			if run[i+1] != run[i] {
				moved++
			}
		}
		cut := r.Intn(len(events) + 1)
		if got := checkChartRun(t, c, events[:cut]); !slices.Equal(got, run[:cut+1]) {
			t.Fatalf("RunChart of %v, %v: %v, of more %v", c, events[:cut], got, run)
		}
		if rest, ok := impl.RunFlat(table, run[cut], events[cut:]); !ok || !slices.Equal(rest, run[cut:]) {
			t.Fatalf("RunFlat of %v, %d, %v: %v %v, of all %v", table, run[cut], events[cut:], rest, ok, run)
		}
	}
	if moved < 2000 {
		t.Errorf("only %d moves", moved)
	}
}

func TestRunFlatByHand(t *testing.T) {
	for _, c := range []struct {
		table  string
		leaf   int
		events string
		want   string
	}{
		{"0 0 0 0 0 0", 0, "", "0"},
		{"0 0 0 0 0 0", 0, "0 5", "0 0 0"},
		{"1 0 0 0 0 0|0 1 1 1 1 1", 0, "0 1 0 0", "0 1 1 0 1"},
		{"1 0 0 0 0 0|0 1 1 1 1 1", 1, "0 1 0 0", "1 0 0 1 0"},
		{"|2 1 1 1 1 1|1 2 2 2 2 2", 1, "0 0 5", "1 2 1 1"},
		// Any table will do: it need be no chart's.
		{"2 2 2 2 2 2||0 0 0 0 0 1", 0, "0 0 1 1", "0 2 0 2 0"},
		// A number that leads nowhere, which is not met: the event does not come, or the leaf.
		{"0 -1 0 0 0 0", 0, "0 2 3 4 5", "0 0 0 0 0 0"},
		{"0 1 0 0 0 0", 0, "0 2", "0 0 0"},
		{"0 1 0 0 0 0|", 0, "0 2", "0 0 0"},
		{"1 0 0 0 0 0|1 1 1 1 1 1|-1 7 3 -9 12 99", 0, "1 0 5", "0 0 1 1"},
		{"1 0 0 0 0 0|1 1 1 1 1 -5", 0, "5 0 4", "0 0 1 1"},
		// And one which is met: below 0, beyond, to an empty list; at first, between, at last.
		{"0 -1 0 0 0 0", 0, "1", "none"},
		{"0 -1 0 0 0 0", 0, "1 0", "none"},
		{"0 -1 0 0 0 0", 0, "0 1 0", "none"},
		{"0 -1 0 0 0 0", 0, "0 0 1", "none"},
		{"0 1 0 0 0 0", 0, "1", "none"},
		{"0 1 0 0 0 0", 0, "0 1 0", "none"},
		{"0 1 0 0 0 0|", 0, "1", "none"},
		{"0 1 0 0 0 0|", 0, "0 1 0", "none"},
		{"0 12 0 0 0 0", 0, "1", "none"},
		{"1 0 0 0 0 0|1 1 1 1 1 -5", 0, "5 0 5", "none"},
		{"1 0 0 0 0 0|1 1 1 1 1 2|", 0, "5 0 5 0", "none"},
		// A leaf below 0, beyond, or whose list is empty.
		{"0 0 0 0 0 0", -1, "", "none"},
		{"0 0 0 0 0 0", 1, "", "none"},
		{"0 0 0 0 0 0", 1, "0", "none"},
		{"|1 1 1 1 1 1", 0, "", "none"},
		{"|1 1 1 1 1 1", 0, "0", "none"},
		{"|1 1 1 1 1 1", 2, "0", "none"},
		{"|", 0, "", "none"},
		// A list of five, of seven, of one: wherever it stands, met or not.
		{"0 0 0 0 0", 0, "", "none"},
		{"0 0 0 0 0", 0, "0", "none"},
		{"0 0 0 0 0 0 0", 0, "", "none"},
		{"0 0 0 0 0 0 0", 0, "0", "none"},
		{"0 0 0 0 0 0|1", 0, "0", "none"},
		{"0 0 0 0 0 0|1 1 1 1 1", 0, "0", "none"},
		{"1 1 1 1 1 1 1|1 1 1 1 1 1", 1, "0", "none"},
		{"1 1 1 1 1 1||1 1 1 1 1 1 1", 0, "", "none"},
		// An event that is none.
		{"0 0 0 0 0 0", 0, "6", "none"},
		{"0 0 0 0 0 0", 0, "-1", "none"},
		{"0 0 0 0 0 0", 0, "0 6 0", "none"},
		{"0 -1 0 0 0 0", 0, "1 6", "none"},
	} {
		table, events := pathsOf(c.table), listOf(c.events)
		got, ok := impl.RunFlat(table, c.leaf, events)
		if c.want == "none" && (ok || len(got) != 0) || c.want != "none" && (!ok || !slices.Equal(got, listOf(c.want))) {
			t.Errorf("RunFlat of %q, %d, %q: %v %v, want %s", c.table, c.leaf, c.events, got, ok, c.want)
		}
		checkRunFlat(t, table, c.leaf, events)
	}
}

// No list, one, as many as there may be, and one more; empty ones count, too.
func TestRunFlatSizes(t *testing.T) {
	for n := range 15 {
		full, sparse := [][]int{}, [][]int{}
		for i := range n {
			full = append(full, slices.Repeat([]int{(i + 1) % n}, 6))
			sparse = append(sparse, nil)
		}
		for leaf := -1; leaf <= n; leaf++ {
			want := n <= 12 && isAmong(leaf, n)
			if got := checkRunFlat(t, full, leaf, slices.Repeat([]int{3}, 60)); got != want {
				t.Errorf("RunFlat of %d lists, %d: %v", n, leaf, got)
			}
			if checkRunFlat(t, sparse, leaf, nil) {
				t.Errorf("RunFlat of %d empty lists, %d", n, leaf)
			}
			if isAmong(leaf, n) {
				sparse[leaf] = slices.Repeat([]int{leaf}, 6)
				if got := checkRunFlat(t, sparse, leaf, []int{0, 5}); got != want {
					t.Errorf("RunFlat of %d lists, but one empty, %d: %v", n, leaf, got)
				}
				sparse[leaf] = nil
			}
		}
	}
	for _, table := range [][][]int{nil, {}, {nil}, {{}}, make([][]int, 1000)} {
		for _, leaf := range []int{0, -1, 1} {
			if checkRunFlat(t, table, leaf, nil) {
				t.Errorf("RunFlat of %v, %d", table, leaf)
			}
		}
	}
}

// Lists of all lengths, as the leaf's own and as another's.
func TestRunFlatLengths(t *testing.T) {
	for long := range 14 {
		own, other := [][]int{make([]int, long)}, [][]int{make([]int, 6), make([]int, long)}
		for _, events := range [][]int{{}, {0}, {0, 1, 2, 3, 4, 5}} {
			if got := checkRunFlat(t, own, 0, events); got != (long == 6) {
				t.Errorf("RunFlat of a list of %d: %v", long, got)
			}
			if got := checkRunFlat(t, other, 0, events); got != (long == 6 || long == 0) {
				t.Errorf("RunFlat of a list of %d behind the leaf's own: %v", long, got)
			}
		}
	}
}

// All tables of two lists, empty or of numbers from -1 to 2 for two of the events, and all runs of up to three of these.
func TestRunFlatOfAllSmallTables(t *testing.T) {
	lists := [][]int{{}}
	for first := -1; first <= 2; first++ {
		for last := -1; last <= 2; last++ {
			lists = append(lists, []int{first, 9, 9, 9, 9, last})
		}
	}
	seen := map[bool]int{}
	for _, one := range lists {
		for _, two := range lists {
			for _, events := range listsUpTo(3, 0, 5) {
				for leaf := -1; leaf <= 2; leaf++ {
					seen[checkRunFlat(t, [][]int{one, two}, leaf, events)]++
				}
			}
		}
	}
	if seen[true] < 1000 || seen[false] < 1000 {
		t.Errorf("only %v", seen)
	}
}

// Drawn tables, mostly of numbers that lead somewhere.
func TestRunFlatOfDrawnTables(t *testing.T) {
	r := rand.New(rand.NewSource(344))
	seen := map[bool]int{}
	for range 5000 {
		n, table := drawnBetween(r, 1, mostStates), [][]int{}
		for range n {
			list := []int{}
			for range manyEvents * min(1, r.Intn(10)) {
				list = append(list, r.Intn(n))
			}
			if len(list) > 0 && r.Intn(8) == 0 {
				list[r.Intn(6)] = drawnBetween(r, -2, n+1)
			}
			table = append(table, list)
		}
		seen[checkRunFlat(t, table, r.Intn(n), drawnEvents(r, r.Intn(20)))]++
	}
	if seen[true] < 500 || seen[false] < 500 {
		t.Errorf("only %v", seen)
	}
}
