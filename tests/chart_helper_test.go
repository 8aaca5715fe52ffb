package tests

import (
	"math/rand"
	"slices"
	"strings"
	"testing"

	"loop.example/g00047/impl"
)

const (
	mostStates   = 12
	mostArrows   = 24
	manyEvents   = 6
	mostHappened = 60
)

// chartOf has spaces between the states, each Parent/First, and between the arrows, each From:On>To.
func chartOf(states string, arrows string) impl.Chart {
	c := impl.Chart{}
	for _, one := range strings.Fields(states) {
		parent, first, _ := strings.Cut(one, "/")
		c.States = append(c.States, impl.State{Parent: numberOf(parent), First: numberOf(first)})
	}
	for _, one := range strings.Fields(arrows) {
		from, rest, _ := strings.Cut(one, ":")
		on, to, _ := strings.Cut(rest, ">")
		c.Arrows = append(c.Arrows, impl.Arrow{From: numberOf(from), On: numberOf(on), To: numberOf(to)})
	}
	return c
}

func cloneChart(c impl.Chart) impl.Chart {
	return impl.Chart{States: slices.Clone(c.States), Arrows: slices.Clone(c.Arrows)}
}

func sameChart(a impl.Chart, b impl.Chart) bool {
	return slices.Equal(a.States, b.States) && slices.Equal(a.Arrows, b.Arrows)
}

func isAmong(n int, many int) bool { return 0 <= n && n < many }

// isChart says by the test's own word whether c is good.
func isChart(c impl.Chart) bool {
	n, children := len(c.States), map[int][]int{}
	if n < 1 || n > mostStates || len(c.Arrows) > mostArrows || c.States[0].Parent != -1 {
		return false
	}
	for i, s := range c.States {
		if i > 0 && !isAmong(s.Parent, i) {
			return false
		}
		children[s.Parent] = append(children[s.Parent], i)
	}
	for i, s := range c.States {
		if firsts := children[i]; len(firsts) == 0 && s.First != -1 || len(firsts) > 0 && !slices.Contains(firsts, s.First) {
			return false
		}
	}
	return !slices.ContainsFunc(c.Arrows, func(a impl.Arrow) bool {
		return !isAmong(a.From, n) || !isAmong(a.To, n) || !isAmong(a.On, manyEvents)
	})
}

// exactLeaves are the leaves to which the states of a good chart lead, from the last one to the first: each First is behind its state.
func exactLeaves(c impl.Chart) []int {
	leaves := make([]int, len(c.States))
	for i := len(leaves) - 1; i >= 0; i-- {
		leaves[i] = i
		if c.States[i].First != -1 {
			leaves[i] = leaves[c.States[i].First]
		}
	}
	return leaves
}

func exactLeaf(c impl.Chart, s int) int {
	if !isChart(c) || !isAmong(s, len(c.States)) {
		return -1
	}
	return exactLeaves(c)[s]
}

// linesUp are, for each state, itself and all that are above it, the innermost one first.
func linesUp(c impl.Chart) [][]int {
	lines := [][]int{}
	for i, s := range c.States {
		line := []int{i}
		if i > 0 {
			line = append(line, lines[s.Parent]...)
		}
		lines = append(lines, line)
	}
	return lines
}

// exactChartStep looks at all arrows, and keeps the innermost one, of several the first.
func exactChartStep(c impl.Chart, leaf int, event int) int {
	if !isChart(c) || !isAmong(leaf, len(c.States)) || c.States[leaf].First != -1 || !isAmong(event, manyEvents) {
		return -1
	}
	line := linesUp(c)[leaf]
	best, to := len(line), leaf
	for _, a := range c.Arrows {
		if far := slices.Index(line, a.From); a.On == event && far >= 0 && far < best {
			best, to = far, exactLeaves(c)[a.To]
		}
	}
	return to
}

func areEvents(events []int) bool {
	return len(events) <= mostHappened && !slices.ContainsFunc(events, func(e int) bool { return !isAmong(e, manyEvents) })
}

func exactChartRun(c impl.Chart, events []int) ([]int, bool) {
	if !isChart(c) || !areEvents(events) {
		return nil, false
	}
	run := []int{exactLeaf(c, 0)}
	for i, e := range events {
		run = append(run, exactChartStep(c, run[i], e))
	}
	return run, true
}

func exactTable(c impl.Chart) ([][]int, bool) {
	if !isChart(c) {
		return nil, false
	}
	table := make([][]int, len(c.States))
	for i := range table {
		for e := 0; e < manyEvents && c.States[i].First == -1; e++ {
			table[i] = append(table[i], exactChartStep(c, i, e))
		}
	}
	return table, true
}

// exactRunFlat goes through the table as through a map of what has a list.
func exactRunFlat(table [][]int, leaf int, events []int) ([]int, bool) {
	lists := map[int][]int{}
	for i, l := range table {
		if len(l) == manyEvents {
			lists[i] = l
		} else if len(l) > 0 {
			return nil, false
		}
	}
	if len(table) > mostStates || !areEvents(events) || len(lists[leaf]) == 0 {
		return nil, false
	}
	run := []int{leaf}
	for i, e := range events {
		run = append(run, lists[run[i]][e])
		if len(lists[run[i+1]]) == 0 {
			return nil, false
		}
	}
	return run, true
}

// checkChart asks all that is asked of a chart by itself, for all numbers that may be states and events, and some that are none.
func checkChart(t *testing.T, c impl.Chart) {
	t.Helper()
	if got, want := impl.GoodChart(c), isChart(c); got != want {
		t.Fatalf("GoodChart of %v: %v", c, got)
	}
	table, ok := impl.FlatChart(c)
	want, good := exactTable(c)
	if ok != good || !samePaths(table, want) {
		t.Fatalf("FlatChart of %v: %v %v, want %v", c, table, ok, want)
	}
	for s := -2; s < len(c.States)+2; s++ {
		if got, want := impl.EnterState(c, s), exactLeaf(c, s); got != want {
			t.Fatalf("EnterState of %v, %d: %d, want %d", c, s, got, want)
		}
		for e := -1; e <= manyEvents; e++ {
			want := -1
			if isAmong(s, len(table)) && isAmong(e, len(table[s])) {
				want = table[s][e]
			}
			if got := impl.ChartStep(c, s, e); got != want {
				t.Fatalf("ChartStep of %v, %d, %d: %d, want %d", c, s, e, got, want)
			}
		}
	}
}

// checkChartRun asks RunChart of anything; where it answers, RunFlat over FlatChart is to answer the same.
func checkChartRun(t *testing.T, c impl.Chart, events []int) []int {
	t.Helper()
	got, ok := impl.RunChart(c, events)
	want, good := exactChartRun(c, events)
	if ok != good || !slices.Equal(got, want) {
		t.Fatalf("RunChart of %v, %v: %v %v, want %v %v", c, events, got, ok, want, good)
	}
	if !ok {
		return nil
	}
	table, _ := impl.FlatChart(c)
	if flat, ok := impl.RunFlat(table, impl.EnterState(c, 0), events); !ok || !slices.Equal(flat, got) || len(got) != len(events)+1 {
		t.Fatalf("RunFlat of %v, %v: %v %v, RunChart %v", table, events, flat, ok, got)
	}
	return got
}

// checkRunFlat asks RunFlat of anything.
func checkRunFlat(t *testing.T, table [][]int, leaf int, events []int) bool {
	t.Helper()
	got, ok := impl.RunFlat(table, leaf, events)
	if want, good := exactRunFlat(table, leaf, events); ok != good || !slices.Equal(got, want) {
		t.Fatalf("RunFlat of %v, %d, %v: %v %v, want %v %v", table, leaf, events, got, ok, want, good)
	}
	return ok
}

// statesUnder are the states with those parents; First is the child that pick chooses of so many.
func statesUnder(parents []int, pick func(many int) int) []impl.State {
	l, children := []impl.State{}, map[int][]int{}
	for i, p := range parents {
		l = append(l, impl.State{Parent: p, First: -1})
		children[p] = append(children[p], i)
	}
	for i := range l {
		if many := len(children[i]); many > 0 {
			l[i].First = children[i][pick(many)]
		}
	}
	return l
}

func firstOfMany(many int) int { return 0 }

func lastOfMany(many int) int { return many - 1 }

// chainOf has each state in the one ahead of it; starOf has all others in the first one.
func chainOf(n int) []impl.State {
	parents := []int{}
	for i := range n {
		parents = append(parents, i-1)
	}
	return statesUnder(parents, firstOfMany)
}

func starOf(n int) []impl.State {
	return statesUnder(append([]int{-1}, make([]int, n-1)...), firstOfMany)
}

// eachForm are the states of all good charts of n states.
func eachForm(n int, see func([]impl.State)) {
	forms := 1
	for i := 1; i < n; i++ {
		forms *= i
	}
	for code := range forms {
		parents := []int{-1}
		for i, rest := 1, code; i < n; i++ {
			parents = append(parents, rest%i)
			rest /= i
		}
		picks := 1
		statesUnder(parents, func(many int) int {
			picks *= many
			return 0
		})
		for pick := range picks {
			rest := pick
			see(statesUnder(parents, func(many int) int {
				one := rest % many
				rest /= many
				return one
			}))
		}
	}
}

func drawnArrows(r *rand.Rand, states int, many int, events int) []impl.Arrow {
	l := []impl.Arrow{}
	for range many {
		l = append(l, impl.Arrow{From: r.Intn(states), On: r.Intn(events), To: r.Intn(states)})
	}
	return l
}

// drawnChart is a good one.
func drawnChart(r *rand.Rand) impl.Chart {
	n := drawnBetween(r, 1, mostStates)
	parents := []int{-1}
	for i := 1; i < n; i++ {
		parents = append(parents, drawnBetween(r, max(0, i-drawnBetween(r, 1, n)), i-1))
	}
	return impl.Chart{States: statesUnder(parents, r.Intn), Arrows: drawnArrows(r, n, drawnBetween(r, 0, mostArrows), drawnBetween(r, 1, manyEvents))}
}

func drawnEvents(r *rand.Rand, n int) []int {
	l := []int{}
	for range n {
		l = append(l, r.Intn(manyEvents))
	}
	return l
}

// listsUpTo are all lists of up to most of the things, the shortest first.
func listsUpTo[T any](most int, things ...T) [][]T {
	lists := [][]T{{}}
	for i := 0; len(lists[i]) < most; i++ {
		for _, one := range things {
			lists = append(lists, append(slices.Clone(lists[i]), one))
		}
	}
	return lists
}
