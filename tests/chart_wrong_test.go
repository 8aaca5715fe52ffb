package tests

import (
	"math"
	"math/rand"
	"slices"
	"sync"
	"testing"

	"loop.example/g00047/impl"
)

// strayNumbers are no states, no events, no kinds, no children.
var strayNumbers = append([]int{-2, -12, 12, 13, 24, 25, 256, 257, 1 << 16, 1<<16 + 1, 1 << 32, 1<<32 + 1, -1 << 32, 1 << 62, -1 << 62}, farInts...)

// checkNoChart: a chart that is not good has no answer anywhere, not even for no events.
func checkNoChart(t *testing.T, c impl.Chart) {
	t.Helper()
	if impl.GoodChart(c) {
		t.Errorf("GoodChart of %v", c)
	}
	if got, ok := impl.FlatChart(c); ok || len(got) != 0 {
		t.Errorf("FlatChart of %v: %v %v", c, got, ok)
	}
	for _, s := range append([]int{0, 1, 2, len(c.States) - 1, len(c.States), -1}, farInts...) {
		if got := impl.EnterState(c, s); got != -1 {
			t.Errorf("EnterState of %v, %d: %d", c, s, got)
		}
		for _, event := range append([]int{0, 1, manyEvents - 1, manyEvents, -1}, farInts...) {
			if got := impl.ChartStep(c, s, event); got != -1 {
				t.Errorf("ChartStep of %v, %d, %d: %d", c, s, event, got)
			}
		}
	}
	for _, events := range [][]int{nil, {}, {0}, {0, 5, 1}, {-1}, {6}, make([]int, 60), make([]int, 61)} {
		if got, ok := impl.RunChart(c, events); ok || len(got) != 0 {
			t.Errorf("RunChart of %v, %v: %v %v", c, events, got, ok)
		}
	}
}

// plainCharts are good ones, the least and the greatest among them.
func plainCharts() []impl.Chart {
	r := rand.New(rand.NewSource(350))
	return []impl.Chart{
		chartOf("-1/-1", ""), chartOf("-1/-1", "0:0>0"), chartOf("-1/1 0/-1", "0:5>1"), chartOf(threeLeaves, "1:0>2 2:0>0 4:1>3 0:2>1"), ringChart(),
		{States: chainOf(mostStates), Arrows: drawnArrows(r, mostStates, mostArrows, manyEvents)}, {States: nestOf(mostStates), Arrows: drawnArrows(r, mostStates, mostArrows, 2)},
	}
}

// Charts that are not good in each way that the chapter names.
func TestChartsThatAreNotGood(t *testing.T) {
	for _, c := range []impl.Chart{
		{}, {States: []impl.State{}, Arrows: []impl.Arrow{}}, {Arrows: []impl.Arrow{{}}}, {States: []impl.State{{}}}, {States: make([]impl.State, 3)},
		{States: chainOf(mostStates + 1)}, {States: starOf(mostStates + 1)}, {States: chainOf(1000)}, {States: chainOf(1), Arrows: make([]impl.Arrow, mostArrows+1)}, {States: chainOf(mostStates), Arrows: make([]impl.Arrow, 1000)},
		chartOf("0/-1", ""), chartOf("-2/-1", ""), chartOf("1/1 0/-1", ""), chartOf("-1/1 0/-1 2/-1", ""), chartOf("-1/1 0/-1 2/2", ""), chartOf("-1/1 0/-1 3/-1 0/-1", ""), chartOf("-1/1 0/-1 -1/-1", ""),
		chartOf("-1/0", ""), chartOf("-1/1 0/1", ""), chartOf("-1/1 0/0", ""), chartOf("-1/-1 0/-1", ""), chartOf("-1/0 0/-1", ""), chartOf("-1/1 0/3 0/4 2/-1 1/-1", ""), chartOf("-1/2 0/2 1/-1", ""), chartOf("-1/2 0/-1", ""),
		chartOf("-1/-1", "1:0>0"), chartOf("-1/-1", "-1:0>0"), chartOf("-1/-1", "0:0>1"), chartOf("-1/-1", "0:0>-1"), chartOf("-1/-1", "0:6>0"), chartOf("-1/-1", "0:-1>0"),
	} {
		checkNoChart(t, c)
		checkChart(t, c)
	}
}

// Numbers far off in each place of a chart.
func TestStrayNumbersInCharts(t *testing.T) {
	for _, plain := range plainCharts() {
		checkChart(t, plain)
		for i := range chartNumbers(&plain) {
			for _, n := range strayNumbers {
				c := cloneChart(plain)
				*chartNumbers(&c)[i] = n
				checkNoChart(t, c)
			}
		}
	}
}

// And as a state, a leaf and an event.
func TestStrayNumbersBesideCharts(t *testing.T) {
	for _, c := range plainCharts() {
		leaf := impl.EnterState(c, 0)
		table, _ := impl.FlatChart(c)
		for _, n := range append([]int{-1, len(c.States)}, strayNumbers...) {
			if got := impl.EnterState(c, n); got != -1 {
				t.Errorf("EnterState of %v, %d: %d", c, n, got)
			}
			for event := range manyEvents {
				if got := impl.ChartStep(c, n, event); got != -1 {
					t.Errorf("ChartStep of %v, %d, %d: %d", c, n, event, got)
				}
			}
			for _, events := range [][]int{nil, {}, {0}, {0, 5}} {
				if got, ok := impl.RunFlat(table, n, events); ok || len(got) != 0 {
					t.Errorf("RunFlat of %v, %d, %v: %v %v", table, n, events, got, ok)
				}
			}
		}
		for _, n := range append([]int{-1, manyEvents}, strayNumbers...) {
			if got := impl.ChartStep(c, leaf, n); got != -1 {
				t.Errorf("ChartStep of %v, %d, %d: %d", c, leaf, n, got)
			}
			for _, other := range strayNumbers {
				if got := impl.ChartStep(c, other, n); got != -1 {
					t.Errorf("ChartStep of %v, %d, %d: %d", c, other, n, got)
				}
			}
		}
	}
}

// Numbers far off in each place of a table: they count where they are met, and there alone.
func TestStrayNumbersInTables(t *testing.T) {
	plain := [][]int{{2, 0, 0, 0, 0, 0}, {}, {0, 2, 2, 2, 2, 2}}
	for _, i := range []int{0, 2} {
		for event := range manyEvents {
			for _, n := range append([]int{-1, 1, 3}, strayNumbers...) {
				table := clonePaths(plain)
				table[i][event] = n
				for leaf := range 3 {
					for other := range manyEvents {
						want := leaf != 1 && (leaf != i || other != event)
						if got := checkRunFlat(t, table, leaf, []int{other}); got != want {
							t.Errorf("RunFlat of %v, %d, %d: %v", table, leaf, other, got)
						}
					}
				}
				checkRunFlat(t, table, 0, []int{event, event, event})
				checkRunFlat(t, table, 0, []int{0, event})
			}
		}
	}
}

// course is what all functions of charts are asked of at once.
type course struct {
	c      impl.Chart
	table  [][]int
	leaf   int
	events []int
}

func (w course) check(t *testing.T) {
	t.Helper()
	checkChart(t, w.c)
	checkChartRun(t, w.c, w.events)
	checkRunFlat(t, w.table, w.leaf, w.events)
}

func (w course) clone() course {
	return course{cloneChart(w.c), clonePaths(w.table), w.leaf, slices.Clone(w.events)}
}

func (w course) same(o course) bool {
	return sameChart(w.c, o.c) && samePaths(w.table, o.table) && slices.Equal(w.events, o.events)
}

func drawnCourse(r *rand.Rand) course {
	c := drawnChart(r)
	table, _ := impl.FlatChart(c)
	return course{c, table, impl.EnterState(c, 0), drawnEvents(r, r.Intn(mostHappened+1))}
}

func sameState(a impl.State, b impl.State) bool { return a == b }

func sameArrow(a impl.Arrow, b impl.Arrow) bool { return a == b }

// What lies behind the lists counts for nothing and stays, as the lists do.
func TestWhatLiesBehindCharts(t *testing.T) {
	r := rand.New(rand.NewSource(351))
	for range 200 {
		w := drawnCourse(r)
		if r.Intn(4) == 0 {
			w.c.States = w.c.States[:len(w.c.States)-1]
		}
		for _, more := range [][]int{{0, 1}, {-1, 3, math.MaxInt}, {0, 0, 0, 0, 0, 0}, {1, 2, 3, 4, 5, 6, 7}} {
			states, arrows := []impl.State{{Parent: more[0], First: -1}, {Parent: 1, First: more[1]}}, []impl.Arrow{{From: more[0], On: 0, To: more[1]}, {From: 0, On: more[1], To: 0}}
			in := course{impl.Chart{States: behind(w.c.States, states...), Arrows: behind(w.c.Arrows, arrows...)}, nil, w.leaf, behind(w.events, more...)}
			lists := [][]int{}
			for _, list := range w.table {
				lists = append(lists, behind(list, more...))
			}
			in.table = behind(lists, more, nil)
			in.check(t)
			ok := kept(in.c.States, w.c.States, sameState, states...) && kept(in.c.Arrows, w.c.Arrows, sameArrow, arrows...) && kept(in.events, w.events, sameNumber, more...)
			for i, list := range w.table {
				ok = ok && kept(in.table[i], list, sameNumber, more...)
			}
			if !ok || !kept(in.table, w.table, slices.Equal, more, nil) {
				t.Fatalf("a list was changed: %v, before %v", in, w)
			}
		}
	}
	// The state, the arrow, the list, the number and the event that would make it otherwise lie behind.
	checkNoChart(t, impl.Chart{States: behind([]impl.State{}, chainOf(1)...)})
	checkNoChart(t, impl.Chart{States: behind(chainOf(2)[:1], chainOf(2)[1])})
	if c := (impl.Chart{States: chainOf(3), Arrows: behind([]impl.Arrow{}, impl.Arrow{From: 9})}); !impl.GoodChart(c) {
		t.Error("GoodChart reads behind a list")
	}
	six := make([]int, 6)
	if got, ok := impl.RunFlat(behind([][]int{}, six), 0, nil); ok || len(got) != 0 {
		t.Error("RunFlat reads behind a table")
	}
	if got, ok := impl.RunFlat([][]int{behind([]int{}, six...)}, 0, nil); ok || len(got) != 0 {
		t.Error("RunFlat reads behind an empty list")
	}
	if got, ok := impl.RunFlat([][]int{behind(six[:5], 0)}, 0, nil); ok || len(got) != 0 {
		t.Error("RunFlat reads behind a list of five")
	}
	if got, ok := impl.RunFlat([][]int{behind(six, 7)}, 0, behind([]int{0}, 9)); !ok || !slices.Equal(got, []int{0, 0}) {
		t.Error("RunFlat reads behind a list of six")
	}
}

// Whoever writes into an answer changes nothing else: no other list of it, no later answer, no argument.
func TestChartAnswersAreNewMemory(t *testing.T) {
	r := rand.New(rand.NewSource(352))
	for range 300 {
		w := drawnCourse(r)
		before := w.clone()
		for range 2 {
			table, ok := impl.FlatChart(w.c)
			spoilPaths(t, table)
			run, good := impl.RunChart(w.c, w.events)
			spoil(run, -7)
			flat, fine := impl.RunFlat(w.table, w.leaf, w.events)
			spoil(flat, -7)
			if !ok || !good || !fine || !w.same(before) {
				t.Fatalf("no answer, or an argument was changed: %v, before %v", w, before)
			}
			w.check(t)
		}
	}
}

// One list as the events and in the table, twice: told like any others.
func TestChartArgumentsThatShareMemory(t *testing.T) {
	l := make([]int, 6)
	if got, ok := impl.RunFlat([][]int{l, l, l[:0]}, 0, l); !ok || !slices.Equal(got, make([]int, 7)) {
		t.Errorf("RunFlat: %v %v", got, ok)
	}
	l[5] = 1
	for _, c := range []struct {
		leaf int
		want string
	}{{0, "0 0 0 0 0 0 0"}, {1, "1 0 0 0 0 0 0"}} {
		if got, ok := impl.RunFlat([][]int{l, l}, c.leaf, l); !ok || !slices.Equal(got, listOf(c.want)) {
			t.Errorf("RunFlat from %d: %v %v", c.leaf, got, ok)
		}
	}
	if !slices.Equal(l, listOf("0 0 0 0 0 1")) {
		t.Errorf("the list was changed: %v", l)
	}
}

// The same call has the same answer every time, many at once too.
func TestChartsAreTheSameEveryTime(t *testing.T) {
	r := rand.New(rand.NewSource(353))
	w := course{c: ringChart(), leaf: 1, events: drawnEvents(r, mostHappened)}
	w.table, _ = impl.FlatChart(w.c)
	want, _ := exactChartRun(w.c, w.events)
	var all sync.WaitGroup
	for range 8 {
		all.Go(func() {
			for range 50 {
				run, ok := impl.RunChart(w.c, w.events)
				flat, good := impl.RunFlat(w.table, w.leaf, w.events)
				table, fine := impl.FlatChart(w.c)
				if !ok || !good || !fine || !slices.Equal(run, want) || !slices.Equal(flat, want) || !samePaths(table, w.table) {
					t.Error("another answer:", run, flat, table)
				}
				if !impl.GoodChart(w.c) || impl.EnterState(w.c, 0) != 1 || impl.ChartStep(w.c, 11, 0) != 1 {
					t.Error("another state")
				}
			}
		})
	}
	all.Wait()
}

// courseOf cuts numbers into states, arrows and lists of so many, the last of which may be shorter.
func courseOf(states []int, arrows []int, numbers []int, long int, leaf int, events []int) course {
	w := course{leaf: leaf, events: events}
	for two := range slices.Chunk(states, 2) {
		w.c.States = append(w.c.States, impl.State{Parent: two[0], First: two[len(two)-1]})
	}
	for some := range slices.Chunk(arrows, 3) {
		w.c.Arrows = append(w.c.Arrows, impl.Arrow{From: some[0], On: some[len(some)/2], To: some[len(some)-1]})
	}
	for len(numbers) > 0 {
		many := min(long, len(numbers))
		w.table, numbers = append(w.table, numbers[:many]), numbers[many:]
	}
	return w
}

// goodCourse makes all numbers ones that may be met.
func goodCourse(w course) course {
	parents := []int{-1}
	for i := 1; i < min(mostStates, len(w.c.States)); i++ {
		parents = append(parents, leftOf(w.c.States[i].Parent, i))
	}
	firsts, i := w.c.States, 0
	w.c.States = statesUnder(parents, func(many int) int {
		i++
		return leftOf(firsts[i-1].First, many)
	})
	for i, a := range w.c.Arrows {
		w.c.Arrows[i] = impl.Arrow{From: leftOf(a.From, len(parents)), On: leftOf(a.On, manyEvents), To: leftOf(a.To, len(parents))}
	}
	for _, list := range w.table {
		for i := range list {
			list[i] = leftOf(list[i], len(w.table))
		}
	}
	for i := range w.events {
		w.events[i] = leftOf(w.events[i], manyEvents)
	}
	return w
}

// FuzzCharts asks every function of any numbers.
func FuzzCharts(f *testing.F) {
	f.Add("\xff\x01\x00\xff\x00\x03\x02\xff", "\x01\x00\x02\x02\x01\x01\x00\x01\x02", "\x01\x00\x00\x00\x00\x00\x00\x01\x01\x01\x01\x01", 6, 0, "\x01\x01\x00\x05")
	f.Add("\xff\xff", "", "\x00\x00\x00\x00\x00\x00", 6, 0, "")
	f.Add("\xff\x01\x00\x02\x01\x03\x02\xff", "\x03\x05\x00", "\x00\x00\x00\x00\x00", 5, 0, "\x06")
	f.Add("", "\x00", "", 1, -1, "\xff")
	f.Add("\x7f\x80\x80\x7f", "\x7f\x80\x7f", "\x7f\x80\x80\x7f\x80\x7f", 6, math.MaxInt, "\x7f\x80")
	f.Fuzz(func(t *testing.T, states string, arrows string, numbers string, long int, leaf int, events string) {
		long = 1 + leftOf(long-1, 8)
		w := courseOf(farNumbers(states), farNumbers(arrows), farNumbers(numbers), long, leaf, farNumbers(events))
		before := w.clone()
		w.check(t)
		if !w.same(before) {
			t.Fatalf("an argument was changed: %v, before %v", w, before)
		}
		// The same with numbers that may be met, so that good ones are met often.
		w = goodCourse(w)
		w.leaf = leftOf(leaf, len(w.table)+1)
		w.check(t)
		if table, ok := impl.FlatChart(w.c); ok {
			checkRunFlat(t, table, w.leaf, w.events)
		}
	})
}
