package tests

import (
	"fmt"
	"math/rand"
	"slices"
	"strings"
	"sync"
	"testing"

	"loop.example/g00047/impl"
)

func checkNoChar(t *testing.T, a [][]string) {
	t.Helper()
	got, ok := impl.CharPoly(a)
	checkNumbers(t, fmt.Sprintf("CharPoly of %.300q", a), got, ok, nil, false)
}

func checkNoRank(t *testing.T, s system) {
	t.Helper()
	if got, ok := impl.ControlRank(s.a, s.b); got != 0 || ok {
		t.Errorf("ControlRank of %.300q, %.200q: %d %v", s.a, s.b, got, ok)
	}
}

func checkNoClosed(t *testing.T, s system) {
	t.Helper()
	if got, ok := impl.ClosedBy(s.a, s.b, s.k); len(got) != 0 || ok {
		t.Errorf("ClosedBy of %.300q, %.200q, %.200q: %.200q %v", s.a, s.b, s.k, got, ok)
	}
}

func checkNoPlaced(t *testing.T, s system) {
	t.Helper()
	got, ok := impl.PlaceGain(s.a, s.b, s.goal)
	checkNumbers(t, fmt.Sprintf("PlaceGain of %.300q, %.200q, %.200q", s.a, s.b, s.goal), got, ok, nil, false)
}

func checkNoWatched(t *testing.T, s system) {
	t.Helper()
	got, ok := impl.WatchGain(s.a, s.c, s.goal)
	checkNumbers(t, fmt.Sprintf("WatchGain of %.300q, %.200q, %.200q", s.a, s.c, s.goal), got, ok, nil, false)
}

func checkNoStep(t *testing.T, s system, u string) {
	t.Helper()
	got, ok := impl.StateStep(s.a, s.b, s.x, u)
	checkNumbers(t, fmt.Sprintf("StateStep of %.300q, %.200q, %.200q, %.200q", s.a, s.b, s.x, u), got, ok, nil, false)
}

func checkNoStates(t *testing.T, s system) {
	t.Helper()
	if got, ok := impl.RunState(s.a, s.b, s.x, s.u); len(got) != 0 || ok {
		t.Errorf("RunState of %.300q, %.200q, %.200q, %.200q: %.200q %v", s.a, s.b, s.x, s.u, got, ok)
	}
}

// checkNoMatrix: nothing is answered where the matrix is none; the lists beside it are as said.
func checkNoMatrix(t *testing.T, s system) {
	t.Helper()
	checkNoChar(t, s.a)
	checkNoRank(t, s)
	checkNoClosed(t, s)
	checkNoPlaced(t, s)
	checkNoWatched(t, s)
	checkNoStep(t, s, "1")
	checkNoStates(t, s)
	s.u = nil
	checkNoStates(t, s)
}

// checkNoB: the functions that have a b.
func checkNoB(t *testing.T, s system) {
	t.Helper()
	checkNoRank(t, s)
	checkNoClosed(t, s)
	checkNoPlaced(t, s)
	checkNoStep(t, s, "1")
	checkNoStates(t, s)
	s.u = nil
	checkNoStates(t, s)
}

// checkNoX: the functions that have an x.
func checkNoX(t *testing.T, s system) {
	t.Helper()
	checkNoStep(t, s, "1")
	checkNoStates(t, s)
	s.u = nil
	checkNoStates(t, s)
}

func TestGoodSystems(t *testing.T) {
	if impl.MaxState != mostState || impl.MaxSettle != mostSettle {
		t.Error("other limits:", impl.MaxState, impl.MaxSettle)
	}
	for n := 1; n <= mostState; n++ {
		for steps := range mostSteps + 1 {
			s := goodSystem(n, steps)
			_, placed := impl.PlaceGain(s.a, s.b, s.goal)
			_, watched := impl.WatchGain(s.a, s.c, s.goal)
			_, closed := impl.ClosedBy(s.a, s.b, s.k)
			_, ran := impl.RunState(s.a, s.b, s.x, s.u)
			if !placed || !watched || !closed || !ran {
				t.Errorf("%q: %v %v %v %v", s, placed, watched, closed, ran)
			}
			s.check(t)
		}
	}
}

func TestWrongTextsInStates(t *testing.T) {
	for n := 1; n <= mostState; n++ {
		for _, wrong := range wrongTexts() {
			for at := range n * n {
				s := goodSystem(n, 2)
				s.a[at/n][at%n] = wrong
				checkNoMatrix(t, s)
			}
			for at := range n {
				s := goodSystem(n, 2)
				s.b[at] = wrong
				checkNoB(t, s)
				s = goodSystem(n, 2)
				s.c[at] = wrong
				checkNoWatched(t, s)
				s = goodSystem(n, 2)
				s.k[at] = wrong
				checkNoClosed(t, s)
				s = goodSystem(n, 2)
				s.x[at] = wrong
				checkNoX(t, s)
			}
			for at := range n + 1 {
				s := goodSystem(n, 0)
				s.goal[at] = wrong
				checkNoPlaced(t, s)
				checkNoWatched(t, s)
			}
			checkNoStep(t, goodSystem(n, 0), wrong)
			for at := range mostSteps {
				s := goodSystem(n, mostSteps)
				s.u[at] = wrong
				checkNoStates(t, s)
				s.u = s.u[:at+1]
				checkNoStates(t, s)
			}
		}
	}
	for _, wrong := range wrongTexts() {
		for n := 1; n <= mostSettle+1; n++ {
			for at := range n {
				poly := slices.Repeat([]string{"1/9"}, n)
				poly[at] = wrong
				if is, ok := impl.Settles(poly); is || ok {
					t.Errorf("Settles of %.300q: %v %v", poly, is, ok)
				}
			}
		}
	}
}

// Any good text in each place has the answer that is worked out.
func TestGoodTextsInStates(t *testing.T) {
	for _, text := range goodTexts() {
		for n := 1; n <= mostState; n++ {
			for at := range n * n {
				s := goodSystem(n, 2)
				s.a[at/n][at%n] = text
				s.check(t)
			}
			for at := range n + 1 {
				s := goodSystem(n, n)
				for _, list := range s.lists() {
					(*list)[min(at, len(*list)-1)] = text
				}
				s.check(t)
			}
		}
	}
}

// The last number of a goal is 1, and nothing else that looks like it.
func TestWrongGoals(t *testing.T) {
	for n := 1; n <= mostState; n++ {
		for _, last := range []string{"0", "-1", "2", "1/2", "-1/2", "10", "11", "01", "1/1", "2/2", "1 ", " 1", "", "+1", nines(400)} {
			s := goodSystem(n, 0)
			s.goal[n] = last
			checkNoPlaced(t, s)
			checkNoWatched(t, s)
		}
		// As many ones as one likes may stand ahead.
		s := goodSystem(n, 0)
		s.goal = slices.Repeat([]string{"1"}, n+1)
		s.check(t)
		for _, count := range []int{0, 1, 2, 3, 4, 5, 6, 40} {
			s.goal = slices.Repeat([]string{"1"}, count)
			if count != n+1 {
				checkNoPlaced(t, s)
				checkNoWatched(t, s)
			}
			s.check(t)
		}
		s.goal = append(slices.Repeat([]string{"0"}, n-1), "1")
		checkNoPlaced(t, s)
		checkNoWatched(t, s)
		s.goal = append(slices.Repeat([]string{"0"}, n+1), "1")
		checkNoPlaced(t, s)
		checkNoWatched(t, s)
		s.goal = append(slices.Repeat([]string{"0"}, n), "1", "0")
		checkNoPlaced(t, s)
		checkNoWatched(t, s)
	}
}

// No list is longer or shorter than the state.
func TestWrongCountsInStates(t *testing.T) {
	for n := 1; n <= mostState; n++ {
		for count := range 8 {
			if count == n {
				continue
			}
			l := slices.Repeat([]string{"1"}, count)
			s := goodSystem(n, 2)
			s.b = l
			checkNoB(t, s)
			s = goodSystem(n, 2)
			s.c = l
			checkNoWatched(t, s)
			s = goodSystem(n, 2)
			s.k = l
			checkNoClosed(t, s)
			s = goodSystem(n, 2)
			s.x = l
			checkNoX(t, s)
			for at := range n {
				s = goodSystem(n, 2)
				s.a[at] = l
				checkNoMatrix(t, s)
			}
		}
		for place := range 4 {
			for _, none := range [][]string{nil, {}} {
				s := goodSystem(n, 2)
				*s.lists()[place] = none
				s.check(t)
			}
		}
	}
}

// n is from 1 to 3: neither none at all, nor four, with all else as many.
func TestWrongSizesOfStates(t *testing.T) {
	for _, n := range []int{0, 4, 5, 7} {
		s := system{a: identity(n, "1"), b: slices.Repeat([]string{"1"}, n), c: slices.Repeat([]string{"1"}, n), k: slices.Repeat([]string{"1"}, n),
			x: slices.Repeat([]string{"1"}, n), goal: append(slices.Repeat([]string{"0"}, n), "1"), u: []string{"1", "1"}}
		for i := range n {
			s.a[i][i] = fmt.Sprint(i + 1)
		}
		checkNoMatrix(t, s)
		s.check(t)
	}
	checkNoMatrix(t, system{goal: []string{"1"}, u: []string{"1"}})
	checkNoMatrix(t, system{a: [][]string{nil}, goal: []string{"1"}})
	checkNoMatrix(t, system{a: [][]string{{}}, goal: []string{"1"}})
	// Rows and columns of unlike numbers.
	for rows := range 5 {
		for columns := range 5 {
			if rows == columns && rows >= 1 && rows <= mostState {
				continue
			}
			for _, n := range []int{rows, columns} {
				l := slices.Repeat([]string{"1"}, n)
				s := system{b: l, c: l, k: l, x: l, goal: append(slices.Clone(l), "1"), u: []string{"1"}}
				for range rows {
					s.a = append(s.a, slices.Repeat([]string{"2"}, columns))
				}
				checkNoMatrix(t, s)
				s.check(t)
			}
		}
	}
}

func (s system) behind(more ...string) system {
	in := system{a: rowsBehind(s.a, more...)}
	from := s.lists()
	for i, list := range in.lists() {
		*list = behind(*from[i], more...)
	}
	return in
}

// What lies behind the lists counts for nothing and stays, as the lists do.
func TestWhatLiesBehindStates(t *testing.T) {
	for _, more := range [][]string{{"x", "7", "0"}, {"1", "1", "1"}, {"", "2/4", "-1"}} {
		for n := 1; n <= mostState; n++ {
			for steps := range mostSteps + 1 {
				good := goodSystem(n, steps)
				in := good.behind(more...)
				for range 2 {
					in.check(t)
				}
				same, before := rowsKept(in.a, good.a, more...), good.lists()
				for i, list := range in.lists() {
					same = same && kept(*list, *before[i], sameText, more...)
				}
				if !same {
					t.Errorf("what lies behind a list was changed: %q", in)
				}
				for _, list := range in.lists() {
					whole := *list
					*list = whole[:len(whole)+1]
					in.check(t)
					*list = whole[:max(len(whole)-1, 0)]
					in.check(t)
					*list = whole
				}
				in.a = in.a[:n-1]
				checkNoMatrix(t, in)
			}
		}
	}
}

// Whoever writes into an answer changes nothing else: no other list of it, no later answer, no argument.
func TestStateAnswersAreNewMemory(t *testing.T) {
	for n := 1; n <= mostState; n++ {
		s := goodSystem(n, mostSteps)
		zero := slices.Repeat([]string{"0"}, n)
		before := s.clone()
		for range 2 {
			for _, ask := range []func() ([]string, bool){
				func() ([]string, bool) { return impl.CharPoly(s.a) },
				func() ([]string, bool) { return impl.PlaceGain(s.a, s.b, s.goal) },
				func() ([]string, bool) { return impl.WatchGain(s.a, s.c, s.goal) },
				func() ([]string, bool) { return impl.StateStep(s.a, s.b, s.x, "1") },
				func() ([]string, bool) { return impl.StateStep(identity(n, "1"), zero, s.x, "0") },
			} {
				l, ok := ask()
				if !ok {
					t.Fatal("no answer")
				}
				spoil(l, "x")
			}
			for _, ask := range []func() ([][]string, bool){
				func() ([][]string, bool) { return impl.ClosedBy(s.a, s.b, s.k) },
				func() ([][]string, bool) { return impl.ClosedBy(s.a, zero, s.k) },
				func() ([][]string, bool) { return impl.RunState(s.a, s.b, s.x, s.u) },
				func() ([][]string, bool) { return impl.RunState(identity(n, "1"), zero, s.x, s.u) },
			} {
				rows, ok := ask()
				if !ok {
					t.Fatal("no answer")
				}
				spoilBeside(t, rows, nil)
			}
			if !s.is(before) {
				t.Fatalf("an argument was changed: %q, before %q", s, before)
			}
			s.check(t)
		}
	}
}

// The same call has the same answer every time, many at once too.
func TestStateAnswersAreTheSameEveryTime(t *testing.T) {
	s := goodSystem(mostState, mostSteps)
	ask := func() string {
		poly, _ := impl.CharPoly(s.a)
		rank, _ := impl.ControlRank(s.a, s.b)
		k, _ := impl.PlaceGain(s.a, s.b, s.goal)
		closed, _ := impl.ClosedBy(s.a, s.b, k)
		l, _ := impl.WatchGain(s.a, s.c, s.goal)
		is, ok := impl.Settles(s.goal)
		next, _ := impl.StateStep(s.a, s.b, s.x, "1")
		states, _ := impl.RunState(s.a, s.b, s.x, s.u)
		return fmt.Sprint(poly, rank, k, closed, l, is, ok, next, states)
	}
	want := ask()
	var all sync.WaitGroup
	for range 8 {
		all.Go(func() {
			for range 25 {
				if got := ask(); got != want {
					t.Errorf("another answer: %.300s, was %.300s", got, want)
				}
			}
		})
	}
	all.Wait()
}

// Drawn shapes of all kinds: lists and rows of any lengths, with good and wrong texts.
func TestDrawnShapesOfStates(t *testing.T) {
	r := rand.New(rand.NewSource(213))
	texts := []string{"0", "1", "2", "-1", "1/2", "3", "1", "1", "0"}
	wrong := []string{"", "x", "2/4", "-0"}
	seldom := func() bool { return r.Intn(25) == 0 }
	list := func(n int) []string {
		if seldom() {
			n = max(0, n+r.Intn(3)-1)
		}
		l := []string{}
		for range n {
			l = append(l, texts[r.Intn(len(texts))])
			if r.Intn(60) == 0 {
				l[len(l)-1] = wrong[r.Intn(len(wrong))]
			}
		}
		return l
	}
	for range 2500 {
		n := r.Intn(mostState + 2)
		s := system{b: list(n), c: list(n), k: list(n), x: list(n), goal: append(list(n), list(1)...), u: list(r.Intn(mostSteps + 2))}
		if !seldom() {
			s.goal = append(list(n), "1")
		}
		for range len(list(n)) {
			s.a = append(s.a, list(n))
		}
		s.check(t)
		checkSettles(t, list(r.Intn(mostSettle+3)))
	}
}

// FuzzStates asks every function of any texts.
func FuzzStates(f *testing.F) {
	bars := strings.NewReplacer(" | ", "#", " ", "|")
	f.Add(bars.Replace("0 1 | -2 -3"), "0|1", "1|0", "1|1/2", "3|5", "1/4|0|1", "1|2|3")
	for _, s := range append(goodTexts(), "", "-0", "1/0", "2/4") {
		f.Add(s, s, s, s, s, s+"|1", s)
		f.Add(s+"|1#0|1", "0|"+s, "1|0", s+"|1", "2|"+s, s+"|0|1", "1|"+s+"|2")
		f.Add("1|0|"+s+"#0|2|1#"+s+"|0|3", "1|1|"+s, s+"|1|1", "1|"+s+"|0", "0|1|"+s, "0|"+s+"|0|1", s+"|1|1|1|1")
	}
	f.Add("", "", "", "", "", "", "")
	f.Fuzz(func(t *testing.T, a string, b string, c string, k string, x string, goal string, u string) {
		s := system{a: rowsIn(a), b: listIn(b), c: listIn(c), k: listIn(k), x: listIn(x), goal: listIn(goal), u: listIn(u)}
		s.check(t)
		s.goal = append(s.goal, "1")
		s.check(t)
	})
}
