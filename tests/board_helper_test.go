package tests

import (
	"math/rand"
	"slices"
	"strings"
	"testing"

	"loop.example/g00047/impl"
)

const (
	mostPlaces = 14
	mostChosen = 30
	mostWent   = 60
)

// boardOf has spaces between the places: +pit>1,2 is mine, is called pit, and leads to 1 and 2; -> is theirs, has no name, and leads nowhere.
func boardOf(s string) impl.Board {
	b := impl.Board{}
	for _, one := range strings.Fields(s) {
		name, next, _ := strings.Cut(one[1:], ">")
		b.Names = append(b.Names, name)
		b.Mine = append(b.Mine, one[0] == '+')
		b.Next = append(b.Next, listOf(strings.ReplaceAll(next, ",", " ")))
	}
	return b
}

func cloneBoard(b impl.Board) impl.Board {
	return impl.Board{Names: slices.Clone(b.Names), Mine: slices.Clone(b.Mine), Next: clonePaths(b.Next)}
}

func sameBoard(a impl.Board, b impl.Board) bool {
	return slices.Equal(a.Names, b.Names) && slices.Equal(a.Mine, b.Mine) && samePaths(a.Next, b.Next)
}

// isBoard says by the test's own word whether b is good.
func isBoard(b impl.Board) bool {
	n := len(b.Names)
	if n == 0 || n > mostPlaces || len(b.Mine) != n || len(b.Next) != n {
		return false
	}
	for i, next := range b.Next {
		in := map[int]int{}
		for _, at := range next {
			in[at]++
		}
		inside := !slices.ContainsFunc(next, func(at int) bool { return !isAmong(at, n) })
		if b.Names[i] != "" && !isCalled(b.Names[i]) || !inside || len(in) != len(next) || !slices.IsSorted(next) {
			return false
		}
	}
	return true
}

// avoids and reaches tell places apart: one whose name is in both is to be avoided.
func avoids(b impl.Board, w impl.Wish, at int) bool { return slices.Contains(w.Avoid, b.Names[at]) }

func reaches(b impl.Board, w impl.Wish, at int) bool {
	return slices.Contains(w.Reach, b.Names[at]) && !avoids(b, w, at)
}

// match is a board and a wish, and what was found out about how both sides fare within some choices.
type match struct {
	b     impl.Board
	w     impl.Wish
	known map[[2]int]bool
}

func matchOf(b impl.Board, w impl.Wish) match { return match{b, w, map[[2]int]bool{}} }

// met says whether I can bring it about, whatever they do, that the wish is met within so many choices; without Reach: that it is not yet broken by then. Each way of both sides is tried.
func (m match) met(at int, choices int) bool {
	next := m.b.Next[at]
	switch {
	case avoids(m.b, m.w, at):
		return false
	case reaches(m.b, m.w, at):
		return true
	case choices == 0 || len(next) == 0:
		return len(m.w.Reach) == 0
	}
	key := [2]int{at, choices}
	if won, ok := m.known[key]; ok {
		return won
	}
	won := !m.b.Mine[at]
	for _, to := range next {
		if m.met(to, choices-1) == m.b.Mine[at] {
			won = m.b.Mine[at]
		}
	}
	m.known[key] = won
	return won
}

// enough is more choices than a board has places: who has not met a wish by then never does, and who has not broken it need not.
const enough = 20

// fewest is within how many choices the wish can be met; -1 where it can't.
func (m match) fewest(at int) int {
	for choices := range enough {
		if m.met(at, choices) {
			return choices
		}
	}
	return -1
}

func (m match) wins(at int) bool { return m.met(at, enough) }

func (m match) winning() []int {
	l := []int{}
	for at := range m.b.Names {
		if m.wins(at) {
			l = append(l, at)
		}
	}
	return l
}

// best is the next place that the plan is to have.
func (m match) best(at int) int {
	if !m.b.Mine[at] || !m.wins(at) || reaches(m.b, m.w, at) {
		return -1
	}
	for choices := range enough {
		for _, to := range m.b.Next[at] {
			if len(m.w.Reach) > 0 && m.met(to, choices) || len(m.w.Reach) == 0 && m.wins(to) {
				return to
			}
		}
	}
	return -1
}

func (m match) plan() []int {
	l := []int{}
	for at := range m.b.Names {
		l = append(l, m.best(at))
	}
	return l
}

// checkMatch asks GoodBoard, WinningPlaces and Strategy of anything.
func checkMatch(t *testing.T, b impl.Board, w impl.Wish) ([]int, []int) {
	t.Helper()
	good := isBoard(b)
	if got := impl.GoodBoard(b); got != good {
		t.Fatalf("GoodBoard of %+v: %v", b, got)
	}
	var places, choices []int
	if good = good && isWish(w); good {
		m := matchOf(b, w)
		places, choices = m.winning(), m.plan()
	}
	if got, ok := impl.WinningPlaces(b, w); ok != good || !slices.Equal(got, places) {
		t.Fatalf("WinningPlaces of %+v, %q: %v %v, want %v %v", b, w, got, ok, places, good)
	}
	if got, ok := impl.Strategy(b, w); ok != good || !slices.Equal(got, choices) {
		t.Fatalf("Strategy of %+v, %q: %v %v, want %v %v", b, w, got, ok, choices, good)
	}
	return places, choices
}

// ranFrom tells the run without the first place; false where the plan goes astray.
func ranFrom(b impl.Board, plan []int, at int, theirs []int) ([]int, bool) {
	next := b.Next[at]
	if len(theirs) == 0 || len(next) == 0 || b.Mine[at] && plan[at] == -1 {
		return nil, true
	}
	to := next[leftOf(theirs[0], len(next))]
	if b.Mine[at] {
		to = plan[at]
	}
	if _, found := slices.BinarySearch(next, to); !found {
		return nil, false
	}
	rest, ok := ranFrom(b, plan, to, theirs[1:])
	return append([]int{to}, rest...), ok
}

func exactPlay(b impl.Board, plan []int, from int, theirs []int) ([]int, bool) {
	if !isBoard(b) || len(plan) != len(b.Names) || !isAmong(from, len(plan)) || len(theirs) > mostChosen || slices.ContainsFunc(theirs, func(n int) bool { return n < 0 }) {
		return nil, false
	}
	run, ok := ranFrom(b, plan, from, theirs)
	if !ok {
		return nil, false
	}
	return append([]int{from}, run...), true
}

// checkPlay asks PlayBoard of anything.
func checkPlay(t *testing.T, b impl.Board, plan []int, from int, theirs []int) []int {
	t.Helper()
	got, ok := impl.PlayBoard(b, plan, from, theirs)
	if want, good := exactPlay(b, plan, from, theirs); ok != good || !slices.Equal(got, want) {
		t.Fatalf("PlayBoard of %+v, %v, %d, %v: %v %v, want %v %v", b, plan, from, theirs, got, ok, want, good)
	}
	return got
}

func isWent(b impl.Board, path []int) bool {
	for i, at := range path {
		if !isAmong(at, len(b.Names)) || i > 0 && !slices.Contains(b.Next[path[i-1]], at) {
			return false
		}
	}
	return len(path) >= 1 && len(path) <= mostWent
}

func exactMet(b impl.Board, w impl.Wish, path []int) (bool, bool) {
	if !isBoard(b) || !isWish(w) || !isWent(b, path) {
		return false, false
	}
	// Where none is the path's length stands for it.
	broken, done := len(path), len(path)
	for i, at := range slices.Backward(path) {
		if avoids(b, w, at) {
			broken = i
		}
		if reaches(b, w, at) {
			done = i
		}
	}
	return len(w.Reach) > 0 && done < broken || len(w.Reach) == 0 && broken == len(path), true
}

// checkMet asks WishMet of anything.
func checkMet(t *testing.T, b impl.Board, w impl.Wish, path []int) bool {
	t.Helper()
	got, ok := impl.WishMet(b, w, path)
	if want, good := exactMet(b, w, path); got != want || ok != good {
		t.Fatalf("WishMet of %+v, %q, %v: %v %v, want %v %v", b, w, path, got, ok, want, good)
	}
	return got
}

// nextsOf are the lists of places that a number tells bit by bit.
func nextsOf(code int, n int) [][]int {
	all := [][]int{}
	for range n {
		next := []int{}
		for to := range n {
			if code&1 != 0 {
				next = append(next, to)
			}
			code >>= 1
		}
		all = append(all, next)
	}
	return all
}

func mineOf(code int, n int) []bool {
	l := []bool{}
	for i := range n {
		l = append(l, code>>i&1 != 0)
	}
	return l
}

// eachBoard are all boards of n places with such names.
func eachBoard(n int, names []string, see func(impl.Board)) {
	eachTexts(names, n, func(called []string) {
		for mine := range 1 << n {
			for next := range 1 << (n * n) {
				see(impl.Board{Names: called, Mine: mineOf(mine, n), Next: nextsOf(next, n)})
			}
		}
	})
}

// drawnBoard leads from each place to each other one with a chance of so many in eight; each third place has a name.
func drawnBoard(r *rand.Rand, n int, names []string, dense int) impl.Board {
	b := impl.Board{}
	for range n {
		name, next := "", []int{}
		if r.Intn(3) == 0 {
			name = names[r.Intn(len(names))]
		}
		for to := range n {
			if r.Intn(8) < dense {
				next = append(next, to)
			}
		}
		b.Names, b.Mine, b.Next = append(b.Names, name), append(b.Mine, r.Intn(2) == 0), append(b.Next, next)
	}
	return b
}

// roundBoard: each place is next to all.
func roundBoard(n int, mine bool) impl.Board {
	return impl.Board{Names: make([]string, n), Mine: slices.Repeat([]bool{mine}, n), Next: nextsOf(-1, n)}
}

// lineBoard leads from each place to the next one, and from the last one nowhere.
func lineBoard(n int, mine bool) impl.Board {
	b := impl.Board{Names: make([]string, n), Mine: slices.Repeat([]bool{mine}, n), Next: make([][]int, n)}
	for at := range n - 1 {
		b.Next[at] = []int{at + 1}
	}
	return b
}

func drawnTheirs(r *rand.Rand, many int) []int {
	l := []int{}
	for range many {
		l = append(l, []int{r.Intn(3), r.Intn(20), r.Int()}[r.Intn(3)])
	}
	return l
}

// drawnPlan has places that may be next, and -1 where there are none.
func drawnPlan(r *rand.Rand, b impl.Board) []int {
	l := []int{}
	for _, next := range b.Next {
		to := -1
		if len(next) > 0 {
			to = next[r.Intn(len(next))]
		}
		l = append(l, to)
	}
	return l
}
