package tests

import (
	"math"
	"math/rand"
	"slices"
	"testing"

	"loop.example/g00047/impl"
)

func TestPlayBoardByHand(t *testing.T) {
	fork := "+>1,2 ->0,1,2 ->"
	for _, c := range []struct {
		board, plan string
		from        int
		theirs      string
		want        string
		good        bool
	}{
		// No numbers: the first place alone, whatever the plan has.
		{fork, "1 -1 -1", 0, "", "0", true},
		{fork, "9 9 9", 0, "", "0", true},
		{fork, "9 9 9", 2, "", "2", true},
		// Mine by the plan, theirs by the numbers; each step takes one.
		{fork, "1 -1 -1", 0, "0", "0 1", true},
		{fork, "1 -1 -1", 0, "7", "0 1", true},
		{fork, "1 -1 -1", 0, "0 0", "0 1 0", true},
		{fork, "1 -1 -1", 0, "0 1", "0 1 1", true},
		{fork, "1 -1 -1", 0, "0 2", "0 1 2", true},
		{fork, "1 -1 -1", 0, "2 1 1 0 9", "0 1 1 1 0 1", true},
		{fork, "1 -1 -1", 1, "1 0 2 1 2", "1 1 0 1 1 2", true},
		// Modulo how many there are.
		{fork, "1 -1 -1", 1, "3", "1 0", true},
		{fork, "1 -1 -1", 1, "4", "1 1", true},
		{fork, "1 -1 -1", 1, "5", "1 2", true},
		{fork, "1 -1 -1", 1, "9223372036854775807", "1 1", true},
		{"->1 +>", "-1 -1", 0, "5", "0 1", true},
		{"->1,3 +> +> +>", "-1 -1 -1 -1", 0, "4", "0 1", true},
		{"->1,3 +> +> +>", "-1 -1 -1 -1", 0, "5", "0 3", true},
		// Where Next is empty the run ends, though there are more numbers, and though the plan has any.
		{fork, "2 -1 -1", 0, "0 0 0 0", "0 2", true},
		{fork, "2 -1 -1", 2, "0 0 0 0", "2", true},
		{"+>1 +>", "1 7", 0, "0 0 0", "0 1", true},
		{"+>", "0", 0, "0", "0", true},
		{"+>", "-9", 0, "0", "0", true},
		// -1 in the plan where it is asked for: the run ends.
		{fork, "-1 -1 -1", 0, "0 0", "0", true},
		{fork, "-1 -1 -1", 1, "1 0 2", "1 1 0", true},
		{"+>1 +>0", "1 -1", 0, "0 0 0", "0 1", true},
		// A number that is none of Next where it is asked for.
		{fork, "0 -1 -1", 0, "0", "", false},
		{fork, "3 -1 -1", 0, "0", "", false},
		{fork, "-2 -1 -1", 0, "0", "", false},
		{fork, "0 -1 -1", 1, "1 1 0 0", "", false},
		{"+>1 +>0", "1 1", 0, "0 0", "", false},
		// And where it is not: as it is theirs, as the run never comes there, as there are no numbers left, as Next is empty.
		{fork, "1 7 -7", 0, "0 2", "0 1 2", true},
		{fork, "0 -1 -1", 1, "1 1 0", "1 1 1 0", true},
		{fork, "0 -1 -1", 1, "1 2 5 5", "1 1 2", true},
		{"+>1 +>0", "1 1", 0, "0", "0 1", true},
		// Numbers below 0, those that are never taken among them.
		{fork, "1 -1 -1", 0, "-1", "", false},
		{fork, "2 -1 -1", 0, "0 0 -1", "", false},
		{fork, "1 -1 -1", 0, "-9223372036854775808", "", false},
		{fork, "-1 -1 -1", 0, "0 -1", "", false},
		// A plan that is too short, too long, empty.
		{fork, "1 -1", 0, "0", "", false},
		{fork, "1 -1 -1 -1", 0, "0", "", false},
		{fork, "", 0, "", "", false},
		// A place below 0 and beyond.
		{fork, "1 -1 -1", -1, "0", "", false},
		{fork, "1 -1 -1", 3, "0", "", false},
		{fork, "1 -1 -1", math.MaxInt, "", "", false},
		{fork, "1 -1 -1", math.MinInt, "", "", false},
		// Round and round at one place.
		{"+>0", "0", 0, "0 0 0", "0 0 0 0", true},
		{"->0", "-1", 0, "5 6 7", "0 0 0 0", true},
	} {
		b := boardOf(c.board)
		got, ok := impl.PlayBoard(b, listOf(c.plan), c.from, listOf(c.theirs))
		if ok != c.good || !slices.Equal(got, listOf(c.want)) {
			t.Errorf("PlayBoard of %s, %s, %d, %s: %v %v, want %s %v", c.board, c.plan, c.from, c.theirs, got, ok, c.want, c.good)
		}
		checkPlay(t, b, listOf(c.plan), c.from, listOf(c.theirs))
	}
}

// 30 numbers and 31, whether they are taken or not.
func TestPlayBoardManyNumbers(t *testing.T) {
	for _, c := range []struct {
		board, plan string
		long        int
	}{{"+>0", "0", 31}, {"->0", "-1", 31}, {"+>", "-1", 1}, {"+>0", "-1", 1}} {
		for many := range 40 {
			got, ok := impl.PlayBoard(boardOf(c.board), listOf(c.plan), 0, make([]int, many))
			if ok != (many <= 30) || ok && len(got) != min(c.long, many+1) || !ok && len(got) != 0 {
				t.Errorf("PlayBoard of %s, %s with %d numbers: %v %v", c.board, c.plan, many, got, ok)
			}
		}
	}
	b := roundBoard(14, false)
	theirs := []int{}
	for i := range 30 {
		theirs = append(theirs, i*14+13-i%14)
	}
	run := checkPlay(t, b, make([]int, 14), 13, theirs)
	if len(run) != 31 || run[1] != 13 || run[14] != 0 || run[15] != 13 {
		t.Errorf("a round of 14: %v", run)
	}
}

// Small boards, with all plans and all numbers.
func TestPlaySmallBoards(t *testing.T) {
	eachBoard(2, []string{""}, func(b impl.Board) {
		for _, plan := range listsUpTo(2, -1, 0, 1, 2) {
			for _, theirs := range listsUpTo(3, -1, 0, 1, 2) {
				for from := -1; from <= 2; from++ {
					checkPlay(t, b, plan, from, theirs)
				}
			}
		}
	})
}

// Drawn boards: good plans, plans that go astray, and all numbers taken.
func TestPlayDrawn(t *testing.T) {
	r := rand.New(rand.NewSource(377))
	longs, nones := 0, 0
	for range 20000 {
		b := drawnBoard(r, drawnBetween(r, 1, 14), []string{"a"}, drawnBetween(r, 1, 8))
		plan, theirs := drawnPlan(r, b), drawnTheirs(r, r.Intn(31))
		if r.Intn(3) == 0 {
			plan[r.Intn(len(plan))] = drawnBetween(r, -2, len(plan))
		}
		run := checkPlay(t, b, plan, r.Intn(len(plan)), theirs)
		switch {
		case len(run) == 0:
			nones++
		case len(run) == len(theirs)+1:
			longs++
		}
		if len(run) > 0 {
			checkMet(t, b, wishOf("a|"), run)
		}
	}
	if longs < 5000 || nones < 500 {
		t.Errorf("%d to the end, %d with no answer", longs, nones)
	}
}

// eachTheirs are all lists of so many numbers, each below the number told.
func eachTheirs(many int, below int, see func([]int)) {
	lists := slices.Repeat([][]int{nil}, many)
	for i := range lists {
		for n := range below {
			lists[i] = append(lists[i], n)
		}
	}
	forEach(lists, nil, see)
}

// checkPlanMeets plays the plan from each place that wins: with Reach the wish is met by the choices told, without it is never broken.
func checkPlanMeets(t *testing.T, b impl.Board, w impl.Wish, theirs []int) {
	t.Helper()
	m := matchOf(b, w)
	plan, ok := impl.Strategy(b, w)
	wins, good := impl.WinningPlaces(b, w)
	if !ok || !good {
		t.Fatalf("no plan for %+v, %q", b, w)
	}
	for _, from := range wins {
		run, ok := impl.PlayBoard(b, plan, from, theirs)
		if !ok {
			t.Fatalf("the plan %v of %+v, %q goes astray from %d with %v", plan, b, w, from, theirs)
		}
		met, good := impl.WishMet(b, w, run)
		if need := m.fewest(from); !good || !met && len(theirs) >= need {
			t.Fatalf("the plan %v of %+v, %q does not meet it from %d with %v: %v", plan, b, w, from, theirs, run)
		}
	}
}

// Promise 22, on all boards of two places and on drawn small ones: whatever the other side does.
func TestPlanMeetsSmallBoards(t *testing.T) {
	r := rand.New(rand.NewSource(378))
	for _, s := range []string{"goal|pit", "|pit", "goal both|pit both"} {
		w := wishOf(s)
		eachBoard(2, []string{"", "goal", "pit"}, func(b impl.Board) {
			eachTheirs(3, 2, func(theirs []int) { checkPlanMeets(t, b, w, theirs) })
		})
		for range 300 {
			n := drawnBetween(r, 3, 4)
			b := drawnBoard(r, n, []string{"goal", "pit", "both"}, drawnBetween(r, 2, 4))
			eachTheirs(n-1, n, func(theirs []int) { checkPlanMeets(t, b, w, theirs) })
		}
	}
}

// worstChoice is what the other side does against me: what holds for the fewest numbers of choices. So with Reach it drags out what I win, and without it breaks as soon as it can what I lose.
func (m match) worstChoice(at int) int {
	worst, least := 0, enough+1
	for i, to := range m.b.Next[at] {
		many := 0
		for choices := range enough {
			if m.met(to, choices) {
				many++
			}
		}
		if many < least {
			worst, least = i, many
		}
	}
	return worst
}

// worstRun plays a plan against the worst that the other side does.
func (m match) worstRun(t *testing.T, plan []int, from int) []int {
	t.Helper()
	theirs := []int{}
	for len(theirs) < mostChosen {
		run, ok := impl.PlayBoard(m.b, plan, from, theirs)
		if !ok {
			t.Fatalf("the plan %v of %+v goes astray from %d with %v", plan, m.b, from, theirs)
		}
		at, choice := run[len(run)-1], 0
		if !m.b.Mine[at] && len(m.b.Next[at]) > 0 {
			choice = m.worstChoice(at)
		}
		theirs = append(theirs, choice)
	}
	return checkPlay(t, m.b, plan, from, theirs)
}

// Promise 22, on drawn boards of all sizes: from where one wins the plan meets the wish by the fewest choices against the worst, from elsewhere no plan meets it.
func TestPlanMeetsAgainstTheWorst(t *testing.T) {
	r := rand.New(rand.NewSource(379))
	won, lost, far := 0, 0, 0
	for range 1500 {
		b := drawnBoard(r, drawnBetween(r, 1, 14), []string{"goal", "pit", "both", "goal"}, drawnBetween(r, 1, 3))
		for _, s := range []string{"goal both|pit both", "|pit both", "goal|"} {
			m := matchOf(b, wishOf(s))
			plan, _ := impl.Strategy(b, m.w)
			wins, _ := impl.WinningPlaces(b, m.w)
			checkPlanMeets(t, b, m.w, drawnTheirs(r, 30))
			checkPlanMeets(t, b, m.w, drawnTheirs(r, r.Intn(8)))
			for from := range b.Names {
				if !slices.Contains(wins, from) {
					if run := m.worstRun(t, drawnPlan(r, b), from); checkMet(t, b, m.w, run) {
						t.Fatalf("a plan meets %q of %+v from %d: %v", m.w, b, from, run)
					}
					lost++
					continue
				}
				run := m.worstRun(t, plan, from)
				if !checkMet(t, b, m.w, run) {
					t.Fatalf("the plan %v does not meet %q of %+v from %d: %v", plan, m.w, b, from, run)
				}
				if need := m.fewest(from); len(m.w.Reach) > 0 {
					if !reaches(b, m.w, run[need]) || need > 0 && checkMet(t, b, m.w, run[:need]) {
						t.Fatalf("the plan %v meets %q of %+v from %d otherwise than by %d choices: %v", plan, m.w, b, from, need, run)
					}
					far = max(far, need)
				}
				won++
			}
		}
	}
	if won < 5000 || lost < 5000 || far < 5 {
		t.Errorf("%d won, %d lost, at most %d choices", won, lost, far)
	}
}

// Promise 22, from the text on: a wish is read, planned for, played and met.
func TestWishFromTextToRun(t *testing.T) {
	b := boardOf("+>1,2 ->3,4 ->5 +Tür> +pit> +>1,3")
	read := impl.ReadWish("  reach Tür   avoid pit ")
	if text, ok := impl.WriteWish(read.Wish); !ok || text != "reach Tür avoid pit" {
		t.Errorf("WriteWish: %q %v", text, ok)
	}
	plan, _ := impl.Strategy(b, read.Wish)
	run, _ := impl.PlayBoard(b, plan, 0, []int{8, 8, 8, 8, 8})
	if met, ok := impl.WishMet(b, read.Wish, run); !met || !ok || !slices.Equal(run, listOf("0 2 5 3")) {
		t.Errorf("%v: %v %v by %v", run, met, ok, plan)
	}
}
