package tests

import (
	"math/rand"
	"slices"
	"testing"

	"loop.example/g00047/impl"
)

func TestWinningByHand(t *testing.T) {
	for _, c := range []struct {
		board, wish, wins, plan string
	}{
		// One place, which leads nowhere or to itself.
		{"+>", "|", "0", "-1"},
		{"->", "|", "0", "-1"},
		{"+>", "goal|", "", "-1"},
		{"+>0", "goal|", "", "-1"},
		{"+>0", "|pit", "0", "0"},
		{"->0", "|pit", "0", "-1"},
		{"+goal>", "goal|", "0", "-1"},
		{"+goal>0", "goal|", "0", "-1"},
		{"-goal>", "goal|pit", "0", "-1"},
		{"+goal>0", "|pit", "0", "0"},
		{"+goal>0", "|", "0", "0"},
		{"+pit>", "|pit", "", "-1"},
		{"+pit>0", "|pit", "", "-1"},
		{"+pit>0", "goal|pit", "", "-1"},
		// A place whose name is in both is one to avoid.
		{"+both>", "both|both", "", "-1"},
		{"+both>0", "both goal|pit both", "", "-1"},
		{"+>1,2 +both> +goal>", "both goal|both", "0 2", "2 -1 -1"},
		{"+>1 +both>2 +goal>", "both goal|both", "2", "-1 -1 -1"},
		// A place without a name is none to reach, and none to avoid.
		{"+>1 +>", "goal|", "", "-1 -1"},
		{"+>1 +>", "|pit", "0 1", "1 -1"},
		// I choose, or the other side does.
		{"+>1,2 +pit> +goal>", "goal|pit", "0 2", "2 -1 -1"},
		{"->1,2 +pit> +goal>", "goal|pit", "2", "-1 -1 -1"},
		{"->2 +pit> +goal>", "goal|pit", "0 2", "-1 -1 -1"},
		{"->1,2 +goal> -goal>0", "goal|", "0 1 2", "-1 -1 -1"},
		{"+>1,2,3 +pit> +Tür> ->1,2", "Tür|pit", "0 2", "2 -1 -1 -1"},
		// Next is empty at one to be reached, at one to be avoided, at another.
		{"+>1,2,3 +> -pit> -goal>", "goal|pit", "0 3", "3 -1 -1 -1"},
		{"->1,3 +> -pit> -goal>", "goal|pit", "3", "-1 -1 -1 -1"},
		{"+>1,2,3 +> -pit> -goal>", "|pit", "0 1 3", "1 -1 -1 -1"},
		{"->1,3 +> -pit> -goal>", "|pit", "0 1 3", "-1 -1 -1 -1"},
		{"->1,2 +> -pit> -goal>", "|pit", "1 3", "-1 -1 -1 -1"},
		// From where it is reached nothing counts any more.
		{"+>1 +goal>2 +pit>", "goal|pit", "0 1", "1 -1 -1"},
		{"->1 -goal>2 +pit>", "goal|pit", "0 1", "-1 -1 -1"},
		// But without Reach it goes on.
		{"+>1 +goal>2 +pit>", "|pit", "", "-1 -1 -1"},
		// Cycles that never reach.
		{"+>1 +>0 +goal>", "goal|", "2", "-1 -1 -1"},
		{"->1 ->0 +goal>", "goal|", "2", "-1 -1 -1"},
		{"+>1 ->0,2 +goal>", "goal|", "2", "-1 -1 -1"},
		{"+>1,2 ->0 +goal>", "goal|", "0 1 2", "2 -1 -1"},
		{"+>1,2 ->0,2 +goal>", "goal|", "0 1 2", "2 -1 -1"},
		{"->1,2 +>0 +goal>", "goal|", "2", "-1 -1 -1"},
		{"->1,2 +>0,2 +goal>", "goal|", "0 1 2", "-1 2 -1"},
		{"+>1 +>0 +pit>", "|pit", "0 1", "1 0 -1"},
		{"+>1 ->0,2 +pit>", "|pit", "", "-1 -1 -1"},
		{"+>1 ->0 +pit>", "|pit", "0 1", "1 -1 -1"},
		// To stay where one wins is no way to reach, but a way to avoid.
		{"+>0,1 +goal>", "goal|", "0 1", "1 -1"},
		{"+>0,1 +goal>", "|pit", "0 1", "0 -1"},
		{"+>1,2 +>0,1,2 +goal>", "goal|", "0 1 2", "2 2 -1"},
		{"+>1,2 +>0,1 +goal>", "goal|", "0 1 2", "2 0 -1"},
		// Of several next places that do as well the least.
		{"+>1,2,3 +goal> +goal> +goal>", "goal|", "0 1 2 3", "1 -1 -1 -1"},
		{"+>2,3 +goal> +goal> +goal>", "goal|", "0 1 2 3", "2 -1 -1 -1"},
		{"+>1,2 +>3 +>3 +goal>", "goal|", "0 1 2 3", "1 3 3 -1"},
		{"+>1,2 ->3 +>3 +goal>", "goal|", "0 1 2 3", "1 -1 3 -1"},
		{"+>1,2,3 +pit> +> +>", "|pit", "0 2 3", "2 -1 -1 -1"},
		// The least number is not the nearest.
		{"+>1,2 +>3 +goal> +>2", "goal|", "0 1 2 3", "2 3 -1 2"},
		{"+>1,4 +>2 +>3 +goal> +>3", "goal|", "0 1 2 3 4", "4 2 3 -1 3"},
		// A longer way is safe, a shorter one isn't.
		{"+>1,2 ->3,4 +>5 +goal> +pit> +>3", "goal|pit", "0 2 3 5", "2 -1 5 -1 -1 3"},
		{"+>1,2 +pit>3 +>4 +goal> +>3", "goal|pit", "0 2 3 4", "2 -1 4 -1 3"},
		// What the other side can drag out counts: at most two choices by 2, at most four by 1.
		{"+>1,2 ->3,4 +>3 +goal> +>5 +>3", "goal|", "0 1 2 3 4 5", "2 -1 3 -1 5 3"},
		// And both sides' choices count alike: two by 1 and two by 4, then three by 1.
		{"+>1,4 ->2 ->3 -goal> +>5 +>3", "goal|", "0 1 2 3 4 5", "1 -1 -1 -1 5 3"},
		{"+>1,4 ->2 ->6 -goal> +>5 +>3 ->3", "goal|", "0 1 2 3 4 5 6", "4 -1 -1 -1 5 3 -1"},
		// Without Reach the least that wins, though others would do for longer.
		{"+>1,2,3 ->4 +>2 +>3 +pit>", "|pit", "0 2 3", "2 -1 2 3 -1"},
		// Several names.
		{"+>1,2 +a> +b>", "b c|a d", "0 2", "2 -1 -1"},
		{"+>1,2 +a> +b>", "a b|c", "0 1 2", "1 -1 -1"},
		{"->1,2 +a> +b>", "a b|c", "0 1 2", "-1 -1 -1"},
		{"+>1,2 +a> +b>", "c|a b", "", "-1 -1 -1"},
		// Names that no place has.
		{"+>1 +b>0", "x|y", "", "-1 -1"},
		{"+>1 +b>0", "|y", "0 1", "1 0"},
		// The words are names here.
		{"+>1,2 +reach> +avoid>", "reach|avoid", "0 1", "1 -1 -1"},
		{"+>1,2 +reach> +avoid>", "avoid|reach", "0 2", "2 -1 -1"},
	} {
		b, w := boardOf(c.board), wishOf(c.wish)
		if got, ok := impl.WinningPlaces(b, w); !ok || !slices.Equal(got, listOf(c.wins)) {
			t.Errorf("WinningPlaces of %s, %s: %v %v, want %s", c.board, c.wish, got, ok, c.wins)
		}
		if got, ok := impl.Strategy(b, w); !ok || !slices.Equal(got, listOf(c.plan)) {
			t.Errorf("Strategy of %s, %s: %v %v, want %s", c.board, c.wish, got, ok, c.plan)
		}
		checkMatch(t, b, w)
	}
}

// A line of MaxPlaces: the greatest number of choices that a win can take; and each place next to all.
func TestWinningGreatest(t *testing.T) {
	for n := 1; n <= 14; n++ {
		for _, mine := range []bool{true, false} {
			b := lineBoard(n, mine)
			b.Names[n-1] = "goal"
			places, plan := checkMatch(t, b, wishOf("goal|pit"))
			if len(places) != n || mine && n > 1 && (plan[0] != 1 || plan[n-2] != n-1) || plan[n-1] != -1 {
				t.Errorf("a line of %d: %v %v", n, places, plan)
			}
			if places, _ := checkMatch(t, b, wishOf("|goal")); len(places) != 0 {
				t.Errorf("a line of %d: %v", n, places)
			}
			checkMatch(t, b, wishOf("|"))
			b = roundBoard(n, mine)
			b.Names[n-1] = "goal"
			want := 1
			if mine {
				want = n
			}
			if places, _ := checkMatch(t, b, wishOf("goal|pit")); n > 1 && len(places) != want {
				t.Errorf("a round of %d: %v", n, places)
			}
			if places, _ := checkMatch(t, b, wishOf("|pit")); len(places) != n {
				t.Errorf("a round of %d: %v", n, places)
			}
			b.Names[0] = "pit"
			if places, plan := checkMatch(t, b, wishOf("|pit")); mine && n > 2 && (len(places) != n-1 || plan[1] != 1) || !mine && len(places) != 0 {
				t.Errorf("a round of %d: %v %v", n, places, plan)
			}
			checkMatch(t, b, wishOf("goal|pit"))
		}
	}
	// Backwards: from the last place to the first one, so that the order in which places are looked at is no help.
	for n := 2; n <= 14; n++ {
		b := lineBoard(n, true)
		for at := range n {
			b.Next[at] = []int{max(at-1, 0)}
			b.Mine[at] = at%3 != 0
		}
		b.Names[0] = "goal"
		if places, plan := checkMatch(t, b, wishOf("goal|")); len(places) != n || b.Mine[n-1] && plan[n-1] != n-2 {
			t.Errorf("backwards of %d: %v %v", n, places, plan)
		}
	}
}

// forEach goes through all ways to choose one of each list; -1 of an empty one.
func forEach(lists [][]int, chosen []int, see func([]int)) {
	if len(chosen) == len(lists) {
		see(chosen)
		return
	}
	list := lists[len(chosen)]
	if len(list) == 0 {
		list = []int{-1}
	}
	for _, one := range list {
		forEach(lists, append(chosen[:len(chosen):len(chosen)], one), see)
	}
}

// ends says how a run fares by choices that are always the same: by then it goes round, or stays.
func ends(b impl.Board, w impl.Wish, choices []int, at int) bool {
	for range len(b.Names) + 1 {
		if avoids(b, w, at) {
			return false
		}
		if reaches(b, w, at) {
			return true
		}
		if choices[at] != -1 {
			at = choices[at]
		}
	}
	return len(w.Reach) == 0
}

// winningByAllPlans tries each plan of mine against each one of theirs.
func winningByAllPlans(b impl.Board, w impl.Wish) []int {
	mine, theirs := make([][]int, len(b.Names)), make([][]int, len(b.Names))
	for at, next := range b.Next {
		if b.Mine[at] {
			mine[at] = next
		} else {
			theirs[at] = next
		}
	}
	wins := map[int]bool{}
	forEach(mine, nil, func(plan []int) {
		lost := map[int]bool{}
		forEach(theirs, nil, func(other []int) {
			choices := []int{}
			for at := range plan {
				choices = append(choices, max(plan[at], other[at]))
			}
			for at := range choices {
				if !ends(b, w, choices, at) {
					lost[at] = true
				}
			}
		})
		for at := range plan {
			wins[at] = wins[at] || !lost[at]
		}
	})
	l := []int{}
	for at := range b.Names {
		if wins[at] {
			l = append(l, at)
		}
	}
	return l
}

// All boards of up to three places, with every kind of name, and with and without Reach: by every way of both sides.
func TestWinningSmallBoards(t *testing.T) {
	for _, c := range []struct {
		n     int
		names []string
		wish  string
	}{
		{1, []string{"", "goal", "pit", "both", "x"}, "goal both|pit both"},
		{1, []string{"", "goal", "pit"}, "|pit"},
		{2, []string{"", "goal", "pit", "both", "x"}, "goal both|pit both"},
		{2, []string{"", "goal", "pit"}, "|pit"},
		{2, []string{"", "goal"}, "goal|"},
		{2, []string{"", "x"}, "|"},
		{3, []string{"", "goal", "pit"}, "goal|pit"},
		{3, []string{"", "pit"}, "|pit"},
	} {
		w := wishOf(c.wish)
		eachBoard(c.n, c.names, func(b impl.Board) { checkMatch(t, b, w) })
	}
}

// The same where both sides have plans that they keep to: none of them needs another one.
func TestWinningByAllPlans(t *testing.T) {
	r := rand.New(rand.NewSource(375))
	for _, s := range []string{"goal|pit", "|pit", "goal|"} {
		w := wishOf(s)
		eachBoard(2, []string{"", "goal", "pit"}, func(b impl.Board) {
			if places, _ := checkMatch(t, b, w); !slices.Equal(places, winningByAllPlans(b, w)) {
				t.Fatalf("WinningPlaces of %+v, %q: %v, want %v", b, w, places, winningByAllPlans(b, w))
			}
		})
		for range 3000 {
			b := drawnBoard(r, drawnBetween(r, 3, 5), []string{"goal", "pit", "both", "goal"}, drawnBetween(r, 1, 5))
			if places, _ := checkMatch(t, b, w); !slices.Equal(places, winningByAllPlans(b, w)) {
				t.Fatalf("WinningPlaces of %+v, %q: %v, want %v", b, w, places, winningByAllPlans(b, w))
			}
		}
	}
}

// Drawn boards of all sizes.
func TestWinningDrawn(t *testing.T) {
	r := rand.New(rand.NewSource(376))
	some, all, none := 0, 0, 0
	for range 8000 {
		n := drawnBetween(r, 1, 14)
		b := drawnBoard(r, n, []string{"goal", "pit", "both", "a", "é", "reach"}, drawnBetween(r, 1, 4))
		for _, s := range []string{"goal both é|pit both", "|pit both", "reach|", "|", "a reach goal|pit", "|avoid reach a"} {
			switch places, _ := checkMatch(t, b, wishOf(s)); len(places) {
			case 0:
				none++
			case n:
				all++
			default:
				some++
			}
		}
	}
	if some < 5000 || all < 1000 || none < 1000 {
		t.Errorf("some win in %d, all in %d, none in %d", some, all, none)
	}
}
