package tests

import (
	"math/rand"
	"slices"
	"testing"

	"loop.example/g00047/impl"
)

func TestWishMetByHand(t *testing.T) {
	all := "+>0,1,2,3 +goal>0,1,2,3 -pit>0,1,2,3 -both>0,1,2,3"
	for _, c := range []struct {
		board, wish, path string
		met, good         bool
	}{
		// With Reach: whether one was come to ahead of all to avoid.
		{all, "goal|pit", "0", false, true},
		{all, "goal|pit", "1", true, true},
		{all, "goal|pit", "2", false, true},
		{all, "goal|pit", "0 1", true, true},
		{all, "goal|pit", "0 0 0", false, true},
		{all, "goal|pit", "0 2", false, true},
		{all, "goal|pit", "0 2 1", false, true},
		{all, "goal|pit", "0 1 2", true, true},
		{all, "goal|pit", "1 2", true, true},
		{all, "goal|pit", "2 1", false, true},
		{all, "goal|pit", "0 1 0 2 1", true, true},
		{all, "goal|pit", "0 2 0 1 1", false, true},
		{all, "goal|", "2 0 1", true, true},
		{all, "goal|", "2 0 3", false, true},
		// A place whose name is in both is one to avoid.
		{all, "both|both", "3", false, true},
		{all, "goal both|pit both", "3 1", false, true},
		{all, "goal both|pit both", "1 3", true, true},
		{all, "goal both|pit both", "0 0 3", false, true},
		{all, "goal both|pit", "0 3 2", true, true},
		// Without Reach: whether one to avoid was never come to.
		{all, "|pit", "0", true, true},
		{all, "|pit", "1", true, true},
		{all, "|pit", "2", false, true},
		{all, "|pit", "0 1 3 0", true, true},
		{all, "|pit", "0 1 3 2", false, true},
		{all, "|pit", "2 0 0 0", false, true},
		{all, "|pit", "1 2 1", false, true},
		{all, "|", "0 1 2 3", true, true},
		{all, "|goal pit both", "0 0", true, true},
		{all, "|goal pit both", "0 1", false, true},
		// A place without a name is neither.
		{"+>0", "x|y", "0 0", false, true},
		{"+>0", "|y", "0 0", true, true},
		// No place, a place that is none, a step that is none, a step where Next is empty.
		{all, "goal|pit", "", false, false},
		{all, "|", "", false, false},
		{all, "goal|pit", "-1", false, false},
		{all, "goal|pit", "4", false, false},
		{all, "goal|pit", "1 4", false, false},
		{all, "goal|pit", "1 -1", false, false},
		{"+>1 +goal>1", "goal|", "0 1 1", true, true},
		{"+>1 +goal>1", "goal|", "0 0", false, false},
		{"+>1 +goal>1", "goal|", "0 0 1", false, false},
		{"+>1 +goal>1", "goal|", "1 0", false, false},
		{"+>1 +goal>1", "goal|", "0 1 0", false, false},
		{"+>1 +goal>1", "|pit", "0 1 0", false, false},
		{"+>1 +goal>", "goal|", "0 1", true, true},
		{"+>1 +goal>", "goal|", "0 1 1", false, false},
		{"+>1 +goal>", "goal|", "0 1 0", false, false},
		{"+>1 +goal>", "goal|", "1 1", false, false},
		{"+>", "|", "0", true, true},
		{"+>", "|", "0 0", false, false},
		// The words are names here.
		{"+reach>0", "reach|avoid", "0", true, true},
		{"+reach>0", "avoid|reach", "0", false, true},
	} {
		b, w, path := boardOf(c.board), wishOf(c.wish), listOf(c.path)
		if met, ok := impl.WishMet(b, w, path); met != c.met || ok != c.good {
			t.Errorf("WishMet of %s, %s, %s: %v %v", c.board, c.wish, c.path, met, ok)
		}
		checkMet(t, b, w, path)
	}
}

// 60 places and 61, with the one that counts at each.
func TestWishMetLongPaths(t *testing.T) {
	b := boardOf("+>0,1,2 +goal>0,1,2 -pit>0,1,2")
	for many := range 70 {
		path := make([]int, many)
		good := many >= 1 && many <= 60
		if met, ok := impl.WishMet(b, wishOf("goal|pit"), path); met || ok != good {
			t.Errorf("WishMet of %d places: %v %v", many, met, ok)
		}
		if met, ok := impl.WishMet(b, wishOf("|pit"), path); met != good || ok != good {
			t.Errorf("WishMet of %d places: %v %v", many, met, ok)
		}
		for at := range path {
			path[at] = 1
			if met, ok := impl.WishMet(b, wishOf("goal|pit"), path); met != good || ok != good {
				t.Errorf("WishMet of %d places with the goal at %d: %v %v", many, at, met, ok)
			}
			path[at] = 2
			if met, ok := impl.WishMet(b, wishOf("|pit"), path); met || ok != good {
				t.Errorf("WishMet of %d places with the pit at %d: %v %v", many, at, met, ok)
			}
			path[at] = 3
			if met, ok := impl.WishMet(b, wishOf("|pit"), path); met || ok {
				t.Errorf("WishMet of %d places with none at %d: %v %v", many, at, met, ok)
			}
			path[at] = 0
		}
		checkMet(t, b, wishOf("goal|pit"), path)
	}
	checkMet(t, b, wishOf("|"), make([]int, 100000))
}

// All boards of two places, and all paths of up to four.
func TestWishMetSmallBoards(t *testing.T) {
	paths := listsUpTo(4, -1, 0, 1, 2)
	eachBoard(2, []string{"", "goal", "pit", "both"}, func(b impl.Board) {
		if !b.Mine[0] {
			return
		}
		for _, s := range []string{"goal both|pit both", "|pit"} {
			w := wishOf(s)
			for _, path := range paths {
				checkMet(t, b, w, path)
			}
		}
	})
}

// Drawn runs, and one place of them changed; what was met stays so, and what was broken too.
func TestWishMetDrawn(t *testing.T) {
	r := rand.New(rand.NewSource(380))
	mets, none := 0, 0
	for range 10000 {
		b := drawnBoard(r, drawnBetween(r, 1, 14), []string{"goal", "pit", "both"}, drawnBetween(r, 2, 8))
		path := []int{r.Intn(len(b.Names))}
		for next := b.Next[path[0]]; len(next) > 0 && len(path) < 60 && r.Intn(20) > 0; next = b.Next[path[len(path)-1]] {
			path = append(path, next[r.Intn(len(next))])
		}
		for _, s := range []string{"goal both|pit both", "|pit both", "goal|"} {
			w, before := wishOf(s), false
			if checkMet(t, b, w, path) {
				mets++
			}
			for i := range path {
				met, ok := impl.WishMet(b, w, path[:i+1])
				if !ok || i > 0 && len(w.Reach) > 0 && before && !met || i > 0 && len(w.Reach) == 0 && !before && met {
					t.Fatalf("WishMet of %+v, %q, %v: %v %v, one place sooner %v", b, w, path[:i+1], met, ok, before)
				}
				before = met
			}
		}
		other := slices.Clone(path)
		other[r.Intn(len(other))] = r.Intn(len(b.Names))
		checkMet(t, b, wishOf("goal|pit"), other)
		if _, ok := impl.WishMet(b, wishOf("goal|pit"), other); !ok {
			none++
		}
	}
	if mets < 2000 || none < 500 {
		t.Errorf("%d met, %d with no answer", mets, none)
	}
}
