package tests

import (
	"math/rand"
	"slices"
	"testing"

	"loop.example/g00047/impl"
)

func TestRunTreeByHand(t *testing.T) {
	for _, c := range []struct{ tree, rounds, want string }{
		{"a0", "", ""},
		{"a0", "f d g f", "0 1 2 0"},
		{"n1 a0", "f d g", "1 0 2"},
		{"s2 a0 a1", "dg fg df dd gd", "2 0 0 1 2"},
		{"o2 a0 a1", "dg fg df ff gd", "1 2 1 0 2"},
		// What a NodeKeep has behind it is not asked again, until it has failed or is done.
		{"k2 a0 a1", "dg fg fd fd dd", "2 2 1 0 1"},
		{"k2 a0 a1", "dg ff dg fd", "2 0 2 1"},
		{"k2 a0 a1", "gd fd", "2 0"},
		{"k3 a0 a1 a2", "dgf fdg ffd fdd", "2 2 1 0"},
		// A NodeSeq asks anew each time.
		{"s2 a0 a1", "dg fg fd", "2 0 0"},
		// Beneath what is not asked the memory stays from round to round.
		{"s2 a0 k2 a1 a2", "ddg ddg fff gff dfd", "2 2 0 2 1"},
		{"s2 a0 k2 a1 a2", "ddg fff dff dfd", "2 0 0 0"},
		{"o2 a0 k2 a1 a2", "fdg dff ffd", "2 1 1"},
		{"k2 k2 a0 a1 a2", "dgf fdg ffg ffd fff", "2 2 2 1 0"},
		{"k2 a0 o2 k2 a1 a2 a3", "ddgf fffg fffd dfff", "2 2 1 0"},
	} {
		got, ok := impl.RunTree(treeOf(c.tree), roundsOf(c.rounds))
		if !ok || !slices.Equal(got, listOf(c.want)) {
			t.Errorf("RunTree of %q, %q: %v %v, want %s", c.tree, c.rounds, got, ok, c.want)
		}
		checkRounds(t, treeOf(c.tree), roundsOf(c.rounds))
	}
}

// No round, as many as there may be, and one more.
func TestRunTreeCounts(t *testing.T) {
	for _, tree := range []string{"a0", "k2 a0 a1", "n1 s2 a3 k2 a1 a0"} {
		for _, n := range []int{0, 1, 2, 29, 30, 31, 32, 60, 1000} {
			for _, acts := range []string{"", "dddddddddd", "gggggggggg", "dg"} {
				rounds := slices.Repeat([][]int{actsOf(acts)}, n)
				if got := checkRounds(t, treeOf(tree), rounds); got != (n <= 30) {
					t.Errorf("RunTree of %q, %d rounds: %v", tree, n, got)
				}
			}
		}
		if got, ok := impl.RunTree(treeOf(tree), nil); !ok || len(got) != 0 {
			t.Errorf("RunTree of %q, no rounds: %v %v", tree, got, ok)
		}
	}
}

// A round that is none, at each place: no answer at all, however many there were ahead of it.
func TestRunTreeOfNoRounds(t *testing.T) {
	for _, tree := range []string{"a0", "k2 a0 a1"} {
		for _, n := range []int{1, 2, 30} {
			for at := range n {
				for _, none := range [][]int{nil, {}, {0}, make([]int, 9), make([]int, 11), listOf("0 0 0 0 0 0 0 0 0 3"), listOf("-1 0 0 0 0 0 0 0 0 0")} {
					rounds := slices.Repeat([][]int{actsOf("dg")}, n)
					rounds[at] = none
					if got, ok := impl.RunTree(treeOf(tree), rounds); ok || len(got) != 0 {
						t.Errorf("RunTree of %q, %v: %v %v", tree, rounds, got, ok)
					}
					checkRounds(t, treeOf(tree), rounds)
				}
			}
		}
	}
}

// All trees of up to five nodes with a NodeKeep, and drawn rounds.
func TestRunTreeOfAllTrees(t *testing.T) {
	r := rand.New(rand.NewSource(347))
	for n := 1; n <= 5; n++ {
		for _, one := range treesOf(n) {
			l := withActs(one, func(i int) int { return i })
			for range 5 {
				rounds := [][]int{}
				for range 8 {
					rounds = append(rounds, drawnActs(r))
				}
				checkRounds(t, l, rounds)
			}
		}
	}
}

// Drawn trees: what is answered by a beginning of the rounds is a beginning of what is answered by all.
func TestRunTreeOfDrawnTrees(t *testing.T) {
	r := rand.New(rand.NewSource(348))
	seen := map[int]int{}
	for range 2000 {
		l := drawnTree(r, drawnBetween(r, 1, mostNodes))
		rounds := [][]int{}
		for range drawnBetween(r, 0, mostAsking) {
			rounds = append(rounds, drawnActs(r))
		}
		if !checkRounds(t, l, rounds) {
			t.Fatalf("RunTree of %v, %v is false", l, rounds)
		}
		all, _ := impl.RunTree(l, rounds)
		cut := r.Intn(len(rounds) + 1)
		if got, ok := impl.RunTree(l, rounds[:cut]); !ok || !slices.Equal(got, all[:cut]) {
			t.Fatalf("RunTree of %v, %v: %v, of more %v", l, rounds[:cut], got, all)
		}
		for _, answer := range all {
			seen[answer]++
		}
	}
	if seen[0] < 1000 || seen[1] < 1000 || seen[2] < 1000 {
		t.Errorf("only %v", seen)
	}
}

// Trees without a NodeKeep answer each round by itself; one NodeKeep above all that is never going is a NodeSeq.
func TestTreesThatKeepNothing(t *testing.T) {
	r := rand.New(rand.NewSource(349))
	for range 1000 {
		l := drawnTree(r, drawnBetween(r, 2, mostNodes))
		for i := range l {
			if l[i].Kind == impl.NodeKeep {
				l[i].Kind = impl.NodeSeq
			}
		}
		kept := slices.Clone(l)
		for i := range kept {
			if kept[i].Kind == impl.NodeSeq {
				kept[i].Kind = impl.NodeKeep
			}
		}
		rounds := [][]int{}
		for range 6 {
			acts := drawnActs(r)
			for i := range acts {
				acts[i] = min(acts[i], 1)
			}
			rounds = append(rounds, acts)
		}
		all, _ := impl.RunTree(l, rounds)
		if got, _ := impl.RunTree(kept, rounds); !slices.Equal(got, all) {
			t.Fatalf("RunTree of %v, %v: %v, of sequences %v", kept, rounds, got, all)
		}
		for i, acts := range rounds {
			if got, ok := impl.RunTree(l, [][]int{acts}); !ok || got[0] != all[i] {
				t.Fatalf("RunTree of %v, %v: %v %v, among others %d", l, acts, got, ok, all[i])
			}
		}
	}
}
