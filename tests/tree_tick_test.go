package tests

import (
	"math/rand"
	"slices"
	"strings"
	"testing"

	"loop.example/g00047/impl"
)

// tickCase is told by hand: answers are f, d and g; no memory stands for noughts.
type tickCase struct {
	tree, memory, acts string
	answer             string
	behind, asked      string
}

func (c tickCase) check(t *testing.T) {
	t.Helper()
	l := treeOf(c.tree)
	full := func(s string) []int {
		if s == "" {
			return make([]int, len(l))
		}
		return listOf(s)
	}
	answer, behind, asked, ok := impl.TreeTick(l, full(c.memory), actsOf(c.acts))
	if !ok || answer != strings.Index("fdg", c.answer) || !slices.Equal(behind, full(c.behind)) || !slices.Equal(asked, listOf(c.asked)) {
		t.Errorf("TreeTick of %q, %q, %q: %d %v %v %v, want %s, %q, %q", c.tree, c.memory, c.acts, answer, behind, asked, ok, c.answer, c.behind, c.asked)
	}
	checkTick(t, l, full(c.memory), actsOf(c.acts))
}

func TestTreeTickOfActsAndNots(t *testing.T) {
	for _, c := range []tickCase{
		{tree: "a0", acts: "f", answer: "f", asked: "0"},
		{tree: "a0", acts: "d", answer: "d", asked: "0"},
		{tree: "a0", acts: "g", answer: "g", asked: "0"},
		{tree: "a9", acts: "dddddddddf", answer: "f", asked: "9"},
		{tree: "a9", acts: "fffffffffg", answer: "g", asked: "9"},
		{tree: "a4", acts: "ddddgddddd", answer: "g", asked: "4"},
		{tree: "n1 a0", acts: "f", answer: "d", asked: "0"},
		{tree: "n1 a0", acts: "d", answer: "f", asked: "0"},
		{tree: "n1 a0", acts: "g", answer: "g", asked: "0"},
		{tree: "n1 n1 a0", acts: "f", answer: "f", asked: "0"},
		{tree: "n1 n1 a0", acts: "d", answer: "d", asked: "0"},
		{tree: "n1 n1 a0", acts: "g", answer: "g", asked: "0"},
		{tree: "n1 n1 n1 a0", acts: "d", answer: "f", asked: "0"},
		{tree: "n1 s2 a0 a1", acts: "dd", answer: "f", asked: "0 1"},
		{tree: "n1 s2 a0 a1", acts: "df", answer: "d", asked: "0 1"},
		{tree: "n1 o2 a0 a1", acts: "ff", answer: "d", asked: "0 1"},
	} {
		c.check(t)
	}
}

// Each answer of each of two children, for each kind that may have two.
func TestTreeTickOfTwoChildren(t *testing.T) {
	for _, c := range []tickCase{
		{tree: "s2 a0 a1", acts: "ff", answer: "f", asked: "0"},
		{tree: "s2 a0 a1", acts: "fd", answer: "f", asked: "0"},
		{tree: "s2 a0 a1", acts: "fg", answer: "f", asked: "0"},
		{tree: "s2 a0 a1", acts: "df", answer: "f", asked: "0 1"},
		{tree: "s2 a0 a1", acts: "dd", answer: "d", asked: "0 1"},
		{tree: "s2 a0 a1", acts: "dg", answer: "g", asked: "0 1"},
		{tree: "s2 a0 a1", acts: "gf", answer: "g", asked: "0"},
		{tree: "s2 a0 a1", acts: "gd", answer: "g", asked: "0"},
		{tree: "s2 a0 a1", acts: "gg", answer: "g", asked: "0"},
		{tree: "o2 a0 a1", acts: "ff", answer: "f", asked: "0 1"},
		{tree: "o2 a0 a1", acts: "fd", answer: "d", asked: "0 1"},
		{tree: "o2 a0 a1", acts: "fg", answer: "g", asked: "0 1"},
		{tree: "o2 a0 a1", acts: "df", answer: "d", asked: "0"},
		{tree: "o2 a0 a1", acts: "dd", answer: "d", asked: "0"},
		{tree: "o2 a0 a1", acts: "dg", answer: "d", asked: "0"},
		{tree: "o2 a0 a1", acts: "gf", answer: "g", asked: "0"},
		{tree: "o2 a0 a1", acts: "gd", answer: "g", asked: "0"},
		{tree: "o2 a0 a1", acts: "gg", answer: "g", asked: "0"},
		{tree: "k2 a0 a1", acts: "ff", answer: "f", asked: "0"},
		{tree: "k2 a0 a1", acts: "fd", answer: "f", asked: "0"},
		{tree: "k2 a0 a1", acts: "fg", answer: "f", asked: "0"},
		{tree: "k2 a0 a1", acts: "df", answer: "f", asked: "0 1"},
		{tree: "k2 a0 a1", acts: "dd", answer: "d", asked: "0 1"},
		{tree: "k2 a0 a1", acts: "dg", answer: "g", asked: "0 1", behind: "1 0 0"},
		{tree: "k2 a0 a1", acts: "gf", answer: "g", asked: "0"},
		{tree: "k2 a0 a1", acts: "gd", answer: "g", asked: "0"},
		{tree: "k2 a0 a1", acts: "gg", answer: "g", asked: "0"},
		// From its memory on: the first one is not asked, and the memory is 0 behind ActFail and ActDone.
		{tree: "k2 a0 a1", memory: "1 0 0", acts: "ff", answer: "f", asked: "1"},
		{tree: "k2 a0 a1", memory: "1 0 0", acts: "fd", answer: "d", asked: "1"},
		{tree: "k2 a0 a1", memory: "1 0 0", acts: "fg", answer: "g", asked: "1", behind: "1 0 0"},
		{tree: "k2 a0 a1", memory: "1 0 0", acts: "df", answer: "f", asked: "1"},
		{tree: "k2 a0 a1", memory: "1 0 0", acts: "dd", answer: "d", asked: "1"},
		{tree: "k2 a0 a1", memory: "1 0 0", acts: "gg", answer: "g", asked: "1", behind: "1 0 0"},
		// Of one child, each answer.
		{tree: "s1 a0", acts: "f", answer: "f", asked: "0"},
		{tree: "s1 a0", acts: "d", answer: "d", asked: "0"},
		{tree: "s1 a0", acts: "g", answer: "g", asked: "0"},
		{tree: "o1 a0", acts: "f", answer: "f", asked: "0"},
		{tree: "o1 a0", acts: "d", answer: "d", asked: "0"},
		{tree: "o1 a0", acts: "g", answer: "g", asked: "0"},
		{tree: "k1 a0", acts: "f", answer: "f", asked: "0"},
		{tree: "k1 a0", acts: "d", answer: "d", asked: "0"},
		{tree: "k1 a0", acts: "g", answer: "g", asked: "0"},
	} {
		c.check(t)
	}
}

// The order in which acts are asked for, and which are not.
func TestTreeTickOrder(t *testing.T) {
	for _, c := range []tickCase{
		{tree: "s3 a7 a2 a5", acts: "dddddddddd", answer: "d", asked: "7 2 5"},
		{tree: "s3 a7 a2 a5", acts: "ddgddddddd", answer: "g", asked: "7 2"},
		{tree: "o3 a7 a2 a5", acts: "ffffffffff", answer: "f", asked: "7 2 5"},
		{tree: "o3 a7 a2 a5", acts: "ffdfffffff", answer: "d", asked: "7 2"},
		// An act that stands twice is asked for twice, with the same answer.
		{tree: "s3 a1 a1 a1", acts: "fd", answer: "d", asked: "1 1 1"},
		{tree: "o2 a1 a1", acts: "ff", answer: "f", asked: "1 1"},
		{tree: "s2 a1 n1 a1", acts: "fd", answer: "f", asked: "1 1"},
		{tree: "o2 a1 n1 a1", acts: "ff", answer: "d", asked: "1 1"},
		{tree: "s3 a1 a2 a1", acts: "fdd", answer: "d", asked: "1 2 1"},
		// The first child with all that is beneath it, then the next one.
		{tree: "s2 s2 a0 a1 s2 a2 a3", acts: "dddd", answer: "d", asked: "0 1 2 3"},
		{tree: "s2 s2 a0 a1 s2 a2 a3", acts: "dfdd", answer: "f", asked: "0 1"},
		{tree: "o2 s2 a0 a1 s2 a2 a3", acts: "dfdd", answer: "d", asked: "0 1 2 3"},
		{tree: "o2 s2 a0 a1 s2 a2 a3", acts: "fddf", answer: "f", asked: "0 2 3"},
		{tree: "o2 s2 a0 a1 s2 a2 a3", acts: "dgdd", answer: "g", asked: "0 1"},
		{tree: "s2 o2 a0 a1 o2 a2 a3", acts: "fdfd", answer: "d", asked: "0 1 2 3"},
		{tree: "s2 o2 a0 a1 o2 a2 a3", acts: "dffd", answer: "d", asked: "0 2 3"},
		{tree: "s2 o2 a0 a1 o2 a2 a3", acts: "ffdd", answer: "f", asked: "0 1"},
		{tree: "s3 n1 a0 o2 n1 a1 a2 a3", acts: "fdgd", answer: "g", asked: "0 1 2"},
		{tree: "s3 n1 a0 o2 n1 a1 a2 a3", acts: "ffgd", answer: "d", asked: "0 1 3"},
		{tree: "n1 o3 a0 n1 s2 a1 a2 a3", acts: "fddf", answer: "d", asked: "0 1 2 3"},
		{tree: "n1 o3 a0 n1 s2 a1 a2 a3", acts: "fdff", answer: "f", asked: "0 1 2"},
	} {
		c.check(t)
	}
}

// What is kept, and where memory stays.
func TestTreeTickMemory(t *testing.T) {
	for _, c := range []tickCase{
		{tree: "k3 a0 a1 a2", acts: "dgd", answer: "g", behind: "1 0 0 0", asked: "0 1"},
		{tree: "k3 a0 a1 a2", acts: "ddg", answer: "g", behind: "2 0 0 0", asked: "0 1 2"},
		{tree: "k3 a0 a1 a2", memory: "1 0 0 0", acts: "ffd", answer: "f", asked: "1"},
		{tree: "k3 a0 a1 a2", memory: "1 0 0 0", acts: "fdg", answer: "g", behind: "2 0 0 0", asked: "1 2"},
		{tree: "k3 a0 a1 a2", memory: "1 0 0 0", acts: "gdd", answer: "d", asked: "1 2"},
		{tree: "k3 a0 a1 a2", memory: "2 0 0 0", acts: "ggd", answer: "d", asked: "2"},
		{tree: "k3 a0 a1 a2", memory: "2 0 0 0", acts: "ddg", answer: "g", behind: "2 0 0 0", asked: "2"},
		{tree: "k3 a0 a1 a2", memory: "2 0 0 0", acts: "ddf", answer: "f", asked: "2"},
		// The number is the child's, not the node's, and not how many acts there were.
		{tree: "k2 s2 a0 a1 a2", acts: "ddg", answer: "g", behind: "1 0 0 0 0", asked: "0 1 2"},
		{tree: "k2 s2 a0 a1 a2", memory: "1 0 0 0 0", acts: "ffg", answer: "g", behind: "1 0 0 0 0", asked: "2"},
		{tree: "k3 n1 n1 a0 s3 a1 a2 a3 a4", memory: "2 0 0 0 0 0 0 0 0", acts: "ffffd", answer: "d", asked: "4"},
		{tree: "k3 n1 n1 a0 s3 a1 a2 a3 a4", memory: "1 0 0 0 0 0 0 0 0", acts: "fdddg", answer: "g", behind: "2 0 0 0 0 0 0 0 0", asked: "1 2 3 4"},
		// Beneath what was not asked memory stays: behind the child that decides, ahead of the one begun with.
		{tree: "s2 a0 k2 a1 a2", memory: "0 0 1 0 0", acts: "fdd", answer: "f", behind: "0 0 1 0 0", asked: "0"},
		{tree: "s2 a0 k2 a1 a2", memory: "0 0 1 0 0", acts: "gdd", answer: "g", behind: "0 0 1 0 0", asked: "0"},
		{tree: "s2 a0 k2 a1 a2", memory: "0 0 1 0 0", acts: "dfd", answer: "d", asked: "0 2"},
		{tree: "o2 a0 k2 a1 a2", memory: "0 0 1 0 0", acts: "ddd", answer: "d", behind: "0 0 1 0 0", asked: "0"},
		{tree: "o2 a0 k2 a1 a2", memory: "0 0 1 0 0", acts: "ffg", answer: "g", behind: "0 0 1 0 0", asked: "0 2"},
		{tree: "o2 a0 k2 a1 a2", memory: "0 0 1 0 0", acts: "fff", answer: "f", asked: "0 2"},
		{tree: "s2 k2 a0 a1 k2 a2 a3", memory: "0 1 0 0 1 0 0", acts: "dfdd", answer: "f", behind: "0 0 0 0 1 0 0", asked: "1"},
		{tree: "s2 k2 a0 a1 k2 a2 a3", memory: "0 1 0 0 1 0 0", acts: "fddg", answer: "g", behind: "0 0 0 0 1 0 0", asked: "1 3"},
		{tree: "n1 k2 a0 a1", memory: "0 1 0 0", acts: "fd", answer: "f", asked: "1"},
		{tree: "n1 k2 a0 a1", acts: "dg", answer: "g", behind: "0 1 0 0", asked: "0 1"},
		// Within another one: each keeps its own.
		{tree: "k2 k2 a0 a1 a2", acts: "dgd", answer: "g", behind: "0 1 0 0 0", asked: "0 1"},
		{tree: "k2 k2 a0 a1 a2", memory: "0 1 0 0 0", acts: "fdg", answer: "g", behind: "1 0 0 0 0", asked: "1 2"},
		{tree: "k2 k2 a0 a1 a2", memory: "1 1 0 0 0", acts: "ffd", answer: "d", behind: "0 1 0 0 0", asked: "2"},
		{tree: "k2 k2 a0 a1 a2", memory: "1 1 0 0 0", acts: "fff", answer: "f", behind: "0 1 0 0 0", asked: "2"},
		{tree: "k2 k2 a0 a1 a2", memory: "1 1 0 0 0", acts: "ffg", answer: "g", behind: "1 1 0 0 0", asked: "2"},
		{tree: "k2 a0 k2 a1 a2", acts: "ddg", answer: "g", behind: "1 0 1 0 0", asked: "0 1 2"},
		{tree: "k2 a0 k2 a1 a2", memory: "1 0 1 0 0", acts: "fff", answer: "f", asked: "2"},
		{tree: "k2 a0 k2 a1 a2", memory: "1 0 1 0 0", acts: "ffd", answer: "d", asked: "2"},
		{tree: "k2 a0 k2 a1 a2", memory: "0 0 1 0 0", acts: "gfd", answer: "g", behind: "0 0 1 0 0", asked: "0"},
		{tree: "k2 a0 k2 a1 a2", memory: "0 0 1 0 0", acts: "ffd", answer: "f", behind: "0 0 1 0 0", asked: "0"},
		{tree: "k2 k2 a0 a1 k2 a2 a3", memory: "1 1 0 0 1 0 0", acts: "fffg", answer: "g", behind: "1 1 0 0 1 0 0", asked: "3"},
		{tree: "k2 k2 a0 a1 k2 a2 a3", memory: "0 1 0 0 1 0 0", acts: "fdfg", answer: "g", behind: "1 0 0 0 1 0 0", asked: "1 3"},
		{tree: "k1 k1 k2 a0 a1", acts: "dg", answer: "g", behind: "0 0 1 0 0", asked: "0 1"},
		// An outer one is going where the inner one is turned round, and the other way.
		{tree: "k2 a0 n1 k2 a1 a2", memory: "1 0 0 1 0 0", acts: "ffd", answer: "f", asked: "2"},
		{tree: "k2 a0 n1 k2 a1 a2", memory: "1 0 0 1 0 0", acts: "fff", answer: "d", asked: "2"},
	} {
		c.check(t)
	}
}

// Each kind of up to six acts, each answer of each, each memory.
func TestTreeTickOfEachAnswer(t *testing.T) {
	for kids := 1; kids <= 6; kids++ {
		for _, kind := range []int{impl.NodeSeq, impl.NodeAny, impl.NodeNot, impl.NodeKeep} {
			l := append([]impl.Node{{Kind: kind, Kids: kids}}, withActs(slices.Repeat(treeOf("a0"), kids), func(i int) int { return i })...)
			if kind == impl.NodeNot && kids > 1 {
				continue
			}
			eachMemory(l, func(memory []int) {
				eachActs(kids, func(acts []int) { checkTick(t, l, memory, acts) })
			})
		}
	}
}

// All trees of up to six nodes, their acts numbered forwards, backwards and by two, each memory, each answer.
func TestTreeTickOfAllTrees(t *testing.T) {
	seen := []int{}
	for n := 1; n <= 6; n++ {
		all := treesOf(n)
		seen = append(seen, len(all))
		for _, one := range all {
			many := countActs(one)
			for i, number := range []func(int) int{func(i int) int { return i }, func(i int) int { return many - 1 - i }, func(i int) int { return i / 2 }} {
				l := withActs(one, number)
				if i > 0 && n == 6 {
					break
				}
				eachMemory(l, func(memory []int) {
					eachActs(many, func(acts []int) { checkTick(t, l, memory, acts) })
				})
			}
		}
	}
	if !slices.Equal(seen, []int{1, 4, 19, 103, 613, 3892}) {
		t.Errorf("trees: %v", seen)
	}
}

// The greatest trees: chains of each kind, and one above all others.
func TestTreeTickOfGreatTrees(t *testing.T) {
	for n := 1; n <= mostNodes; n++ {
		for answer := range 3 {
			acts := slices.Repeat([]int{answer}, manyActs)
			for _, kind := range []string{"s1", "o1", "k1", "n1"} {
				l := append(slices.Repeat(treeOf(kind), n-1), treeOf("a4")...)
				got, behind, asked, ok := impl.TreeTick(l, make([]int, n), acts)
				want := answer
				if kind == "n1" && n%2 == 0 && answer < 2 {
					want = 1 - answer
				}
				if !ok || got != want || !slices.Equal(behind, make([]int, n)) || !slices.Equal(asked, []int{4}) {
					t.Errorf("TreeTick of a chain of %d %s, %d: %d %v %v %v", n, kind, answer, got, behind, asked, ok)
				}
			}
		}
	}
	// All acts of one NodeKeep, from each memory on, the last of which is going.
	l := append(treeOf("k23"), withActs(slices.Repeat(treeOf("a0"), 23), func(i int) int { return i % 9 })...)
	l[23].Act = 9
	for from := range 23 {
		memory := make([]int, mostNodes)
		memory[0] = from
		got, behind, asked, ok := impl.TreeTick(l, memory, actsOf("dddddddddg"))
		if !ok || got != impl.ActGoing || behind[0] != 22 || len(asked) != 23-from || asked[len(asked)-1] != 9 {
			t.Errorf("TreeTick from %d on: %d %v %v %v", from, got, behind, asked, ok)
		}
		checkTick(t, l, memory, actsOf("ddddddddgg"))
		checkTick(t, l, memory, actsOf("dddddddddd"))
		checkTick(t, l, memory, actsOf("dddffddddd"))
	}
}

func TestTreeTickOfDrawnTrees(t *testing.T) {
	r := rand.New(rand.NewSource(346))
	seen, stayed := map[int]int{}, 0
	for range 20000 {
		l := drawnTree(r, drawnBetween(r, 1, mostNodes))
		memory := drawnMemory(r, l)
		behind := checkTick(t, l, memory, drawnActs(r))
		for i := range l {
			if memory[i] > 0 {
				seen[behind[i]-memory[i]]++
			}
			if memory[i] > 0 && behind[i] == memory[i] {
				stayed++
			}
		}
	}
	if stayed < 1000 || seen[1] < 100 || seen[-1] < 1000 {
		t.Errorf("stayed: %d, changed: %v", stayed, seen)
	}
}
