package tests

import (
	"math"
	"math/rand"
	"slices"
	"strings"
	"sync"
	"testing"

	"loop.example/g00047/impl"
)

func checkNoTick(t *testing.T, l []impl.Node, memory []int, acts []int) {
	t.Helper()
	if answer, behind, asked, ok := impl.TreeTick(l, memory, acts); answer != 0 || len(behind) != 0 || len(asked) != 0 || ok {
		t.Errorf("TreeTick of %v, %v, %v: %d %v %v %v", l, memory, acts, answer, behind, asked, ok)
	}
}

func checkNoRounds(t *testing.T, l []impl.Node, rounds [][]int) {
	t.Helper()
	if got, ok := impl.RunTree(l, rounds); ok || len(got) != 0 {
		t.Errorf("RunTree of %v, %v: %v %v", l, rounds, got, ok)
	}
}

// checkNoTree: a tree that is not good has no answer anywhere, not even for no rounds.
func checkNoTree(t *testing.T, l []impl.Node) {
	t.Helper()
	if impl.GoodTree(l) {
		t.Errorf("GoodTree of %v", l)
	}
	for _, acts := range [][]int{nil, {}, actsOf(""), actsOf("dddddddddd"), actsOf("gggggggggg"), make([]int, 9), make([]int, 11)} {
		for _, memory := range [][]int{nil, {}, {0}, make([]int, len(l)), make([]int, len(l)+1)} {
			checkNoTick(t, l, memory, acts)
		}
		for _, rounds := range [][][]int{nil, {}, {acts}, {acts, acts}, slices.Repeat([][]int{acts}, 30), slices.Repeat([][]int{acts}, 31)} {
			checkNoRounds(t, l, rounds)
		}
	}
}

// plainTrees are good ones, the least and the greatest among them.
func plainTrees() [][]impl.Node {
	return [][]impl.Node{
		treeOf("a0"), treeOf("n1 a9"), treeOf("s1 a0"), treeOf("k2 a1 a2"), treeOf("s3 a0 o2 a1 s2 a2 a3 a4"), treeOf("k2 k2 a0 a1 o2 n1 a3 k3 a1 a1 a5"),
		treeOf(strings.Repeat("n1 ", 23) + "a3"), treeOf("k23" + strings.Repeat(" a4", 23)), treeOf(strings.Repeat("k2 a1 ", 11) + "n1 a2"),
	}
}

// Trees that are not good in each way that the chapter names.
func TestTreesThatAreNotGood(t *testing.T) {
	for _, s := range []string{
		"", strings.Repeat("n1 ", 24) + "a3", "s24" + strings.Repeat(" a0", 24), strings.Repeat("k1 ", 1000) + "a0",
		"a0 a0", "n1 a0 a0", "s2 a0 a1 a2", "s2 a0", "n1", "k3 a0 a1", "s0", "s-1", "k0", "o0 a0", "n0", "n2 a0 a1", "a10", "a-1", "s2 s0 a0 a0",
	} {
		checkNoTree(t, treeOf(s))
	}
	for _, l := range [][]impl.Node{
		nil, {{}}, make([]impl.Node, mostNodes), {{Kind: 5, Kids: 1}, {Kind: 5}}, {{Kind: 5, Kids: -1}}, {{Kind: 1, Kids: 1, Act: 1}, {Kind: 5}}, {{Kind: 2, Kids: 1, Act: 1}, {Kind: 5}},
		{{Kind: 3, Kids: 1, Act: 1}, {Kind: 5}}, {{Kind: 4, Kids: 1, Act: 1}, {Kind: 5}}, {{Kind: 0, Kids: 1}, {Kind: 5}}, {{Kind: 6, Kids: 1}, {Kind: 5}}, {{Kind: 6}}, {{Kind: 0}},
	} {
		checkNoTree(t, l)
	}
}

// Numbers far off in each place of a tree.
func TestStrayNumbersInTrees(t *testing.T) {
	for _, plain := range plainTrees() {
		checkTree(t, plain)
		for i := range nodeNumbers(plain) {
			for _, n := range strayNumbers {
				l := slices.Clone(plain)
				*nodeNumbers(l)[i] = n
				checkNoTree(t, l)
			}
		}
	}
}

// Memory that is too short, too long, not 0 of what keeps none, below 0 or as great as Kids.
func TestWrongMemory(t *testing.T) {
	acts := actsOf("dddddddddd")
	for _, l := range plainTrees() {
		n := len(l)
		checkTick(t, l, make([]int, n), acts)
		for _, long := range []int{0, 1, n - 1, n + 1, n + 2, 2 * n, 10, 24, 25, 1000} {
			if long != n {
				checkNoTick(t, l, make([]int, long), acts)
			}
		}
		checkNoTick(t, l, nil, acts)
		for i, node := range l {
			for _, m := range append([]int{-1, 1, 2, node.Kids, node.Kids + 1, node.Kids - 1}, strayNumbers...) {
				memory := make([]int, n)
				memory[i] = m
				checkTick(t, l, memory, acts)
				if m == 0 || node.Kind == impl.NodeKeep && m > 0 && m < node.Kids {
					continue
				}
				checkNoTick(t, l, memory, acts)
			}
		}
	}
}

// Acts of too few and too many numbers, and numbers that are no answer, also of acts that nobody asks for.
func TestWrongActs(t *testing.T) {
	for _, l := range plainTrees() {
		memory := make([]int, len(l))
		for _, long := range []int{0, 1, 9, 11, 12, 20, 24, 1000} {
			checkNoTick(t, l, memory, make([]int, long))
			checkNoRounds(t, l, [][]int{make([]int, long)})
			checkNoRounds(t, l, [][]int{actsOf("d"), make([]int, long)})
		}
		checkNoTick(t, l, memory, nil)
		checkNoRounds(t, l, [][]int{nil})
		for i := range manyActs {
			for _, none := range append([]int{-1, 3, 4, 5}, strayNumbers...) {
				acts := actsOf("")
				acts[i] = none
				checkNoTick(t, l, memory, acts)
				checkNoRounds(t, l, [][]int{acts})
				checkNoRounds(t, l, [][]int{actsOf("dddddddddd"), acts, actsOf("")})
			}
			for _, some := range []int{0, 1, 2} {
				acts := actsOf("")
				acts[i] = some
				if _, _, _, ok := impl.TreeTick(l, memory, acts); !ok {
					t.Errorf("TreeTick of %v, %v is false", l, acts)
				}
			}
		}
	}
}

// asking is what all functions of trees are asked of at once.
type asking struct {
	l      []impl.Node
	memory []int
	acts   []int
	rounds [][]int
}

func (w asking) check(t *testing.T) {
	t.Helper()
	checkTree(t, w.l)
	checkTick(t, w.l, w.memory, w.acts)
	checkRounds(t, w.l, w.rounds)
}

func (w asking) clone() asking {
	return asking{slices.Clone(w.l), slices.Clone(w.memory), slices.Clone(w.acts), clonePaths(w.rounds)}
}

func (w asking) same(o asking) bool {
	return slices.Equal(w.l, o.l) && slices.Equal(w.memory, o.memory) && slices.Equal(w.acts, o.acts) && samePaths(w.rounds, o.rounds)
}

func drawnAsking(r *rand.Rand) asking {
	l := drawnTree(r, drawnBetween(r, 1, mostNodes))
	w := asking{l: l, memory: drawnMemory(r, l), acts: drawnActs(r)}
	for range r.Intn(6) {
		w.rounds = append(w.rounds, drawnActs(r))
	}
	return w
}

func sameNode(a impl.Node, b impl.Node) bool { return a == b }

// What lies behind the lists counts for nothing and stays, as the lists do.
func TestWhatLiesBehindTrees(t *testing.T) {
	r := rand.New(rand.NewSource(354))
	for range 200 {
		w := drawnAsking(r)
		switch r.Intn(6) {
		case 0:
			w.l = w.l[:len(w.l)-1]
		case 1:
			w.memory = w.memory[:len(w.memory)-1]
		case 2:
			w.acts = w.acts[:9]
		}
		for _, more := range [][]int{{0, 1}, {-1, 3, math.MaxInt}, {0, 0, 0, 0, 0, 0}, {2, 2, 2, 2, 2, 2, 2, 2, 2, 2, 2}} {
			nodes := []impl.Node{{Kind: 5}, {Kind: more[0], Kids: more[1]}}
			in := asking{behind(w.l, nodes...), behind(w.memory, more...), behind(w.acts, more...), nil}
			rounds := [][]int{}
			for _, acts := range w.rounds {
				rounds = append(rounds, behind(acts, more...))
			}
			in.rounds = behind(rounds, more, nil)
			in.check(t)
			ok := kept(in.l, w.l, sameNode, nodes...) && kept(in.memory, w.memory, sameNumber, more...) && kept(in.acts, w.acts, sameNumber, more...)
			for i, acts := range w.rounds {
				ok = ok && kept(in.rounds[i], acts, sameNumber, more...)
			}
			if !ok || !kept(in.rounds, w.rounds, slices.Equal, more, nil) {
				t.Fatalf("a list was changed: %v, before %v", in, w)
			}
		}
	}
	// The node, the memory, the act and the round that would make it otherwise lie behind.
	checkNoTree(t, behind([]impl.Node{}, treeOf("a0")...))
	checkNoTree(t, behind(treeOf("s2 a0"), treeOf("a0")...))
	checkNoTick(t, treeOf("n1 a0"), behind([]int{0}, 0), actsOf(""))
	checkNoTick(t, treeOf("n1 a0"), []int{0, 0}, behind(make([]int, 9), 0))
	checkNoRounds(t, treeOf("a0"), [][]int{behind(make([]int, 9), 0)})
	if got, ok := impl.RunTree(treeOf("a0"), behind([][]int{actsOf("d")}, actsOf("g"))); !ok || !slices.Equal(got, []int{1}) {
		t.Errorf("RunTree reads behind a list: %v %v", got, ok)
	}
}

// Whoever writes into an answer changes nothing else: no other list of it, no later answer, no argument.
func TestTreeAnswersAreNewMemory(t *testing.T) {
	r := rand.New(rand.NewSource(355))
	same := 0
	for range 500 {
		w := drawnAsking(r)
		before := w.clone()
		for range 2 {
			_, behind, asked, ok := impl.TreeTick(w.l, w.memory, w.acts)
			if slices.Equal(behind, w.memory) {
				same++
			}
			spoilPaths(t, [][]int{behind, asked})
			answers, good := impl.RunTree(w.l, w.rounds)
			spoil(answers, -7)
			if !ok || !good || !w.same(before) {
				t.Fatalf("no answer, or an argument was changed: %v, before %v", w, before)
			}
			w.check(t)
		}
	}
	// The memory is new even where it is what was handed in.
	if same < 100 {
		t.Errorf("only %d of the same memory", same)
	}
}

// One list as the memory and as the acts, and as each round: told like any others.
func TestTreeArgumentsThatShareMemory(t *testing.T) {
	l, list := treeOf("k2 o2 a0 a1 s2 a2 n1 n1 k1 a3"), make([]int, 10)
	for at, want := range []int{0, 0, -1} {
		list[0] = at
		answer, behind, asked, ok := impl.TreeTick(l, list, list)
		if ok != (want == 0) || ok && (answer != want || len(behind) != 10 || len(asked) == 0) {
			t.Errorf("TreeTick of %v: %d %v %v %v", list, answer, behind, asked, ok)
		}
		checkTick(t, l, list, list)
		checkRounds(t, l, [][]int{list, list, list})
		if !slices.Equal(list, append([]int{at}, make([]int, 9)...)) {
			t.Fatalf("the list was changed: %v", list)
		}
	}
}

// The same call has the same answer every time, many at once too.
func TestTreesAreTheSameEveryTime(t *testing.T) {
	r := rand.New(rand.NewSource(356))
	w := drawnAsking(r)
	for len(w.l) < 20 || len(w.rounds) < 3 {
		w = drawnAsking(r)
	}
	want, behind, asked, _ := exactTick(w.l, w.memory, w.acts)
	answers, _ := impl.RunTree(w.l, w.rounds)
	var all sync.WaitGroup
	for range 8 {
		all.Go(func() {
			for range 50 {
				answer, memory, acts, ok := impl.TreeTick(w.l, w.memory, w.acts)
				if !ok || answer != want || !slices.Equal(memory, behind) || !slices.Equal(acts, asked) {
					t.Error("another tick:", answer, memory, acts, ok)
				}
				if run, ok := impl.RunTree(w.l, w.rounds); !ok || !slices.Equal(run, answers) || !impl.GoodTree(w.l) {
					t.Error("another run:", run, ok)
				}
			}
		})
	}
	all.Wait()
}

// askingOf cuts numbers into nodes and rounds, the last of which may be shorter.
func askingOf(nodes []int, memory []int, acts []int, rounds []int) asking {
	w := asking{memory: memory, acts: acts}
	for some := range slices.Chunk(nodes, 3) {
		w.l = append(w.l, impl.Node{Kind: some[0], Kids: some[len(some)/2], Act: some[len(some)-1]})
	}
	w.rounds = slices.Collect(slices.Chunk(rounds, manyActs))
	return w
}

// grownTree takes kinds and Kids from numbers as long as there are any and the tree has room, and acts from then on.
func grownTree(numbers []int) []impl.Node {
	l, toCome := []impl.Node{}, 1
	for ; toCome > 0; toCome-- {
		n := impl.Node{Kind: 5, Act: len(l) % manyActs}
		if len(l) < len(numbers) && len(l)+toCome < mostNodes {
			n.Kind, n.Act = 1+leftOf(numbers[len(l)], 5), leftOf(numbers[len(l)]/5, manyActs)
		}
		if n.Kind == 3 {
			n.Kids, n.Act = 1, 0
		} else if n.Kind != 5 {
			n.Kids, n.Act = 1+leftOf(n.Act, mostNodes-len(l)-toCome), 0
		}
		l, toCome = append(l, n), toCome+n.Kids
	}
	return l
}

// goodAsking makes all numbers ones that may be met.
func goodAsking(w asking, nodes []int) asking {
	memory := w.memory
	w.l = grownTree(nodes)
	w.memory = make([]int, len(w.l))
	for i, n := range w.l {
		if n.Kind == 4 && i < len(memory) {
			w.memory[i] = leftOf(memory[i], n.Kids)
		}
	}
	w.acts = append(w.acts, make([]int, manyActs)...)[:manyActs]
	w.rounds = slices.DeleteFunc(w.rounds, func(acts []int) bool { return len(acts) < manyActs })
	for _, acts := range append(w.rounds, w.acts) {
		for i := range acts {
			acts[i] = leftOf(acts[i], 3)
		}
	}
	return w
}

// FuzzTrees asks every function of any numbers.
func FuzzTrees(f *testing.F) {
	f.Add("\x04\x02\x00\x05\x00\x01\x05\x00\x02", "\x01\x00\x00", "\x00\x01\x02\x00\x00\x00\x00\x00\x00\x00", "\x01\x01\x02\x00\x00\x00\x00\x00\x00\x00")
	f.Add("\x05\x00\x09", "\x00", "\x00\x01\x02\x00\x00\x00\x00\x00\x00", "")
	f.Add("\x03\x01\x00\x02\x01\x00\x05\x00\x00", "\x00\x00\x00", "\x02\x02\x02\x02\x02\x02\x02\x02\x02\x02", "\x00")
	f.Add("", "", "", "\x03")
	f.Add("\x01\x7f\x00\x01\x7f\x00\x01\x05\x00\x05\x00\x00", "\x7f\x80", "\x7f\x80\x80\x7f\x80\x7f\x7f\x80\x80\x7f", "\x80")
	f.Fuzz(func(t *testing.T, nodes string, memory string, acts string, rounds string) {
		w := askingOf(farNumbers(nodes), farNumbers(memory), farNumbers(acts), farNumbers(rounds))
		before := w.clone()
		w.check(t)
		if !w.same(before) {
			t.Fatalf("an argument was changed: %v, before %v", w, before)
		}
		// The same with a good tree, so that its ticks are met often.
		w = goodAsking(w, farNumbers(nodes))
		if !impl.GoodTree(w.l) {
			t.Fatalf("GoodTree of %v is false", w.l)
		}
		w.check(t)
	})
}
