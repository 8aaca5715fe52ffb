package tests

import (
	"maps"
	"math/rand"
	"slices"
	"strings"
	"testing"

	"loop.example/g00047/impl"
)

const (
	mostNodes  = 24
	manyActs   = 10
	mostAsking = 30
)

// kindLetters tell kinds of nodes by where they stand.
const kindLetters = "?sonka"

// treeOf has spaces between the nodes, each ahead of what is beneath it: s2 is a NodeSeq of two, o2 a NodeAny, n1 a NodeNot, k2 a NodeKeep, and a7 the act 7.
func treeOf(s string) []impl.Node {
	l := []impl.Node{}
	for _, one := range strings.Fields(s) {
		n := impl.Node{Kind: strings.IndexByte(kindLetters, one[0])}
		if n.Kind == 5 {
			n.Act = numberOf(one[1:])
		} else {
			n.Kids = numberOf(one[1:])
		}
		l = append(l, n)
	}
	return l
}

// actsOf tells the answers of the acts by f, d and g, from the first one on; those that are left out fail.
func actsOf(s string) []int {
	acts := make([]int, manyActs)
	for i := range len(s) {
		acts[i] = strings.IndexByte("fdg", s[i])
	}
	return acts
}

// roundsOf has spaces between the rounds.
func roundsOf(s string) [][]int {
	rounds := [][]int{}
	for _, one := range strings.Fields(s) {
		rounds = append(rounds, actsOf(one))
	}
	return rounds
}

// twig is a node, its number, and its children.
type twig struct {
	impl.Node
	at    int
	twigs []twig
}

// twigAt reads a node with all that is beneath it, and tells the number behind; false where the list ends too soon.
func twigAt(l []impl.Node, at int) (twig, int, bool) {
	if at >= len(l) {
		return twig{}, at, false
	}
	w, next := twig{Node: l[at], at: at}, at+1
	for i := 0; i < w.Kids; i++ {
		one, end, ok := twigAt(l, next)
		if !ok {
			return w, end, false
		}
		w.twigs, next = append(w.twigs, one), end
	}
	return w, next, true
}

func isNode(n impl.Node) bool {
	switch n.Kind {
	case 5:
		return n.Kids == 0 && isAmong(n.Act, manyActs)
	case 3:
		return n.Kids == 1 && n.Act == 0
	}
	return isAmong(n.Kind-1, 4) && n.Kids >= 1 && n.Act == 0
}

// isTree says by the test's own word whether l is good: read from the first node on, all of it is one.
func isTree(l []impl.Node) bool {
	if len(l) > mostNodes || slices.ContainsFunc(l, func(n impl.Node) bool { return !isNode(n) }) {
		return false
	}
	_, end, ok := twigAt(l, 0)
	return ok && end == len(l)
}

func isMemory(l []impl.Node, memory []int) bool {
	if len(memory) != len(l) {
		return false
	}
	for i, m := range memory {
		if m != 0 && (l[i].Kind != 4 || !isAmong(m, l[i].Kids)) {
			return false
		}
	}
	return true
}

func areActs(acts []int) bool {
	return len(acts) == manyActs && !slices.ContainsFunc(acts, func(a int) bool { return !isAmong(a, 3) })
}

// reply is what a node answers, the acts that were asked for, and the new memory of those that were asked.
type reply struct {
	answer int
	asked  []int
	memory map[int]int
}

// reply has all children answer, each by itself, and then leaves out those that would not have been asked: none of them hears of the others.
func (w twig) reply(memory []int, acts []int) reply {
	if w.Kind == 5 {
		return reply{acts[w.Act], []int{w.Act}, nil}
	}
	all := []reply{}
	for _, one := range w.twigs {
		all = append(all, one.reply(memory, acts))
	}
	if w.Kind == 3 {
		return reply{[]int{1, 0, 2}[all[0].answer], all[0].asked, all[0].memory}
	}
	passing, from, decides := []int{1: 1, 2: 0, 4: 1}[w.Kind], memory[w.at], len(all)-1
	for i := len(all) - 1; i >= from; i-- {
		if all[i].answer != passing {
			decides = i
		}
	}
	r := reply{all[decides].answer, nil, map[int]int{}}
	for _, one := range all[from : decides+1] {
		r.asked = append(r.asked, one.asked...)
		maps.Copy(r.memory, one.memory)
	}
	if w.Kind == 4 {
		r.memory[w.at] = []int{0, 0, decides}[r.answer]
	}
	return r
}

func exactTick(l []impl.Node, memory []int, acts []int) (int, []int, []int, bool) {
	if !isTree(l) || !isMemory(l, memory) || !areActs(acts) {
		return 0, nil, nil, false
	}
	root, _, _ := twigAt(l, 0)
	r := root.reply(memory, acts)
	behind := slices.Clone(memory)
	for at, m := range r.memory {
		behind[at] = m
	}
	return r.answer, behind, r.asked, true
}

// checkTick asks TreeTick of anything, and tells the memory behind it.
func checkTick(t *testing.T, l []impl.Node, memory []int, acts []int) []int {
	t.Helper()
	got, behind, asked, ok := impl.TreeTick(l, memory, acts)
	want, then, calls, good := exactTick(l, memory, acts)
	if got != want || !slices.Equal(behind, then) || !slices.Equal(asked, calls) || ok != good {
		t.Fatalf("TreeTick of %v, %v, %v: %d %v %v %v, want %d %v %v %v", l, memory, acts, got, behind, asked, ok, want, then, calls, good)
	}
	return behind
}

// checkRounds asks RunTree of anything; where it answers it is to be TreeTick by TreeTick with the memory handed on.
func checkRounds(t *testing.T, l []impl.Node, rounds [][]int) bool {
	t.Helper()
	got, ok := impl.RunTree(l, rounds)
	good := isTree(l) && len(rounds) <= mostAsking && !slices.ContainsFunc(rounds, func(acts []int) bool { return !areActs(acts) })
	if ok != good || !ok && len(got) != 0 || ok && len(got) != len(rounds) {
		t.Fatalf("RunTree of %v, %v: %v %v", l, rounds, got, ok)
	}
	if !ok {
		return false
	}
	memory := make([]int, len(l))
	for i, acts := range rounds {
		answer, _, _, _ := exactTick(l, memory, acts)
		memory = checkTick(t, l, memory, acts)
		if got[i] != answer {
			t.Fatalf("RunTree of %v, %v: %v, want %d at %d", l, rounds, got, answer, i)
		}
	}
	return true
}

func checkTree(t *testing.T, l []impl.Node) {
	t.Helper()
	if got, want := impl.GoodTree(l), isTree(l); got != want {
		t.Fatalf("GoodTree of %v: %v", l, got)
	}
}

// forestsOf are all lists of so many trees with n nodes together; the acts are all 0.
func forestsOf(trees int, n int) [][]impl.Node {
	if trees == 0 && n == 0 {
		return [][]impl.Node{{}}
	}
	all := [][]impl.Node{}
	for first := 1; trees > 0 && first <= n-trees+1; first++ {
		for _, rest := range forestsOf(trees-1, n-first) {
			for _, one := range treesOf(first) {
				all = append(all, slices.Concat(one, rest))
			}
		}
	}
	return all
}

// treesOf are all good trees of n nodes; the acts are all 0.
func treesOf(n int) [][]impl.Node {
	if n == 1 {
		return [][]impl.Node{{{Kind: 5}}}
	}
	all := [][]impl.Node{}
	for kids := 1; kids < n; kids++ {
		for _, beneath := range forestsOf(kids, n-1) {
			for kind := 1; kind <= 4; kind++ {
				if kind != 3 || kids == 1 {
					all = append(all, append([]impl.Node{{Kind: kind, Kids: kids}}, beneath...))
				}
			}
		}
	}
	return all
}

// withActs numbers the acts of a tree from the first one on, as number says.
func withActs(l []impl.Node, number func(i int) int) []impl.Node {
	l, i := slices.Clone(l), 0
	for at := range l {
		if l[at].Kind == 5 {
			l[at].Act = number(i)
			i++
		}
	}
	return l
}

// eachMemory are all memories that a good tree may have.
func eachMemory(l []impl.Node, see func([]int)) {
	many := 1
	for _, n := range l {
		if n.Kind == 4 {
			many *= n.Kids
		}
	}
	for code := range many {
		memory, rest := make([]int, len(l)), code
		for i, n := range l {
			if n.Kind == 4 {
				memory[i] = rest % n.Kids
				rest /= n.Kids
			}
		}
		see(memory)
	}
}

// eachActs are all answers of the first acts; the others fail.
func eachActs(first int, see func([]int)) {
	many := 1
	for range first {
		many *= 3
	}
	for code := range many {
		acts, rest := make([]int, manyActs), code
		for i := range first {
			acts[i] = rest % 3
			rest /= 3
		}
		see(acts)
	}
}

func countActs(l []impl.Node) int {
	many := 0
	for _, n := range l {
		many += n.Kind / 5
	}
	return many
}

// drawnTree is a good one of n nodes.
func drawnTree(r *rand.Rand, n int) []impl.Node {
	if n == 1 {
		return []impl.Node{{Kind: 5, Act: r.Intn(manyActs)}}
	}
	root := impl.Node{Kind: drawnBetween(r, 1, 4), Kids: 1}
	if root.Kind != 3 {
		root.Kids = drawnBetween(r, 1, min(n-1, 5))
	}
	l, left := []impl.Node{root}, n-1
	for kid := root.Kids; kid > 1; kid-- {
		one := drawnBetween(r, 1, left-kid+1)
		l, left = append(l, drawnTree(r, one)...), left-one
	}
	return append(l, drawnTree(r, left)...)
}

func drawnMemory(r *rand.Rand, l []impl.Node) []int {
	memory := make([]int, len(l))
	for i, n := range l {
		if n.Kind == 4 {
			memory[i] = r.Intn(n.Kids)
		}
	}
	return memory
}

// drawnActs answer ActDone rather than not, so that a tree is gone through.
func drawnActs(r *rand.Rand) []int {
	acts := []int{}
	for range manyActs {
		acts = append(acts, []int{0, 1, 1, 2}[r.Intn(4)])
	}
	return acts
}
