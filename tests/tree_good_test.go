package tests

import (
	"math"
	"math/rand"
	"slices"
	"strings"
	"testing"

	"loop.example/g00047/impl"
)

func TestTreeNumbers(t *testing.T) {
	got := []int{impl.MaxNodes, impl.NodeSeq, impl.NodeAny, impl.NodeNot, impl.NodeKeep, impl.NodeAct, impl.ActFail, impl.ActDone, impl.ActGoing}
	if !slices.Equal(got, []int{mostNodes, 1, 2, 3, 4, 5, 0, 1, 2}) {
		t.Error(got)
	}
}

func TestGoodTreeByHand(t *testing.T) {
	for _, c := range []struct {
		tree string
		want bool
	}{
		{"", false},
		// One act, the least and the greatest.
		{"a0", true},
		{"a9", true},
		{"a10", false},
		{"a-1", false},
		// Each kind with children.
		{"s1 a0", true},
		{"o1 a0", true},
		{"n1 a0", true},
		{"k1 a0", true},
		{"s2 a1 a2", true},
		{"o3 a1 a2 a1", true},
		{"k4 a1 a2 a3 a4", true},
		{"s2 o2 a1 a2 n1 a3", true},
		{"s2 n1 a3 k2 a1 a2", true},
		{"n1 n1 n1 a0", true},
		{"k2 k2 k1 a0 a1 a2", true},
		{"s3 a0 o2 a1 s2 a2 a3 a4", true},
		// A second root, behind an act and behind more.
		{"a0 a0", false},
		{"n1 a0 a0", false},
		{"s2 a0 a1 a2", false},
		{"s1 a0 s1 a0", false},
		{"s2 o1 a1 a2 a3", false},
		{"a0 s1 a0", false},
		// A list that ends too soon.
		{"s1", false},
		{"n1", false},
		{"s2 a0", false},
		{"k3 a0 a1", false},
		{"s2 a0 n1", false},
		{"s2 n1 a0", false},
		{"s2 o2 a1 a2", false},
		{"s2 o2 a1 n1 a3", false},
		// Kids of 0 and of -1, with and without what would be beneath.
		{"s0", false},
		{"o0", false},
		{"n0", false},
		{"k0", false},
		{"s0 a0", false},
		{"s-1", false},
		{"s-1 a0", false},
		{"k-1 a0 a1", false},
		{"s2 o0 a1", false},
		{"s2 o0 a1 a2", false},
		{"s2 a1 k0", false},
		// What is too many above is not made up for by too few beneath.
		{"s2 s0 a0 a0", false},
		{"s3 o-1 a0 a0", false},
		{"s3 a0 a0 k-1 a0", false},
		// NodeNot has one child.
		{"n2 a0 a1", false},
		{"s2 n2 a0 a1 a2", false},
		{"s2 n0 a0", false},
		{"n3 a0 a1 a2", false},
	} {
		if got := impl.GoodTree(treeOf(c.tree)); got != c.want {
			t.Errorf("GoodTree of %q: %v", c.tree, got)
		}
		checkTree(t, treeOf(c.tree))
	}
}

// Kinds, Kids and Acts that treeOf can't write.
func TestGoodTreeByNodes(t *testing.T) {
	act := impl.Node{Kind: impl.NodeAct, Act: 3}
	for _, c := range []struct {
		l    []impl.Node
		want bool
	}{
		{[]impl.Node{act}, true},
		{nil, false},
		{[]impl.Node{}, false},
		{[]impl.Node{{}}, false},
		// NodeAct of a child.
		{[]impl.Node{{Kind: impl.NodeAct, Kids: 1}, act}, false},
		{[]impl.Node{{Kind: impl.NodeAct, Kids: 1}}, false},
		{[]impl.Node{{Kind: impl.NodeAct, Kids: -1}}, false},
		{[]impl.Node{{Kind: impl.NodeSeq, Kids: 1}, {Kind: impl.NodeAct, Kids: 1}, act}, false},
		// Act is 0 of other kinds.
		{[]impl.Node{{Kind: impl.NodeSeq, Kids: 1, Act: 1}, act}, false},
		{[]impl.Node{{Kind: impl.NodeAny, Kids: 1, Act: 9}, act}, false},
		{[]impl.Node{{Kind: impl.NodeNot, Kids: 1, Act: -1}, act}, false},
		{[]impl.Node{{Kind: impl.NodeNot, Kids: 1, Act: 1}, act}, false},
		{[]impl.Node{{Kind: impl.NodeKeep, Kids: 1, Act: 3}, act}, false},
		{[]impl.Node{{Kind: impl.NodeKeep, Kids: 1}, act}, true},
		// Kinds of 0 and 6, and beside them.
		{[]impl.Node{{Kind: 0, Kids: 1}, act}, false},
		{[]impl.Node{{Kind: 6, Kids: 1}, act}, false},
		{[]impl.Node{{Kind: 0}}, false},
		{[]impl.Node{{Kind: 6}}, false},
		{[]impl.Node{{Kind: 6, Act: 3}}, false},
		{[]impl.Node{{Kind: -1, Kids: 1}, act}, false},
		{[]impl.Node{{Kind: impl.NodeSeq, Kids: 2}, act, {Kind: 6}}, false},
		{[]impl.Node{{Kind: impl.NodeSeq, Kids: 2}, {Kind: 0}, act}, false},
	} {
		if got := impl.GoodTree(c.l); got != c.want {
			t.Errorf("GoodTree of %v: %v", c.l, got)
		}
		checkTree(t, c.l)
	}
}

// Kids whose sum is right only where it wraps, as int or in fewer bits.
func TestGoodTreeOfKidsThatWrap(t *testing.T) {
	act := impl.Node{Kind: impl.NodeAct}
	for _, kind := range []int{impl.NodeSeq, impl.NodeAny, impl.NodeKeep} {
		some := func(kids int) impl.Node { return impl.Node{Kind: kind, Kids: kids} }
		for _, l := range [][]impl.Node{
			{some(math.MaxInt), some(math.MaxInt), some(5), act},
			{some(math.MaxInt), some(math.MaxInt), some(5), some(1), some(1), act},
			{some(1 << 62), some(1 << 62), some(1 << 62), some(1 << 62), some(5), act},
			{some(math.MaxInt), some(math.MinInt), some(4), act},
			{some(math.MinInt), some(math.MinInt), some(3), act},
			{some(1<<32 + 1), act},
			{some(1 << 32), act},
			{some(1<<16 + 1), act},
			{some(1<<8 + 1), act},
			{some(1<<31 + 1), some(1<<31 + 1), act},
			{some(1<<7 + 1), some(1<<7 + 1), act},
			{some(25), some(-23), act},
			{some(24), act},
			{some(24), some(-22), act},
		} {
			if impl.GoodTree(l) {
				t.Errorf("GoodTree of %v", l)
			}
			checkTree(t, l)
		}
	}
}

// As many nodes as there may be, and one more: a chain, one above all others, and two above half of them each.
func TestGoodTreeSizes(t *testing.T) {
	for n := 1; n <= 30; n++ {
		want := n <= 24
		wide := append([]impl.Node{{Kind: impl.NodeSeq, Kids: n - 1}}, slices.Repeat(treeOf("a9"), n-1)...)
		deep := append(slices.Repeat(treeOf("n1"), n-1), treeOf("a9")...)
		keeps := append(slices.Repeat(treeOf("k1"), n-1), treeOf("a0")...)
		comb := append(slices.Repeat(treeOf("o2 a1"), (n-1)/2), treeOf("a2")...)
		if n > 1 && impl.GoodTree(wide) != want || impl.GoodTree(deep) != want || impl.GoodTree(keeps) != want || n%2 == 1 && impl.GoodTree(comb) != want {
			t.Errorf("GoodTree of %d nodes is not %v", n, want)
		}
		for _, l := range [][]impl.Node{wide, deep, keeps, comb} {
			checkTree(t, l)
			checkTree(t, l[:len(l)-1])
			checkTree(t, l[1:])
			checkTree(t, append(slices.Clone(l), treeOf("a0")...))
		}
	}
	for _, n := range []int{25, 100, 10000} {
		if impl.GoodTree(append(slices.Repeat(treeOf("n1"), n-1), treeOf("a9")...)) {
			t.Errorf("GoodTree of %d nodes", n)
		}
	}
	if got := len(treeOf("s23" + strings.Repeat(" a0", 23))); got != mostNodes || !impl.GoodTree(treeOf("s23"+strings.Repeat(" a0", 23))) {
		t.Errorf("GoodTree of %d nodes", got)
	}
}

// All lists of up to three nodes, of kinds 0 to 6, Kids from -1 to 3, and two acts.
func TestGoodTreeOfAllSmallLists(t *testing.T) {
	one := []impl.Node{}
	for kind := range 7 {
		for kids := -1; kids <= 3; kids++ {
			one = append(one, impl.Node{Kind: kind, Kids: kids}, impl.Node{Kind: kind, Kids: kids, Act: 1})
		}
	}
	good := []int{}
	lists := [][]impl.Node{{}}
	for n := 1; n <= 3; n++ {
		longer, many := [][]impl.Node{}, 0
		for _, l := range lists {
			for _, node := range one {
				longer = append(longer, append(slices.Clone(l), node))
			}
		}
		for _, l := range longer {
			checkTree(t, l)
			if impl.GoodTree(l) {
				many++
			}
		}
		lists, good = longer, append(good, many)
	}
	// Two acts; four kinds above each; four above these, and three kinds above two acts.
	if !slices.Equal(good, []int{2, 8, 32 + 12}) {
		t.Errorf("good ones: %v", good)
	}
}

// All good trees of up to six nodes, and each of them without one of its nodes, with one twice, and with two exchanged.
func TestGoodTreeOfAllTrees(t *testing.T) {
	seen := map[bool]int{}
	for n := 1; n <= 6; n++ {
		for _, l := range treesOf(n) {
			if !impl.GoodTree(l) {
				t.Fatalf("GoodTree of %v is false", l)
			}
			for i := range l {
				for _, other := range [][]impl.Node{slices.Delete(slices.Clone(l), i, i+1), slices.Insert(slices.Clone(l), i, l[i]), slices.Concat(l[i:], l[:i])} {
					checkTree(t, other)
					seen[impl.GoodTree(other)]++
				}
			}
		}
	}
	if seen[true] < 1000 || seen[false] < 1000 {
		t.Errorf("only %v", seen)
	}
}

// Drawn trees with one number changed by a little.
func TestGoodTreeOfDrawnTrees(t *testing.T) {
	r := rand.New(rand.NewSource(345))
	seen := map[bool]int{}
	for range 5000 {
		l := drawnTree(r, drawnBetween(r, 1, mostNodes))
		if !impl.GoodTree(l) {
			t.Fatalf("GoodTree of %v is false", l)
		}
		*nodeNumbers(l)[r.Intn(3*len(l))] += drawnBetween(r, -2, 2)
		checkTree(t, l)
		seen[impl.GoodTree(l)]++
	}
	if seen[true] < 500 || seen[false] < 500 {
		t.Errorf("only %v", seen)
	}
}

// nodeNumbers are all numbers of a tree, where they stand.
func nodeNumbers(l []impl.Node) []*int {
	places := []*int{}
	for i := range l {
		places = append(places, &l[i].Kind, &l[i].Kids, &l[i].Act)
	}
	return places
}
