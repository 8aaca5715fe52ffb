package tests

import (
	"math/rand"
	"slices"
	"testing"

	"loop.example/g00047/impl"
)

func TestPicks(t *testing.T) {
	for _, c := range []struct {
		l    []impl.Mote
		n    int
		coin int
		want []int
	}{
		{motesOf(5, 1, 7, 3), 4, 0, []int{5, 7, 7, 7}},
		{motesOf(5, 1, 7, 3), 4, 3, []int{5, 7, 7, 7}},
		{motesOf(5, 1, 7, 3), 1, 0, []int{5}},
		{motesOf(5, 1, 7, 3), 1, 1, []int{7}},
		{motesOf(5, 1, 7, 3), 1, 3, []int{7}},
		{motesOf(5, 1, 7, 3), 2, 0, []int{5, 7}},
		{motesOf(5, 1, 7, 3), 2, 1, []int{5, 7}},
		{motesOf(5, 1, 7, 3), 2, 2, []int{7, 7}},
		{motesOf(5, 1, 7, 3), 2, 3, []int{7, 7}},
		{motesOf(7, 3, 5, 1), 2, 3, []int{7, 5}},
		{motesOf(7, 3, 5, 1), 2, 1, []int{7, 7}},
		{motesOf(5, 1, 7, 3), 8, 0, []int{5, 5, 7, 7, 7, 7, 7, 7}},
		{motesOf(5, 1), 3, 0, []int{5, 5, 5}},
		{motesOf(5, 1, 6, 1, 7, 1), 3, 2, []int{5, 6, 7}},
		{motesOf(5, 1, 6, 1, 7, 1), 2, 0, []int{5, 6}},
		{motesOf(5, 1, 6, 1, 7, 1), 2, 1, []int{5, 7}},
		{motesOf(5, 0, 6, 1, 7, 0, 8, 1, 9, 0), 2, 0, []int{6, 8}},
		{motesOf(5, 0, 6, 1, 7, 0, 8, 1, 9, 0), 1, 1, []int{8}},
		{motesOf(5, 0, 6, 1, 7, 0, 8, 1, 9, 0), 3, 1, []int{6, 8, 8}},
		{motesOf(5, 0, 6, 0, 7, 4), 2, 0, []int{7, 7}},
		{motesOf(7, 4, 5, 0, 6, 0), 2, 3, []int{7, 7}},
		{motesOf(1, mostWeight, 2, mostWeight), 4, 2*mostWeight - 1, []int{1, 1, 2, 2}},
		{motesOf(1, mostWeight, 2, mostWeight), 1, mostWeight - 1, []int{1}},
		{motesOf(1, mostWeight, 2, mostWeight), 1, mostWeight, []int{2}},
	} {
		want := []impl.Mote{}
		for _, at := range c.want {
			want = append(want, impl.Mote{At: at, Weight: 1})
		}
		if got, ok := impl.PickCloud(c.l, c.n, c.coin); !slices.Equal(got, want) || !ok {
			t.Errorf("PickCloud of %v, %d, %d: %v %v, want %v", c.l, c.n, c.coin, got, ok, want)
		}
		checkPick(t, c.l, c.n, c.coin)
	}
}

// Whatever the coin, each mote is picked as often as its Weight says, down or up.
func TestPicksAreFairByEveryCoin(t *testing.T) {
	for _, weights := range [][]int{{1}, {7}, {1, 3}, {3, 1}, {1, 1, 1}, {2, 3, 5}, {5, 0, 4, 0, 0, 2}, {0, 6, 1}, {1, 6, 0}, {0, 0, 3, 0, 0}, {1, 2, 3, 4, 5, 6}, {20, 1, 1, 20}, {13, 8, 5, 3, 2, 1, 1}} {
		l := weighted(weights...)
		for n := range mostMotes + 2 {
			for coin := -1; coin <= weightOf(l); coin++ {
				checkPick(t, l, n, coin)
			}
		}
	}
}

// Over all coins together, each mote is picked just as often as its Weight times n.
func TestPicksOverAllCoinsAreJust(t *testing.T) {
	for _, weights := range [][]int{{1, 3}, {2, 3, 5}, {5, 0, 4, 0, 0, 2}, {0, 9, 30, 1, 0}} {
		l := weighted(weights...)
		for _, n := range []int{1, 2, 3, 7, mostMotes} {
			often := map[int]int{}
			for coin := range weightOf(l) {
				picked, _ := impl.PickCloud(l, n, coin)
				for _, m := range picked {
					often[m.At]++
				}
			}
			for _, m := range l {
				if often[m.At] != n*m.Weight {
					t.Errorf("PickCloud of %v, %d: %v is picked %d times by all coins", l, n, m, often[m.At])
				}
			}
		}
	}
}

// All clouds of up to four motes with small Weights, all coins.
func TestPicksOfAllSmallClouds(t *testing.T) {
	for i := range 4 * 4 * 4 * 4 {
		weights := []int{i % 4, i / 4 % 4, i / 16 % 4, i / 64}
		for most := range len(weights) + 1 {
			l := weighted(weights[:most]...)
			for n := range 7 {
				for coin := -1; coin <= weightOf(l); coin++ {
					checkPick(t, l, n, coin)
				}
			}
		}
	}
}

// The last place of all lies in the last mote that has a Weight, and by the greatest coin the last pick comes there.
func TestTheLastPlace(t *testing.T) {
	for n := 1; n <= mostMotes; n++ {
		for last := range n {
			for _, weight := range []int{1, 2, mostWeight} {
				l := weighted(slices.Repeat([]int{weight}, n)...)
				for i := last + 1; i < n; i++ {
					l[i].Weight = 0
				}
				for _, picks := range []int{1, n, mostMotes} {
					got, ok := impl.PickCloud(l, picks, weightOf(l)-1)
					if !ok || len(got) != picks || got[picks-1].At != l[last].At {
						t.Errorf("PickCloud of %v, %d, %d: %v %v", l, picks, weightOf(l)-1, got, ok)
					}
					checkPick(t, l, picks, weightOf(l)-1)
				}
			}
		}
	}
}

// The first place lies in the first mote that has a Weight.
func TestTheFirstPlace(t *testing.T) {
	for n := 1; n <= mostMotes; n++ {
		for first := range n {
			l := weighted(slices.Repeat([]int{3}, n)...)
			for i := range first {
				l[i].Weight = 0
			}
			got, ok := impl.PickCloud(l, 2, 0)
			if !ok || len(got) != 2 || got[0].At != l[first].At {
				t.Errorf("PickCloud of %v, 2, 0: %v %v", l, got, ok)
			}
			checkPick(t, l, 2, 0)
		}
	}
}

func TestPicksAtEdges(t *testing.T) {
	l := weighted(3, 0, 2)
	for n, good := range map[int]bool{-1: false, 0: false, 1: true, 2: true, 3: true, 4: true, mostMotes: true, mostMotes + 1: false} {
		if got, ok := impl.PickCloud(l, n, 4); ok != good || good && len(got) != n || !good && len(got) != 0 {
			t.Errorf("PickCloud of %d picks: %v %v", n, got, ok)
		}
		checkPick(t, l, n, 4)
	}
	for coin, good := range map[int]bool{-1: false, 0: true, 4: true, 5: false, 6: false} {
		if got, ok := impl.PickCloud(l, 2, coin); ok != good || (len(got) == 2) != good {
			t.Errorf("PickCloud by the coin %d: %v %v", coin, got, ok)
		}
		checkPick(t, l, 2, coin)
	}
}

func TestPicksOfLostClouds(t *testing.T) {
	for n := range mostMotes + 1 {
		l := weighted(make([]int, n)...)
		for _, picks := range []int{0, 1, 2, mostMotes} {
			for _, coin := range []int{-1, 0, 1} {
				if got, ok := impl.PickCloud(l, picks, coin); len(got) != 0 || ok {
					t.Errorf("PickCloud of %v, %d, %d: %v %v", l, picks, coin, got, ok)
				}
			}
		}
	}
}

// Weights' sums as great as they may be.
func TestPicksOfHeavyClouds(t *testing.T) {
	l := weighted(slices.Repeat([]int{mostWeight}, mostMotes)...)
	all := mostMotes * mostWeight
	for n := range mostMotes + 2 {
		for _, coin := range []int{-1, 0, 1, mostWeight - 1, mostWeight, all / 2, all - mostWeight - 1, all - 2, all - 1, all, all + 1} {
			checkPick(t, l, n, coin)
		}
	}
	for coin := 0; coin < all; coin += 999983 {
		got, ok := impl.PickCloud(l, mostMotes, coin)
		for i, m := range got {
			if m.At != l[i].At {
				t.Errorf("PickCloud of as many motes as there are: %v", got)
			}
		}
		if !ok || len(got) != mostMotes {
			t.Errorf("PickCloud by the coin %d: %v %v", coin, got, ok)
		}
	}
}

func TestPicksOfDrawnClouds(t *testing.T) {
	r := rand.New(rand.NewSource(174))
	for size := range mostMotes + 2 {
		for _, heavy := range []int{1, 2, 10, 1000, mostWeight} {
			for range 6 {
				l := drawnCloud(r, size, mostAt, heavy)
				total := weightOf(l)
				for _, coin := range []int{0, total - 1, total, r.Intn(total + 1)} {
					checkPick(t, l, drawnBetween(r, 1, mostMotes), coin)
					checkPick(t, l, size, coin)
				}
			}
		}
	}
}

// A round of all of it: what is picked is a cloud again.
func TestPicksAreClouds(t *testing.T) {
	r := rand.New(rand.NewSource(175))
	l := drawnCloud(r, mostMotes, 1000, mostWeight)
	for round := range 40 {
		moved, ok := impl.MoveCloud(l, drawnBetween(r, -9, 9), drawnCoins(r, round, 20))
		looked, okToo := impl.LookCloud(moved, drawnBetween(r, -300, 300), drawnBetween(r, 500, mostAt))
		if !ok || !okToo || !impl.GoodCloud(looked) {
			t.Fatalf("round %d: %v %v", round, moved, looked)
		}
		if impl.LostCloud(looked) {
			l = drawnCloud(r, mostMotes, 1000, mostWeight)
			continue
		}
		checkPick(t, looked, mostMotes, r.Intn(weightOf(looked)))
		l, _ = impl.PickCloud(looked, mostMotes, r.Intn(weightOf(looked)))
		checkCloud(t, l)
		for i := range l {
			l[i].Weight = mostWeight
		}
	}
}
