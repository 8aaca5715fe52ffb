package tests

import (
	"math/rand"
	"slices"
	"testing"

	"loop.example/g00047/impl"
)

func TestLooks(t *testing.T) {
	for _, c := range []struct {
		l     []impl.Mote
		seen  int
		width int
		want  []impl.Mote
	}{
		{motesOf(5, 10), 5, 1, motesOf(5, 10)},
		{motesOf(5, 10), 6, 1, motesOf(5, 0)},
		{motesOf(5, 10), 7, 1, motesOf(5, 0)},
		{motesOf(5, 10), 4, 1, motesOf(5, 0)},
		{motesOf(5, 10), 3, 1, motesOf(5, 0)},
		{motesOf(5, 10, 6, 10, 4, 10), 5, 2, motesOf(5, 10, 6, 5, 4, 5)},
		{motesOf(5, 11, 6, 11, 4, 9), 5, 2, motesOf(5, 11, 6, 5, 4, 4)},
		{motesOf(7, 10, 3, 10, 8, 10, 2, 10), 5, 3, motesOf(7, 3, 3, 3, 8, 0, 2, 0)},
		{motesOf(9, 10, 1, 10, 100, 10, -100, 10), 5, 3, motesOf(9, 0, 1, 0, 100, 0, -100, 0)},
		{motesOf(0, 1, 1, 1), 0, 100, motesOf(0, 1, 1, 0)},
		{motesOf(3, 0, 3, 7), 3, 5, motesOf(3, 0, 3, 7)},
		{motesOf(mostAt, mostWeight, -mostAt, mostWeight, 0, mostWeight), mostAt, mostAt, motesOf(mostAt, mostWeight, -mostAt, 0, 0, 0)},
		{motesOf(mostAt, mostWeight, -mostAt, mostWeight, 1, mostWeight), -mostAt, mostAt, motesOf(mostAt, 0, -mostAt, mostWeight, 1, 0)},
		{motesOf(1, mostWeight, -1, mostWeight, 500000, 999999), 0, mostAt, motesOf(1, 999999, -1, 999999, 500000, 499999)},
		{nil, 0, 1, nil},
		{[]impl.Mote{}, mostAt, mostAt, nil},
	} {
		if got, ok := impl.LookCloud(c.l, c.seen, c.width); !slices.Equal(got, c.want) || !ok {
			t.Errorf("LookCloud of %v, %d, %d: %v %v, want %v", c.l, c.seen, c.width, got, ok, c.want)
		}
		checkLook(t, c.l, c.seen, c.width)
	}
}

// A cloud may be lost by a look, and one that was lost may be looked at.
func TestLooksOfLostClouds(t *testing.T) {
	l := motesOf(5, 3, 7, 0, 6, 4)
	got, ok := impl.LookCloud(l, -5, 10)
	if !slices.Equal(got, motesOf(5, 0, 7, 0, 6, 0)) || !ok || !impl.LostCloud(got) {
		t.Errorf("LookCloud of %v: %v %v", l, got, ok)
	}
	again, ok := impl.LookCloud(got, 5, 10)
	if !slices.Equal(again, got) || !ok || !impl.LostCloud(again) {
		t.Errorf("LookCloud of %v: %v %v", got, again, ok)
	}
	for n := range mostMotes + 1 {
		l := weighted(make([]int, n)...)
		if got, ok := impl.LookCloud(l, 0, 1000); !slices.Equal(got, l) || !ok {
			t.Errorf("LookCloud of %d motes without Weights: %v %v", n, got, ok)
		}
	}
}

// Just within, at and beyond the width, on both sides, for motes in all places.
func TestLooksAtTheWidth(t *testing.T) {
	for _, width := range []int{1, 2, 3, 10, 999999, mostAt} {
		for _, seen := range []int{0, 17, -17, mostAt, -mostAt} {
			l := []impl.Mote{}
			for _, away := range []int{0, 1, 2, width / 2, width - 1, width, width + 1, width + 2, mostAt} {
				for _, at := range []int{seen + away, seen - away} {
					if upTo(mostAt, at) {
						l = append(l, impl.Mote{At: at, Weight: mostWeight}, impl.Mote{At: at, Weight: 1}, impl.Mote{At: at, Weight: 0})
					}
				}
			}
			checkLook(t, l, seen, width)
			got, ok := impl.LookCloud(l, seen, width)
			for i, m := range got {
				away := max(m.At-seen, seen-m.At)
				if away == 0 && m != l[i] || away >= width && m.Weight != 0 || away == width-1 && m.Weight != l[i].Weight/width {
					t.Errorf("LookCloud at %d, %d: %v comes of %v", seen, width, m, l[i])
				}
			}
			if !ok {
				t.Errorf("LookCloud at %d, %d is false", seen, width)
			}
		}
	}
}

func TestLooksAtEdges(t *testing.T) {
	l := motesOf(0, mostWeight, mostAt, mostWeight, -mostAt, mostWeight, 3, 1)
	for _, edge := range []int{mostAt, -mostAt} {
		if _, ok := impl.LookCloud(l, edge, 1); !ok {
			t.Errorf("LookCloud at %d is false", edge)
		}
		for _, beyond := range []int{edge + edge/mostAt, 2 * edge} {
			if got, ok := impl.LookCloud(l, beyond, 1); len(got) != 0 || ok {
				t.Errorf("LookCloud at %d: %v %v", beyond, got, ok)
			}
		}
	}
	for width, good := range map[int]bool{-1: false, 0: false, 1: true, mostAt: true, mostAt + 1: false} {
		if got, ok := impl.LookCloud(l, 0, width); ok != good || (len(got) == len(l)) != good {
			t.Errorf("LookCloud of the width %d: %v %v", width, got, ok)
		}
	}
}

func TestLooksOfDrawnClouds(t *testing.T) {
	r := rand.New(rand.NewSource(172))
	for n := range mostMotes + 2 {
		for _, far := range []int{1, 9, 1000, mostAt} {
			for range 5 {
				checkLook(t, drawnCloud(r, n, far, 10), drawnBetween(r, -far, far), drawnBetween(r, 1, far))
				checkLook(t, drawnCloud(r, n, far, mostWeight), drawnBetween(r, -far, far), min(mostAt, drawnBetween(r, 1, 3*far)))
			}
		}
	}
	for weight := range 12 {
		for width := 1; width <= 12; width++ {
			for at := -14; at <= 14; at++ {
				checkLook(t, motesOf(at, weight), 0, width)
				checkLook(t, motesOf(0, weight), at, width)
			}
		}
	}
}

func TestMovesOfClouds(t *testing.T) {
	for _, c := range []struct {
		l     []impl.Mote
		by    int
		coins []int
		want  []impl.Mote
	}{
		{motesOf(1, 5, 2, 6, 3, 0), 0, nil, motesOf(1, 5, 2, 6, 3, 0)},
		{motesOf(1, 5, 2, 6, 3, 0), 10, []int{}, motesOf(11, 5, 12, 6, 13, 0)},
		{motesOf(1, 5, 2, 6, 3, 0), -10, []int{1}, motesOf(-8, 5, -7, 6, -6, 0)},
		{motesOf(1, 5, 2, 6, 3, 0, 4, 9, 5, 9), 0, []int{100, -100}, motesOf(101, 5, -98, 6, 103, 0, -96, 9, 105, 9)},
		{motesOf(1, 5, 2, 6, 3, 0), 0, []int{10, 20, 30}, motesOf(11, 5, 22, 6, 33, 0)},
		{motesOf(1, 5, 2, 6, 3, 0), 0, []int{10, 20, 30, 40, 50}, motesOf(11, 5, 22, 6, 33, 0)},
		{motesOf(mostAt-3, 1, 3-mostAt, 2), 0, []int{3, -3}, motesOf(mostAt, 1, -mostAt, 2)},
		{motesOf(mostAt, 1, mostAt, 0), -mostAt, []int{-mostAt}, motesOf(-mostAt, 1, -mostAt, 0)},
		{motesOf(-mostAt, 1), mostAt, []int{mostAt}, motesOf(mostAt, 1)},
		{motesOf(0, 1), mostAt, []int{-mostAt}, motesOf(0, 1)},
		{motesOf(mostAt, 1), mostAt, []int{-mostAt}, motesOf(mostAt, 1)},
		{nil, 5, []int{1, 2}, nil},
		{[]impl.Mote{}, mostAt, nil, nil},
	} {
		if got, ok := impl.MoveCloud(c.l, c.by, c.coins); !slices.Equal(got, c.want) || !ok {
			t.Errorf("MoveCloud of %v, %d, %v: %v %v, want %v", c.l, c.by, c.coins, got, ok, c.want)
		}
		checkDrift(t, c.l, c.by, c.coins)
	}
}

func checkNoDrift(t *testing.T, l []impl.Mote, by int, coins []int) {
	t.Helper()
	if got, ok := impl.MoveCloud(l, by, coins); len(got) != 0 || ok {
		t.Errorf("MoveCloud of %v, %d, %v: %v %v", l, by, coins, got, ok)
	}
	checkDrift(t, l, by, coins)
}

// A mote that comes to rest at the end of all places is good, one beyond it is not; whichever mote it is, with a Weight or without.
func TestMovesToTheEnds(t *testing.T) {
	for _, n := range []int{1, 2, 3, mostMotes} {
		for at := range n {
			for _, weight := range []int{0, 1} {
				for _, side := range []int{1, -1} {
					l := weighted(make([]int, n)...)
					l[at] = impl.Mote{At: side * (mostAt - 5), Weight: weight}
					coins := make([]int, n)
					coins[at] = side * 3
					got, ok := impl.MoveCloud(l, side*2, coins)
					if !ok || len(got) != n || got[at] != (impl.Mote{At: side * mostAt, Weight: weight}) {
						t.Errorf("MoveCloud of mote %d of %d to %d: %v %v", at, n, side*mostAt, got, ok)
					}
					checkNoDrift(t, l, side*3, coins)
					coins[at] = side * 4
					checkNoDrift(t, l, side*2, coins)
					l[at].At += side
					coins[at] = side * 3
					checkNoDrift(t, l, side*2, coins)
				}
			}
		}
	}
	checkNoDrift(t, motesOf(mostAt, 1), mostAt, []int{mostAt})
	checkNoDrift(t, motesOf(-mostAt, 1), -mostAt, []int{-mostAt})
	checkNoDrift(t, motesOf(1, 1), mostAt, nil)
}

func TestMovesOfDrawnClouds(t *testing.T) {
	r := rand.New(rand.NewSource(173))
	for n := range mostMotes + 2 {
		for _, coins := range []int{0, 1, 2, 3, max(0, n-1), n, n + 1, mostCoins, mostCoins + 1} {
			checkDrift(t, drawnCloud(r, n, 1000, mostWeight), drawnBetween(r, -1000, 1000), drawnCoins(r, coins, 1000))
			checkDrift(t, drawnCloud(r, n, mostAt/2, 9), drawnBetween(r, -mostAt/3, mostAt/3), drawnCoins(r, coins, mostAt/3))
		}
	}
}

func TestTooManyCoins(t *testing.T) {
	for _, l := range [][]impl.Mote{nil, motesOf(5, 1), weighted(make([]int, mostMotes)...)} {
		if got, ok := impl.MoveCloud(l, 1, make([]int, mostCoins)); len(got) != len(l) || !ok {
			t.Errorf("MoveCloud by %d coins: %v %v", mostCoins, got, ok)
		}
		for _, n := range []int{mostCoins + 1, mostCoins + 2, 1000} {
			checkNoDrift(t, l, 1, make([]int, n))
		}
	}
}
