package tests

import (
	"math/rand"
	"slices"
	"testing"

	"loop.example/g00047/impl"
)

func TestCmpCostByHand(t *testing.T) {
	for _, c := range []struct {
		one  fare
		two  fare
		want int
	}{
		{fare{0, 0}, fare{0, 0}, 0},
		{fare{1, 0}, fare{0, 0}, 1},
		{fare{0, 1}, fare{0, 0}, 1},
		{fare{1, 0}, fare{0, 1}, -1},
		{fare{3, 0}, fare{0, 2}, 1},
		{fare{7, 0}, fare{0, 5}, -1},
		{fare{17, 0}, fare{0, 12}, 1},
		{fare{41, 0}, fare{0, 29}, -1},
		{fare{99, 0}, fare{0, 70}, 1},
		{fare{5, 4}, fare{5, 4}, 0},
		{fare{5, 4}, fare{4, 5}, -1},
		{fare{5, 4}, fare{2, 6}, 1},
		{fare{5, 4}, fare{5, 3}, 1},
		{fare{2, 1}, fare{0, 2}, 1},
		{fare{1, 1}, fare{0, 2}, -1},
		{fare{1000000, 1000000}, fare{1000000, 1000000}, 0},
		{fare{1000000, 0}, fare{0, 707106}, 1},
		{fare{1000000, 0}, fare{0, 707107}, -1},
		{fare{1000000, 0}, fare{0, 1000000}, -1},
		{fare{0, 1000000}, fare{1000000, 292893}, 1},
		{fare{0, 1000000}, fare{1000000, 292894}, -1},
	} {
		if got, ok := impl.CmpCost(c.one.straight, c.one.slant, c.two.straight, c.two.slant); got != c.want || !ok {
			t.Errorf("CmpCost of %v, %v: %d %v, want %d", c.one, c.two, got, ok, c.want)
		}
		checkFares(t, c.one, c.two)
	}
}

// So many straight steps are nearly so many slant ones, the next pair nearer than the one ahead, now less, now more; the same is added to both sides.
func TestCmpCostOfNearCosts(t *testing.T) {
	want := -1
	for straight, slant := 1, 1; straight <= mostCost; straight, slant = straight+2*slant, straight+slant {
		for _, more := range []fare{{0, 0}, {1, 0}, {0, 1}, {1, 1}, {7, 3}, {1000, 2000}, {mostCost - straight, 0}, {0, mostCost - slant}, {mostCost - straight, mostCost - slant}} {
			one, two := more.plus(fare{straight, 0}), more.plus(fare{0, slant})
			if got, ok := impl.CmpCost(one.straight, one.slant, two.straight, two.slant); got != want || !ok {
				t.Errorf("CmpCost of %v, %v: %d %v, want %d", one, two, got, ok, want)
			}
			if got, ok := impl.CmpCost(two.straight, two.slant, one.straight, one.slant); got != -want || !ok {
				t.Errorf("CmpCost of %v, %v: %d %v, want %d", two, one, got, ok, -want)
			}
			for d := -1; d <= 1; d++ {
				checkFares(t, fare{one.straight + d, one.slant}, two)
				checkFares(t, one, fare{two.straight, two.slant + d})
			}
		}
		want = -want
	}
}

// 0, 10^6 and what lies beside them, in each place beside each other.
func TestCmpCostAtTheEdges(t *testing.T) {
	l := []int{-1, 0, 1, mostCost - 1, mostCost, mostCost + 1}
	for _, a := range l {
		for _, b := range l {
			for _, c := range l {
				for _, d := range l {
					checkFares(t, fare{a, b}, fare{c, d})
				}
			}
		}
	}
}

func TestCmpCostOfSmallAndDrawnCosts(t *testing.T) {
	for n := range 9 * 9 * 9 * 9 {
		checkFares(t, fare{n % 9, n / 9 % 9}, fare{n / 81 % 9, n / 729})
	}
	r := rand.New(rand.NewSource(270))
	for range 20000 {
		one, two := fare{r.Intn(mostCost + 1), r.Intn(mostCost + 1)}, fare{r.Intn(mostCost + 1), r.Intn(mostCost + 1)}
		checkFares(t, one, two)
		// Nearly alike: as many slant steps less as make up for the straight ones.
		two.slant = min(max(0, one.slant+(one.straight-two.straight)*29/41+r.Intn(5)-2), mostCost)
		checkFares(t, one, two)
	}
}

func TestWayCostByHand(t *testing.T) {
	for _, c := range []struct {
		picture string
		cells   []int
		want    fare
		ok      bool
	}{
		{".", []int{0}, fare{0, 0}, true},
		{".", []int{0, 0}, fare{}, false},
		{".", nil, fare{}, false},
		{".", []int{1}, fare{}, false},
		{".", []int{-1}, fare{}, false},
		{"#", []int{0}, fare{}, false},
		{"?", []int{0}, fare{}, false},
		{"..", []int{0, 1}, fare{1, 0}, true},
		{"..", []int{1, 0, 1, 0}, fare{3, 0}, true},
		{".|.", []int{0, 1}, fare{1, 0}, true},
		{".|.|.", []int{0, 2}, fare{}, false},
		{"..|..", []int{0, 3}, fare{0, 1}, true},
		{"..|..", []int{1, 2}, fare{0, 1}, true},
		{"..|..", []int{1, 2, 0, 3, 1}, fare{2, 2}, true},
		{".#|..", []int{0, 3}, fare{}, false},
		{"..|?.", []int{0, 3}, fare{}, false},
		{".#|?.", []int{0, 3}, fare{}, false},
		{".#|..", []int{0, 2, 3}, fare{2, 0}, true},
		{"...|...", []int{2, 3}, fare{}, false},
		{"...|...", []int{3, 2}, fare{}, false},
		{"...|...", []int{0, 2}, fare{}, false},
		{"...|...", []int{0, 5}, fare{}, false},
		{"...|...|...", []int{0, 4, 8, 7, 6}, fare{2, 2}, true},
		{"...|.#.|...", []int{0, 1, 2, 5, 8}, fare{4, 0}, true},
		{"...|.#.|...", []int{0, 1, 5}, fare{}, false},
		{"...|.#.|...", []int{0, 1, 4}, fare{}, false},
	} {
		m := cellsOf(c.picture)
		if straight, slant, ok := impl.WayCost(m, c.cells); ok != c.ok || c.want != (fare{straight, slant}) {
			t.Errorf("WayCost of %q, %v: %d %d %v, want %v %v", c.picture, c.cells, straight, slant, ok, c.want, c.ok)
		}
		checkList(t, m, c.cells)
	}
}

// Along each of the eight directions, one step and another one, there and back.
func TestWayCostAlongEachDirection(t *testing.T) {
	m := open(5, 5)
	for i, d := range eight {
		want := fare{2, 0}
		if i%2 == 1 {
			want = fare{0, 2}
		}
		by := 5*d[1] + d[0]
		for _, cells := range [][]int{{12, 12 + by, 12 + 2*by}, {12, 12 + by, 12}, {12 + 2*by, 12 + by, 12}} {
			if straight, slant, ok := impl.WayCost(m, cells); !ok || want != (fare{straight, slant}) {
				t.Errorf("WayCost of %v: %d %d %v, want %v", cells, straight, slant, ok, want)
			}
		}
		checkNoWayCost(t, m, []int{12, 12 + 2*by})
	}
}

func checkNoWayCost(t *testing.T, m impl.Cells, cells []int) {
	t.Helper()
	if straight, slant, ok := impl.WayCost(m, cells); straight != 0 || slant != 0 || ok {
		t.Errorf("WayCost of %v, %v: %d %d %v", m, cells, straight, slant, ok)
	}
}

// A slant step past one cell that is not free, past the other one, past both; straight steps do not ask for them.
func TestWayCostPastCorners(t *testing.T) {
	for _, kind := range []int{impl.CellWall, impl.CellOpen} {
		for _, ends := range [][2]int{{0, 3}, {3, 0}, {1, 2}, {2, 1}} {
			beside := slices.DeleteFunc([]int{0, 1, 2, 3}, func(at int) bool { return at == ends[0] || at == ends[1] })
			for mask := range 4 {
				m := open(2, 2)
				for i, at := range beside {
					if mask&(1<<i) != 0 {
						m.Cells[at] = kind
					}
				}
				straight, slant, ok := impl.WayCost(m, ends[:])
				if free := mask == 0; ok != free || straight != 0 || (slant == 1) != free {
					t.Errorf("WayCost of %v, %v: %d %d %v", m, ends, straight, slant, ok)
				}
				for _, at := range beside {
					_, _, ok := impl.WayCost(m, []int{ends[0], at, ends[1]})
					if ok != (m.Cells[at] == 0) {
						t.Errorf("WayCost of %v, past %d: %v", m, at, ok)
					}
				}
			}
		}
	}
}

// Every two cells of maps of all small sides, and every three of some: over the ends of rows, to the same cell, leaps.
func TestWayCostOfAllSteps(t *testing.T) {
	r := rand.New(rand.NewSource(271))
	for wide := 1; wide <= 5; wide++ {
		for high := 1; high <= 5; high++ {
			for _, m := range []impl.Cells{open(wide, high), drawnCells(r, wide, high, 3), drawnCells(r, wide, high, 6)} {
				for a := -1; a <= wide*high; a++ {
					for b := -1; b <= wide*high; b++ {
						checkWayCost(t, m, []int{a, b})
						if wide*high <= 9 {
							for c := range wide * high {
								checkWayCost(t, m, []int{a, b, c})
								checkWayCost(t, m, []int{c, a, b})
							}
						}
					}
				}
			}
		}
	}
}

// From the last cell of a row to the first one of the next is no step, nor is any slant one over the edge.
func TestWayCostOverTheEdge(t *testing.T) {
	for wide := 3; wide <= mostWide; wide++ {
		m := open(wide, 4)
		for y := range 3 {
			last := y*wide + wide - 1
			for _, by := range []int{1, wide + 1, -wide + 1} {
				if at := last + by; at >= 0 && at < 4*wide {
					checkNoWayCost(t, m, []int{last, at})
					checkNoWayCost(t, m, []int{at, last})
				}
			}
		}
	}
}

func TestWayCostOfLongWays(t *testing.T) {
	m := open(mostWide, mostWide)
	cells := snake(mostWide, mostWide)
	back := slices.Repeat([]int{0, 17}, 200)
	for long := 1; long <= mostListed; long++ {
		if straight, slant, ok := impl.WayCost(m, cells[:long]); straight != long-1 || slant != 0 || !ok {
			t.Errorf("WayCost of %d cells: %d %d %v", long, straight, slant, ok)
		}
		if straight, slant, ok := impl.WayCost(m, back[:long]); straight != 0 || slant != long-1 || !ok {
			t.Errorf("WayCost of %d cells: %d %d %v", long, straight, slant, ok)
		}
	}
	for _, long := range []int{257, 258, 300, 400} {
		checkNoList(t, m, back[:long])
		checkNoList(t, m, slices.Repeat([]int{0, 1}, long)[:long])
	}
	checkNoList(t, m, append(slices.Clone(cells), cells[254]))
}

// A cell that is not free, or none at all, at the first, a middle and the last place.
func TestWayCostOfCellsThatAreNotFree(t *testing.T) {
	for _, long := range []int{1, 2, 3, 16, mostListed} {
		cells := snake(mostWide, mostWide)[:long]
		for _, at := range placesIn(long) {
			for _, kind := range []int{impl.CellWall, impl.CellOpen} {
				m := open(mostWide, mostWide)
				m.Cells[cells[at]] = kind
				checkNoList(t, m, cells)
			}
			for _, none := range append([]int{-1, 256, 257, -256}, farInts...) {
				wrong := slices.Clone(cells)
				wrong[at] = none
				checkNoList(t, open(mostWide, mostWide), wrong)
			}
		}
	}
}

func TestWayCostOfDrawnWays(t *testing.T) {
	r := rand.New(rand.NewSource(272))
	for range 200 {
		m := drawnCells(r, drawnBetween(r, 1, mostWide), drawnBetween(r, 1, mostWide), drawnBetween(r, 2, 9))
		cells := drawnStroll(r, m, drawnBetween(r, 1, 40), false)
		checkWayCost(t, m, cells)
		if len(cells) == 0 {
			continue
		}
		if _, _, ok := impl.WayCost(m, cells); !ok {
			t.Errorf("WayCost of %v, %v is false", m, cells)
		}
		back := slices.Clone(cells)
		slices.Reverse(back)
		checkWayCost(t, m, back)
		cells[r.Intn(len(cells))] = r.Intn(len(m.Cells))
		checkWayCost(t, m, cells)
	}
}
