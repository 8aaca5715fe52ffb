package tests

import (
	"maps"
	"math/rand"
	"slices"
	"testing"

	"loop.example/g00047/impl"
)

func TestShortestWayByHand(t *testing.T) {
	for _, c := range []struct {
		picture string
		from    int
		to      int
		cells   []int
		cost    fare
	}{
		{".", 0, 0, []int{0}, fare{0, 0}},
		{"..", 0, 1, []int{0, 1}, fare{1, 0}},
		{"..", 1, 0, []int{1, 0}, fare{1, 0}},
		{"..|..", 0, 3, []int{0, 3}, fare{0, 1}},
		{"..|..", 1, 2, []int{1, 2}, fare{0, 1}},
		{"..|..", 2, 2, []int{2}, fare{0, 0}},
		{".#|..", 0, 3, []int{0, 2, 3}, fare{2, 0}},
		{"..|?.", 0, 3, []int{0, 1, 3}, fare{2, 0}},
		{"....", 0, 3, []int{0, 1, 2, 3}, fare{3, 0}},
		{".|.|.", 2, 0, []int{2, 1, 0}, fare{2, 0}},
		{"...|...", 0, 5, []int{0, 1, 5}, fare{1, 1}},
		{"...|...", 5, 0, []int{5, 1, 0}, fare{1, 1}},
		{"...|...", 2, 3, []int{2, 1, 3}, fare{1, 1}},
		{"...|...", 3, 2, []int{3, 1, 2}, fare{1, 1}},
		{"...|.#.|...", 0, 8, []int{0, 1, 2, 5, 8}, fare{4, 0}},
		{"...|.#.|...", 8, 0, []int{8, 5, 2, 1, 0}, fare{4, 0}},
		{"...|.#.|...", 2, 6, []int{2, 1, 0, 3, 6}, fare{4, 0}},
		{"...|.#.|...", 1, 7, []int{1, 0, 3, 6, 7}, fare{4, 0}},
		{"...|.#.|#..", 0, 8, []int{0, 1, 2, 5, 8}, fare{4, 0}},
		{".?.|.#.|...", 0, 8, []int{0, 3, 6, 7, 8}, fare{4, 0}},
		{"....|....|....", 0, 11, []int{0, 1, 6, 11}, fare{1, 2}},
		{"....|....|....", 11, 0, []int{11, 6, 1, 0}, fare{1, 2}},
		{"....|....|....", 8, 3, []int{8, 5, 2, 3}, fare{1, 2}},
	} {
		m := cellsOf(c.picture)
		want := impl.Way{Cells: c.cells, Straight: c.cost.straight, Slant: c.cost.slant}
		if got, ok := impl.ShortestWay(m, c.from, c.to); !ok || !sameWay(got, want) {
			t.Errorf("ShortestWay of %q, %d, %d: %v %v, want %v", c.picture, c.from, c.to, got, ok, want)
		}
		checkShortest(t, m, c.from, bestByRounds(m, c.from))
	}
}

// Cut off from each other by walls, by cells that are not known, and by corners that no slant step passes.
func TestShortestWayWhereThereIsNone(t *testing.T) {
	for _, c := range []struct {
		picture string
		from    int
		to      int
	}{
		{".#.", 0, 2},
		{".?.", 0, 2},
		{".|#|.", 0, 2},
		{".#|#.", 0, 3},
		{"?.|.#", 1, 2},
		{".?|#.", 3, 0},
		{"..#.|..#.|..#.", 0, 3},
		{"....|####|....", 2, 9},
		{"..#|.#.|#..", 0, 8},
		{".....|.###.|.#.#.|.###.|.....", 12, 0},
		{".....|.?#?.|.#.#.|.?#?.|.....", 0, 12},
		{"#####|#.#.#|##.##|#.#.#|#####", 6, 12},
		{"#####|#.#.#|##.##|#.#.#|#####", 6, 18},
	} {
		m := cellsOf(c.picture)
		if !isFree(m, c.from) || !isFree(m, c.to) {
			t.Fatalf("%q, %d, %d", c.picture, c.from, c.to)
		}
		for _, ends := range [][2]int{{c.from, c.to}, {c.to, c.from}} {
			if got, ok := impl.ShortestWay(m, ends[0], ends[1]); ok || !sameWay(got, impl.Way{}) {
				t.Errorf("ShortestWay of %q, %v: %v %v", c.picture, ends, got, ok)
			}
		}
		checkShortest(t, m, c.from, bestByRounds(m, c.from))
	}
}

// eachMap shows all maps of these sides, cells free or not, by turns a wall or not known.
func eachMap(wide int, high int, see func(impl.Cells)) {
	for mask := range 1 << (wide * high) {
		m := open(wide, high)
		for at := range m.Cells {
			if mask&(1<<at) != 0 {
				m.Cells[at] = 1 + (at+mask)%2
			}
		}
		see(m)
	}
}

// All maps of up to nine cells, from each cell to each: held against all ways, one by one.
func TestShortestWayAgainstAllWays(t *testing.T) {
	for _, sides := range [][2]int{{1, 1}, {1, 2}, {2, 1}, {1, 5}, {5, 1}, {2, 2}, {2, 3}, {3, 2}, {2, 4}, {4, 2}, {3, 3}} {
		eachMap(sides[0], sides[1], func(m impl.Cells) {
			for from := range m.Cells {
				checkShortest(t, m, from, bestOfAll(m, from))
			}
		})
	}
}

// Greater maps with some cells that are not free: all ways, one by one, and by rounds, which have to be the same.
func TestShortestWayAgainstAllWaysOfDrawnMaps(t *testing.T) {
	r := rand.New(rand.NewSource(273))
	for _, sides := range [][2]int{{4, 3}, {3, 4}, {5, 3}, {3, 5}, {4, 4}, {2, 7}, {7, 2}, {5, 5}} {
		for range 12 {
			m := drawnCells(r, sides[0], sides[1], 2+r.Intn(2))
			if len(placesOf(m)) > 11 {
				continue
			}
			for from := range m.Cells {
				best := bestOfAll(m, from)
				if !maps.EqualFunc(best, bestByRounds(m, from), sameWay) {
					t.Fatalf("two answers of %v, %d", m, from)
				}
				checkShortest(t, m, from, best)
			}
		}
	}
}

// Nothing is a wall: as many slant steps as the shorter side has, and straight ones for the rest.
func TestShortestWayWhereAllIsFree(t *testing.T) {
	for _, sides := range [][2]int{{1, mostWide}, {mostWide, 1}, {5, 4}, {7, 9}, {2, mostWide}, {mostWide, 3}} {
		m := open(sides[0], sides[1])
		for a := range m.Cells {
			for b := range m.Cells {
				dx, dy := b%m.Wide-a%m.Wide, b/m.Wide-a/m.Wide
				ax, ay := max(dx, -dx), max(dy, -dy)
				got, ok := impl.ShortestWay(m, a, b)
				if !ok || got.Slant != min(ax, ay) || got.Straight != max(ax, ay)-min(ax, ay) || len(got.Cells) != 1+max(ax, ay) {
					t.Fatalf("ShortestWay of %v, %d, %d: %v %v", sides, a, b, got, ok)
				}
			}
		}
	}
	for _, from := range []int{0, 15, 240, 255, 119, 7, 112} {
		m := open(mostWide, mostWide)
		checkShortest(t, m, from, bestByRounds(m, from))
	}
}

// Corridors of one cell have one way from end to end, no corner of it can be cut, and it is long.
func TestShortestWayOfWindingMaps(t *testing.T) {
	for _, m := range []impl.Cells{winding(mostWide, mostWide), winding(mostWide, 15), winding(3, mostWide), winding(mostWide, 2), spiral(7), spiral(15)} {
		best := bestByRounds(m, 0)
		end := slices.MaxFunc(slices.Collect(maps.Keys(best)), func(a int, b int) int { return len(best[a].Cells) - len(best[b].Cells) })
		all := len(placesOf(m))
		if got, ok := impl.ShortestWay(m, 0, end); !ok || len(got.Cells) != all || got.Straight != all-1 || got.Slant != 0 {
			t.Errorf("ShortestWay of %v, 0, %d: %v %v, want all %d cells", m, end, got, ok, all)
		}
		checkShortest(t, m, 0, best)
		checkShortest(t, m, end, bestByRounds(m, end))
	}
	if all := len(placesOf(winding(mostWide, mostWide))); all != 136 {
		t.Error("a winding map has", all)
	}
}

func TestShortestWayOfDrawnMaps(t *testing.T) {
	r := rand.New(rand.NewSource(274))
	for i := range 60 {
		wide, high := drawnBetween(r, 1, mostWide), drawnBetween(r, 1, mostWide)
		if i%4 == 0 {
			wide, high = mostWide, mostWide
		}
		m := drawnCells(r, wide, high, drawnBetween(r, 2, 8))
		for range 4 {
			from := r.Intn(len(m.Cells))
			checkShortest(t, m, from, bestByRounds(m, from))
		}
	}
}

// twoRoutes is a ring. One side of it leads away by so many slant steps, two straight ones along, and back; the other one is a corridor that keeps so many cells away on the other side, and has straight steps alone. It has 2 (slants + away) more of these, and 2 slants fewer of the slant ones.
func twoRoutes(slants int, away int, up bool) (m impl.Cells, from int, to int) {
	wide, high := 2*slants+3, slants+away+1
	m = impl.Cells{Wide: wide, Cells: slices.Repeat([]int{impl.CellWall}, wide*high)}
	row := func(y int) int {
		if !up {
			y = high - 1 - y
		}
		return y * wide
	}
	free := func(x int, y int) { m.Cells[row(y)+x], m.Cells[row(y)+wide-1-x] = 0, 0 }
	for i := range slants {
		free(i, slants-i)
		free(i+1, slants-i)
		free(i, slants-i-1)
	}
	free(slants, 0)
	free(slants+1, 0)
	for i := range away {
		free(0, slants+i)
	}
	for x := range wide {
		free(x, slants+away)
	}
	return m, row(slants), row(slants) + wide - 1
}

// Which of two routes costs less hangs on the root of 2: 7 straight steps are less than 5 slant ones, and 3 are more than 2.
func TestShortestWayHangsOnTheRoot(t *testing.T) {
	for _, c := range []struct {
		slants int
		away   int
		want   fare
	}{
		{2, 2, fare{2, 4}},
		{3, 2, fare{2, 6}},
		{4, 2, fare{2, 8}},
		{5, 2, fare{16, 0}},
		{6, 2, fare{18, 0}},
		{5, 3, fare{2, 10}},
		{6, 3, fare{2, 12}},
	} {
		for _, up := range []bool{false, true} {
			m, from, to := twoRoutes(c.slants, c.away, up)
			for _, ends := range [][2]int{{from, to}, {to, from}} {
				if got, ok := impl.ShortestWay(m, ends[0], ends[1]); !ok || c.want != (fare{got.Straight, got.Slant}) {
					t.Errorf("ShortestWay of %v, %v: %v %v, want %v", m, ends, got, ok, c.want)
				}
				checkShortest(t, m, ends[0], bestByRounds(m, ends[0]))
			}
		}
	}
}

// The way back costs the same; its list is the least one from there, which may be another one.
func TestShortestWayThereAndBack(t *testing.T) {
	r, others := rand.New(rand.NewSource(275)), 0
	for range 60 {
		m := drawnCells(r, drawnBetween(r, 2, 8), drawnBetween(r, 2, 8), 6)
		for range 20 {
			a, b := r.Intn(len(m.Cells)), r.Intn(len(m.Cells))
			there, ok := impl.ShortestWay(m, a, b)
			back, okToo := impl.ShortestWay(m, b, a)
			if ok != okToo || there.Straight != back.Straight || there.Slant != back.Slant || len(there.Cells) != len(back.Cells) {
				t.Errorf("ShortestWay of %v, %d, %d: %v %v, and back %v %v", m, a, b, there, ok, back, okToo)
			}
			slices.Reverse(back.Cells)
			if !slices.Equal(there.Cells, back.Cells) {
				others++
			}
		}
	}
	if others == 0 {
		t.Error("no way back was another one")
	}
}
