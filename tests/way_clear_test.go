package tests

import (
	"math/rand"
	"slices"
	"testing"

	"loop.example/g00047/impl"
)

func TestClearByHand(t *testing.T) {
	for _, c := range []struct {
		picture string
		a       int
		b       int
		want    bool
	}{
		{".", 0, 0, true},
		{"#", 0, 0, false},
		{"?", 0, 0, false},
		{"...", 0, 2, true},
		{".#.", 0, 2, false},
		{".?.", 0, 2, false},
		{".|.|.", 0, 2, true},
		{".|#|.", 0, 2, false},
		{"..#", 0, 2, false},
		{"#..", 0, 2, false},
		{"..#", 0, 1, true},
		// Along a wall, its edge half a cell away.
		{"....|####", 0, 3, true},
		{"#.|#.|#.", 1, 5, true},
		// Along both, through corners: both cells beside have to be free.
		{"..|..", 0, 3, true},
		{".#|..", 0, 3, false},
		{"..|#.", 0, 3, false},
		{".?|..", 0, 3, false},
		{"#.|..", 1, 2, false},
		{"..|.#", 1, 2, false},
		{".#|..", 2, 3, true},
		{"...|...|...", 0, 8, true},
		{"..#|...|...", 0, 8, true},
		{"..#|...|#..", 0, 8, true},
		{"...|..#|...", 0, 8, false},
		{"...|...|.#.", 0, 8, false},
		{"...|.#.|...", 0, 8, false},
		// Slanting by one and two: it goes on just halfway, where it meets two cells, not four.
		{"...|...", 0, 5, true},
		{"..#|...", 0, 5, true},
		{"...|#..", 0, 5, true},
		{".#.|...", 0, 5, false},
		{"...|.#.", 0, 5, false},
		// By one and three: halfway it goes through the place where four cells meet.
		{"....|....", 0, 7, true},
		{".#..|....", 0, 7, false},
		{"..#.|....", 0, 7, false},
		{"....|.#..", 0, 7, false},
		{"....|..#.", 0, 7, false},
		{"...#|#...", 0, 7, true},
		// By two and three.
		{"....|....|....", 0, 11, true},
		{"..##|#..#|##..", 0, 11, true},
		{".###|#..#|##..", 0, 11, false},
		{"..##|##.#|##..", 0, 11, false},
		{"..##|#.##|##..", 0, 11, false},
		{"..##|#..#|###.", 0, 11, false},
	} {
		m := cellsOf(c.picture)
		if there, back := impl.Clear(m, c.a, c.b), impl.Clear(m, c.b, c.a); there != c.want || back != c.want {
			t.Errorf("Clear of %q, %d, %d: %v, and back %v, want %v", c.picture, c.a, c.b, there, back, c.want)
		}
		checkClear(t, m, c.a, c.b)
	}
}

// Every line of a map, with each single cell of it not free: the line is clear if that cell has no point of it.
func TestClearPastEachSingleCell(t *testing.T) {
	for _, sides := range [][2]int{{1, 6}, {6, 1}, {2, 5}, {5, 2}, {5, 5}, {7, 6}} {
		m := open(sides[0], sides[1])
		for a := range m.Cells {
			for b := range m.Cells {
				on := cellsOnLine(m.Wide, a, b)
				if !impl.Clear(m, a, b) {
					t.Errorf("Clear of %v, %d, %d where all is free is false", sides, a, b)
				}
				for at := range m.Cells {
					m.Cells[at] = 1 + (a+at)%2
					if got := impl.Clear(m, a, b); got != (on[at] == 0) {
						t.Errorf("Clear of %v, %d, %d with %d not free: %v", sides, a, b, at, got)
					}
					m.Cells[at] = 0
				}
			}
		}
	}
}

// nearness tells how a line goes past a cell that lies between its ends: below 0 it goes through, at 0 it touches one corner, above 0 it passes; in parts of a cell that are as small as the line is long.
func nearness(wide int, a int, b int, at int) int {
	dx, dy := b%wide-a%wide, b/wide-a/wide
	across := dx*(at/wide-a/wide) - dy*(at%wide-a%wide)
	return 2*max(across, -across) - max(dx, -dx) - max(dy, -dy)
}

// Long lines that go through no more than a corner, that touch one, and that pass one by less than any cell.
func TestClearPastCornersByALittle(t *testing.T) {
	met := map[int]int{}
	for a := range mostWide * mostWide {
		for b := a + 1; b < mostWide*mostWide; b += 1 + (a+b)%5 {
			on, m := cellsOnLine(mostWide, a, b), open(mostWide, mostWide)
			lowX, highX := min(a%mostWide, b%mostWide), max(a%mostWide, b%mostWide)
			for at := a - a%mostWide; at <= b-b%mostWide+mostWide-1; at++ {
				near := nearness(mostWide, a, b, at)
				if at%mostWide < lowX || at%mostWide > highX || near < -2 || near > 2 {
					continue
				}
				m.Cells[at] = impl.CellWall
				if got := impl.Clear(m, a, b); got != (near > 0) || got != (on[at] == 0) {
					t.Fatalf("Clear of %d, %d past %d: %v, want %v", a, b, at, got, near > 0)
				}
				m.Cells[at] = 0
				met[near]++
			}
		}
	}
	for near := -2; near <= 2; near++ {
		if met[near] < 100 {
			t.Errorf("%d cells were so near: %d", met[near], near)
		}
	}
}

// All lines of drawn maps, of all kinds of sides, against the exact points of the line; ends that are not free, or none, too.
func TestClearOfDrawnMaps(t *testing.T) {
	r := rand.New(rand.NewSource(276))
	for range 40 {
		m := drawnCells(r, drawnBetween(r, 1, 9), drawnBetween(r, 1, 9), drawnBetween(r, 2, 20))
		for a := -1; a <= len(m.Cells); a++ {
			for b := -1; b <= a; b++ {
				checkClear(t, m, a, b)
			}
		}
	}
	for i := range 8 {
		m, clear := drawnCells(r, mostWide, mostWide, 8+8*i), 0
		for range 3000 {
			a, b := r.Intn(len(m.Cells)), r.Intn(len(m.Cells))
			checkClear(t, m, a, b)
			if impl.Clear(m, a, b) {
				clear++
			}
		}
		if clear == 0 || clear == 3000 {
			t.Errorf("of 3000 lines %d are clear", clear)
		}
	}
}

// There is nothing beyond the edge: lines along it are clear.
func TestClearAlongTheEdge(t *testing.T) {
	for _, sides := range [][2]int{{1, 1}, {1, mostWide}, {mostWide, 1}, {2, 2}, {mostWide, mostWide}} {
		m := open(sides[0], sides[1])
		corners := []int{0, sides[0] - 1, len(m.Cells) - sides[0], len(m.Cells) - 1}
		for _, a := range corners {
			for _, b := range corners {
				if !impl.Clear(m, a, b) {
					t.Errorf("Clear of %v, %d, %d is false", sides, a, b)
				}
			}
		}
	}
}

// A step is clear, and so is each leg of one that is clear the other way round.
func TestStepsAreClear(t *testing.T) {
	r := rand.New(rand.NewSource(277))
	for range 60 {
		m := drawnCells(r, drawnBetween(r, 1, 8), drawnBetween(r, 1, 8), 3)
		for a := range m.Cells {
			steps := stepsFrom(m, a)
			for b := range m.Cells {
				dx, dy := b%m.Wide-a%m.Wide, b/m.Wide-a/m.Wide
				if _, ok := steps[b]; a != b && upTo(1, dx, dy) && impl.Clear(m, a, b) != ok {
					t.Errorf("Clear of %v, %d, %d: %v, a step: %v", m, a, b, impl.Clear(m, a, b), ok)
				}
			}
		}
	}
}

func TestMostClearByHand(t *testing.T) {
	for _, c := range []struct {
		picture string
		from    int
		want    []int
	}{
		{".", 0, []int{0}},
		{"#", 0, nil},
		{"?", 0, nil},
		{"...", 0, []int{0, 1, 2}},
		{"...", 1, []int{0, 1, 2}},
		{"..#.", 0, []int{0, 1}},
		{"..#.", 3, []int{3}},
		{"..#.", 2, nil},
		{"...|.#.|...", 0, []int{0, 1, 2, 3, 6}},
		{"...|.#.|...", 1, []int{0, 1, 2}},
		{"...|.#.|...", 4, nil},
		{"###|#.#|###", 4, []int{4}},
		{".#.|#.#|.#.", 4, []int{4}},
		{".?.|?.?|.?.", 0, []int{0}},
		{"...|...|..#", 0, []int{0, 1, 2, 3, 4, 5, 6, 7}},
		{"....|....", 0, []int{0, 1, 2, 3, 4, 5, 6, 7}},
		{".#..|....", 4, []int{0, 4, 5, 6, 7}},
	} {
		m := cellsOf(c.picture)
		if got := impl.MostClear(m, c.from); !slices.Equal(got, c.want) {
			t.Errorf("MostClear of %q, %d: %v, want %v", c.picture, c.from, got, c.want)
		}
		checkMostClear(t, m, c.from)
	}
}

// From every cell of drawn maps, against Clear cell by cell: rising, with the cell itself; who is seen sees back.
func TestMostClearOfDrawnMaps(t *testing.T) {
	r := rand.New(rand.NewSource(278))
	for i := range 30 {
		wide, high := drawnBetween(r, 1, 9), drawnBetween(r, 1, 9)
		if i%10 == 0 {
			wide, high = mostWide, drawnBetween(r, 12, mostWide)
		}
		m := drawnCells(r, wide, high, drawnBetween(r, 2, 20))
		for from := -1; from <= len(m.Cells); from++ {
			if i%10 != 0 || from%16 == 5 {
				checkMostClear(t, m, from)
			}
			got := impl.MostClear(m, from)
			for at := range m.Cells {
				if slices.Contains(got, at) != impl.Clear(m, from, at) || slices.Contains(got, at) != impl.Clear(m, at, from) {
					t.Errorf("MostClear of %v, %d: %v, Clear of %d otherwise", m, from, got, at)
				}
			}
		}
	}
	m := open(mostWide, mostWide)
	for _, from := range []int{0, 15, 100, 240, 255} {
		if got := impl.MostClear(m, from); !slices.Equal(got, placesOf(m)) {
			t.Errorf("MostClear of all free cells, %d: %v", from, got)
		}
	}
}

// A cell that is shut in, by walls, by cells that are not known and by the edge, sees itself alone.
func TestMostClearOfACellThatIsShutIn(t *testing.T) {
	for wide := 1; wide <= 5; wide++ {
		for high := 1; high <= 5; high++ {
			for at := range wide * high {
				m := open(wide, high)
				for _, d := range []int{0, 2, 4, 6} {
					x, y := at%wide+eight[d][0], at/wide+eight[d][1]
					if freeAt(m, x, y) {
						m.Cells[y*wide+x] = 1 + d/2%2
					}
				}
				if got := impl.MostClear(m, at); !slices.Equal(got, []int{at}) {
					t.Errorf("MostClear of %v, %d: %v", m, at, got)
				}
				checkShortest(t, m, at, map[int]impl.Way{at: {Cells: []int{at}}})
			}
		}
	}
}
