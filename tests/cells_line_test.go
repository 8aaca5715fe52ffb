package tests

import (
	"math"
	"math/rand"
	"slices"
	"testing"

	"loop.example/g00047/impl"
)

func TestLimitsOfCells(t *testing.T) {
	if impl.MaxWide != mostWide || impl.CellFree != 0 || impl.CellWall != 1 || impl.CellOpen != 2 {
		t.Error(impl.MaxWide, impl.CellFree, impl.CellWall, impl.CellOpen)
	}
}

func TestLines(t *testing.T) {
	for _, c := range []struct {
		ends [4]int
		want [][]int
	}{
		{[4]int{0, 0, 0, 0}, [][]int{{0, 0}}},
		{[4]int{-7, 9, -7, 9}, [][]int{{-7, 9}}},
		{[4]int{1000, -1000, 1000, -1000}, [][]int{{1000, -1000}}},
		{[4]int{0, 0, 1, 0}, [][]int{{0, 0}, {1, 0}}},
		{[4]int{5, 7, 8, 7}, [][]int{{5, 7}, {6, 7}, {7, 7}, {8, 7}}},
		{[4]int{8, 7, 5, 7}, [][]int{{8, 7}, {7, 7}, {6, 7}, {5, 7}}},
		{[4]int{5, 7, 5, 10}, [][]int{{5, 7}, {5, 8}, {5, 9}, {5, 10}}},
		{[4]int{5, 10, 5, 7}, [][]int{{5, 10}, {5, 9}, {5, 8}, {5, 7}}},
		{[4]int{1, 1, 3, 3}, [][]int{{1, 1}, {2, 2}, {3, 3}}},
		{[4]int{1, 1, -1, 3}, [][]int{{1, 1}, {0, 2}, {-1, 3}}},
		{[4]int{1, 1, 3, -1}, [][]int{{1, 1}, {2, 0}, {3, -1}}},
		{[4]int{3, 3, 1, 1}, [][]int{{3, 3}, {2, 2}, {1, 1}}},
		{[4]int{0, 0, 2, 1}, [][]int{{0, 0}, {1, 0}, {2, 1}}},
		{[4]int{2, 1, 0, 0}, [][]int{{2, 1}, {1, 1}, {0, 0}}},
		{[4]int{0, 0, -2, 1}, [][]int{{0, 0}, {-1, 0}, {-2, 1}}},
		{[4]int{0, 0, 2, -1}, [][]int{{0, 0}, {1, 0}, {2, -1}}},
		{[4]int{0, 0, 1, 2}, [][]int{{0, 0}, {0, 1}, {1, 2}}},
		{[4]int{1, 2, 0, 0}, [][]int{{1, 2}, {1, 1}, {0, 0}}},
		{[4]int{0, 0, -1, 2}, [][]int{{0, 0}, {0, 1}, {-1, 2}}},
		{[4]int{0, 0, 1, -2}, [][]int{{0, 0}, {0, -1}, {1, -2}}},
		{[4]int{0, 0, 4, 1}, [][]int{{0, 0}, {1, 0}, {2, 0}, {3, 1}, {4, 1}}},
		{[4]int{4, 1, 0, 0}, [][]int{{4, 1}, {3, 1}, {2, 1}, {1, 0}, {0, 0}}},
		{[4]int{0, 0, 3, 1}, [][]int{{0, 0}, {1, 0}, {2, 1}, {3, 1}}},
		{[4]int{0, 0, 3, 2}, [][]int{{0, 0}, {1, 1}, {2, 1}, {3, 2}}},
		{[4]int{0, 0, 5, 2}, [][]int{{0, 0}, {1, 0}, {2, 1}, {3, 1}, {4, 2}, {5, 2}}},
		{[4]int{0, 0, 6, 4}, [][]int{{0, 0}, {1, 1}, {2, 1}, {3, 2}, {4, 3}, {5, 3}, {6, 4}}},
		{[4]int{0, 0, 4, 3}, [][]int{{0, 0}, {1, 1}, {2, 1}, {3, 2}, {4, 3}}},
		{[4]int{0, 0, 3, 4}, [][]int{{0, 0}, {1, 1}, {1, 2}, {2, 3}, {3, 4}}},
		{[4]int{0, 0, -3, -4}, [][]int{{0, 0}, {-1, -1}, {-1, -2}, {-2, -3}, {-3, -4}}},
		{[4]int{998, 1000, 1000, 999}, [][]int{{998, 1000}, {999, 1000}, {1000, 999}}},
		{[4]int{-999, -998, -1000, -1000}, [][]int{{-999, -998}, {-999, -999}, {-1000, -1000}}},
	} {
		if got := impl.LineCells(c.ends[0], c.ends[1], c.ends[2], c.ends[3]); !slices.EqualFunc(got, c.want, slices.Equal) {
			t.Errorf("LineCells of %v: %v, want %v", c.ends, got, c.want)
		}
		checkLine(t, c.ends[0], c.ends[1], c.ends[2], c.ends[3])
	}
}

// checkFromEndToEnd: what a line is, whatever its rule.
func checkFromEndToEnd(t *testing.T, x1 int, y1 int, x2 int, y2 int) {
	t.Helper()
	line, long := impl.LineCells(x1, y1, x2, y2), max(x2-x1, x1-x2, y2-y1, y1-y2)
	if len(line) != long+1 || !slices.Equal(line[0], []int{x1, y1}) || !slices.Equal(line[long], []int{x2, y2}) {
		t.Fatalf("LineCells of %d, %d, %d, %d: %v", x1, y1, x2, y2, line)
	}
	for k, cell := range line {
		if len(cell) != 2 {
			t.Fatalf("LineCells of %d, %d, %d, %d: %v is no cell", x1, y1, x2, y2, cell)
		}
		if k > 0 && !(upTo(1, cell[0]-line[k-1][0], cell[1]-line[k-1][1]) && !slices.Equal(cell, line[k-1])) {
			t.Fatalf("LineCells of %d, %d, %d, %d: from %v to %v", x1, y1, x2, y2, line[k-1], cell)
		}
	}
}

func TestLinesOfAllSmallSides(t *testing.T) {
	for dx := -24; dx <= 24; dx++ {
		for dy := -24; dy <= 24; dy++ {
			for _, from := range [][]int{{0, 0}, {3, -11}, {-24, 24}, {-900, 976}} {
				checkLine(t, from[0], from[1], from[0]+dx, from[1]+dy)
				checkFromEndToEnd(t, from[0], from[1], from[0]+dx, from[1]+dy)
			}
		}
	}
}

func TestDrawnLines(t *testing.T) {
	r := rand.New(rand.NewSource(179))
	for range 3000 {
		most := []int{30, 200, mostEnd}[r.Intn(3)]
		ends := [4]int{}
		for i := range ends {
			ends[i] = drawnBetween(r, -most, most)
		}
		checkLine(t, ends[0], ends[1], ends[2], ends[3])
		checkFromEndToEnd(t, ends[0], ends[1], ends[2], ends[3])
	}
}

// In each of the eight directions the tests meet f that is just -ay, just ax, and between them.
func TestTiesOfLines(t *testing.T) {
	for _, sx := range []int{1, -1} {
		for _, sy := range []int{1, -1} {
			for _, steep := range []bool{false, true} {
				met, n := ties{}, 0
				for long := 1; long <= 40; long++ {
					for short := range long {
						ax, ay := long, short
						if steep {
							ax, ay = short, long
						}
						_, one := ruledLine(2, -3, 2+sx*ax, -3+sy*ay)
						if one.ax+one.ay > 0 {
							n++
						}
						met = ties{met.ay + one.ay, met.ax + one.ax, met.both + one.both}
						checkLine(t, 2, -3, 2+sx*ax, -3+sy*ay)
					}
				}
				if n < 100 || met.both < 100 || met.ay+met.ax < 100 || steep && met.ay < 100 || !steep && met.ax < 100 {
					t.Errorf("%d, %d, %v: %d lines with ties, %v", sx, sy, steep, n, met)
				}
			}
		}
	}
}

// A tie stays at the side of the first end, so that the line back goes by the other cell.
func TestLinesBackAtTies(t *testing.T) {
	for half := 1; half <= 500; half++ {
		there, back := impl.LineCells(0, 0, 2*half, 1), impl.LineCells(2*half, 1, 0, 0)
		if there[half][1] != 0 || there[half+1][1] != 1 || back[half][1] != 1 || back[half+1][1] != 0 {
			t.Errorf("LineCells at the half of %d: %v, %v, back %v, %v", 2*half, there[half], there[half+1], back[half], back[half+1])
		}
		up, down := impl.LineCells(0, 0, 1, 2*half), impl.LineCells(1, 2*half, 0, 0)
		if up[half][0] != 0 || up[half+1][0] != 1 || down[half][0] != 1 || down[half+1][0] != 0 {
			t.Errorf("LineCells at the half of %d: %v, %v, back %v, %v", 2*half, up[half], up[half+1], down[half], down[half+1])
		}
	}
}

// Lines of sides with an odd longer one have no ties: there and back they have the same cells.
func TestLinesWithoutTiesAreTheSameBack(t *testing.T) {
	for long := 1; long <= 41; long += 2 {
		for short := range long + 1 {
			there, back := impl.LineCells(-5, 5, long-5, 5-short), impl.LineCells(long-5, 5-short, -5, 5)
			slices.Reverse(back)
			if !slices.EqualFunc(there, back, slices.Equal) {
				t.Errorf("LineCells of the sides %d, %d: %v, back %v", long, short, there, back)
			}
		}
	}
}

func TestEndsOfLines(t *testing.T) {
	edges := []int{-mostEnd, mostEnd, 0}
	for _, x1 := range edges {
		for _, y1 := range edges {
			for _, x2 := range edges {
				for _, y2 := range edges {
					checkLine(t, x1, y1, x2, y2)
					checkFromEndToEnd(t, x1, y1, x2, y2)
				}
			}
		}
	}
	for place := range 4 {
		for _, edge := range []int{mostEnd, -mostEnd, mostEnd - 1, 1 - mostEnd} {
			ends := [4]int{3, -4, 5, 6}
			ends[place] = edge
			checkLine(t, ends[0], ends[1], ends[2], ends[3])
			checkFromEndToEnd(t, ends[0], ends[1], ends[2], ends[3])
		}
		for _, beyond := range []int{mostEnd + 1, -mostEnd - 1, math.MaxInt, math.MinInt, math.MaxInt - 1, math.MinInt + 1} {
			for _, ends := range [][4]int{{}, {3, -4, 5, 6}, {mostEnd, mostEnd, mostEnd, mostEnd}, {-mostEnd, -mostEnd, -mostEnd, -mostEnd}, {beyond, beyond, beyond, beyond}} {
				ends[place] = beyond
				if got := impl.LineCells(ends[0], ends[1], ends[2], ends[3]); len(got) != 0 {
					t.Errorf("LineCells of %v: %v", ends, got)
				}
			}
		}
	}
	// Ends that are near to one another do not make up for being beyond.
	for _, n := range []int{mostEnd + 1, -mostEnd - 1, math.MaxInt, math.MinInt} {
		for _, ends := range [][4]int{{n, 0, n, 0}, {0, n, 0, n}, {n, n, n, n}, {n, -n, n, -n}} {
			if got := impl.LineCells(ends[0], ends[1], ends[2], ends[3]); len(got) != 0 {
				t.Errorf("LineCells of %v: %v", ends, got)
			}
		}
	}
}
