package tests

import (
	"math"
	"math/rand"
	"slices"
	"testing"

	"loop.example/g00047/impl"
)

func wallOf(x1 int, y1 int, x2 int, y2 int) impl.Wall {
	return impl.Wall{X1: x1, Y1: y1, X2: x2, Y2: y2}
}

type rayCase struct {
	name  string
	walls []impl.Wall
	from  [2]int
	way   [2]int
	at    string
	wall  int
}

// rayCases: at is empty where nothing is hit.
func rayCases() []rayCase {
	post, floor := wallOf(5, -1, 5, 1), wallOf(2, 0, 6, 0)
	slope := wallOf(0, 4, 4, 0)
	return []rayCase{
		{"no walls", nil, [2]int{0, 0}, [2]int{1, 0}, "", 0},
		{"the nearer of two", []impl.Wall{post, wallOf(2, -1, 3, 1)}, [2]int{0, 0}, [2]int{1, 0}, "5/2", 1},
		{"the way is longer", []impl.Wall{post}, [2]int{0, 0}, [2]int{2, 0}, "5/2", 0},
		{"the way is as long", []impl.Wall{post}, [2]int{0, 0}, [2]int{5, 0}, "1", 0},
		{"the way is longer than that", []impl.Wall{post}, [2]int{0, 0}, [2]int{1000, 0}, "1/200", 0},
		{"aslant", []impl.Wall{slope}, [2]int{0, 0}, [2]int{1, 1}, "2", 0},
		{"aslant to a third", []impl.Wall{slope}, [2]int{0, 0}, [2]int{2, 1}, "4/3", 0},
		{"its other ends first", []impl.Wall{wallOf(4, 0, 0, 4)}, [2]int{0, 0}, [2]int{2, 1}, "4/3", 0},
		{"from the other side", []impl.Wall{slope}, [2]int{4, 4}, [2]int{-1, -1}, "2", 0},
		{"its first end", []impl.Wall{slope}, [2]int{0, 0}, [2]int{0, 1}, "4", 0},
		{"its second end", []impl.Wall{slope}, [2]int{0, 0}, [2]int{1, 0}, "4", 0},
		{"just beside its end", []impl.Wall{slope}, [2]int{0, 0}, [2]int{-1, 1000}, "", 0},
		{"just beside its other end", []impl.Wall{slope}, [2]int{0, 0}, [2]int{1000, -1}, "", 0},
		{"just within its end", []impl.Wall{slope}, [2]int{0, 0}, [2]int{999, 1}, "1/250", 0},
		{"an end from above", []impl.Wall{post}, [2]int{4, 2}, [2]int{1, -1}, "1", 0},
		{"behind", []impl.Wall{post}, [2]int{0, 0}, [2]int{-1, 0}, "", 0},
		{"just behind", []impl.Wall{post}, [2]int{6, 0}, [2]int{1, 0}, "", 0},
		{"its end is behind", []impl.Wall{post}, [2]int{6, 1}, [2]int{1, 0}, "", 0},
		{"beside it, along", []impl.Wall{floor}, [2]int{0, 1}, [2]int{1, 0}, "", 0},
		{"beside it, along, below", []impl.Wall{floor}, [2]int{3, -1}, [2]int{1, 0}, "", 0},
		{"along, from ahead of it", []impl.Wall{floor}, [2]int{0, 0}, [2]int{1, 0}, "2", 0},
		{"along, by two", []impl.Wall{floor}, [2]int{1, 0}, [2]int{2, 0}, "1/2", 0},
		{"along, from the other end", []impl.Wall{floor}, [2]int{9, 0}, [2]int{-2, 0}, "3/2", 0},
		{"along, from within", []impl.Wall{floor}, [2]int{3, 0}, [2]int{1, 0}, "0", 0},
		{"along, from within, back", []impl.Wall{floor}, [2]int{3, 0}, [2]int{-1, 0}, "0", 0},
		{"along, from its end", []impl.Wall{floor}, [2]int{2, 0}, [2]int{1, 0}, "0", 0},
		{"along, from its other end", []impl.Wall{floor}, [2]int{6, 0}, [2]int{-1, 0}, "0", 0},
		{"from its end, away from it", []impl.Wall{floor}, [2]int{2, 0}, [2]int{-1, 0}, "0", 0},
		{"from its other end, away from it", []impl.Wall{floor}, [2]int{6, 0}, [2]int{7, 0}, "0", 0},
		{"along, away from it", []impl.Wall{floor}, [2]int{7, 0}, [2]int{1, 0}, "", 0},
		{"along, away from its first end", []impl.Wall{floor}, [2]int{1, 0}, [2]int{-1, 0}, "", 0},
		{"along aslant", []impl.Wall{slope}, [2]int{-2, 6}, [2]int{3, -3}, "2/3", 0},
		{"along upright", []impl.Wall{post}, [2]int{5, -8}, [2]int{0, 14}, "1/2", 0},
		{"along upright, down", []impl.Wall{post}, [2]int{5, 4}, [2]int{0, -2}, "3/2", 0},
		{"starts on it, goes through", []impl.Wall{post}, [2]int{5, 0}, [2]int{1, 0}, "0", 0},
		{"starts on it aslant", []impl.Wall{slope}, [2]int{2, 2}, [2]int{-3, 1}, "0", 0},
		{"starts at its end, goes off", []impl.Wall{post}, [2]int{5, 1}, [2]int{1, 1}, "0", 0},
		{"starts on a later one", []impl.Wall{post, slope}, [2]int{2, 2}, [2]int{3, -2}, "0", 1},
		{"two walls that are one", []impl.Wall{post, post}, [2]int{0, 0}, [2]int{1, 0}, "5", 0},
		{"one lies on the other", []impl.Wall{wallOf(5, 1, 5, -1), wallOf(5, -9, 5, 9)}, [2]int{0, 0}, [2]int{1, 0}, "5", 0},
		{"they cross there", []impl.Wall{wallOf(9, 9, 9, -9), wallOf(4, -1, 6, 1), wallOf(4, 1, 6, -1)}, [2]int{0, 0}, [2]int{1, 0}, "5", 1},
		{"they share an end", []impl.Wall{wallOf(5, 0, 7, 3), wallOf(5, 0, 7, -3)}, [2]int{0, 0}, [2]int{1, 0}, "5", 0},
		{"they share an end, the other first", []impl.Wall{wallOf(7, -3, 5, 0), wallOf(7, 3, 5, 0)}, [2]int{0, 0}, [2]int{1, 0}, "5", 0},
		{"one across, one along, from there", []impl.Wall{floor, wallOf(2, -1, 2, 1)}, [2]int{0, 0}, [2]int{1, 0}, "2", 0},
		{"one across, one along, told later", []impl.Wall{wallOf(2, -1, 2, 1), floor}, [2]int{0, 0}, [2]int{1, 0}, "2", 0},
		{"from where they cross", []impl.Wall{wallOf(9, 9, 9, 8), wallOf(-1, -1, 1, 1), wallOf(-1, 1, 1, -1)}, [2]int{0, 0}, [2]int{0, 1}, "0", 1},
		{"one ahead, one behind", []impl.Wall{wallOf(-1, -1, -1, 1), post}, [2]int{0, 0}, [2]int{1, 0}, "5", 1},
		{"the last one", []impl.Wall{wallOf(9, -1, 9, 1), wallOf(8, -1, 8, 1), wallOf(7, -1, 7, 1)}, [2]int{0, 0}, [2]int{1, 0}, "7", 2},
		{"as far as can be", []impl.Wall{wallOf(1000, -1000, 1000, 1000)}, [2]int{-1000, -1000}, [2]int{1, 1}, "2000", 0},
		{"as far, in one way", []impl.Wall{wallOf(1000, 1000, 1000, -1000)}, [2]int{-1000, 0}, [2]int{1000, 1000}, "", 0},
		{"from corner to corner", []impl.Wall{wallOf(1000, 1000, 1000, -1000)}, [2]int{-1000, -1000}, [2]int{1000, 1000}, "2", 0},
		{"a ray that goes wide", []impl.Wall{wallOf(-1000, 999, 1000, 1000)}, [2]int{-1000, -1000}, [2]int{1, 1000}, "3998000/1999999", 0},
	}
}

func TestRays(t *testing.T) {
	for _, c := range rayCases() {
		at, wall, ok := impl.RayHit(c.walls, c.from[0], c.from[1], c.way[0], c.way[1])
		if at != c.at || wall != c.wall || ok != (c.at != "") {
			t.Errorf("%s: %q %d %v, want %q %d", c.name, at, wall, ok, c.at, c.wall)
		}
		checkHit(t, c.walls, c.from[0], c.from[1], c.way[0], c.way[1])
		if l, ok := impl.ScanOf(c.walls, c.from[0], c.from[1], [][]int{c.way[:]}); !slices.Equal(l, []string{c.at}) || !ok {
			t.Errorf("%s: ScanOf %q %v, want %q", c.name, l, ok, c.at)
		}
	}
}

// Two walls as near: the first one, in whichever order they stand.
func TestWallsThatAreMetAtOnePlace(t *testing.T) {
	for _, l := range [][]impl.Wall{
		{wallOf(5, 0, 7, 3), wallOf(5, 0, 7, -3), wallOf(5, 0, 9, 0), wallOf(5, 2, 5, -2), wallOf(4, 3, 6, -3)},
		{wallOf(5, 0, 1000, 1), wallOf(0, 10, 10, -10), wallOf(-1000, 1000, 5, 0)},
	} {
		for i := range l {
			for k := range l {
				if i == k {
					continue
				}
				far := wallOf(6, -3, 6, 3)
				for _, walls := range [][]impl.Wall{{l[i], l[k]}, {far, l[i], l[k]}, {l[i], far, l[k]}, {l[i], l[k], far}} {
					at, wall, ok := impl.RayHit(walls, 0, 0, 2, 0)
					if want := slices.Index(walls, l[i]); at != "5/2" || wall != want || !ok {
						t.Errorf("RayHit of %v: %q %d %v, want %d", walls, at, wall, ok, want)
					}
					checkHit(t, walls, 0, 0, 2, 0)
				}
			}
		}
	}
}

// All walls of small numbers, from everywhere along everything.
func TestRaysOfSmallNumbers(t *testing.T) {
	for w := range 625 {
		wall := wallOf(w%5-2, w/5%5-2, w/25%5-2, w/125-2)
		if wall.X1 == wall.X2 && wall.Y1 == wall.Y2 {
			continue
		}
		for i := range 625 {
			checkHit(t, []impl.Wall{wall}, i%5-2, i/5%5-2, i/25%5-2, i/125-2)
		}
	}
}

func TestDrawnRays(t *testing.T) {
	r := rand.New(rand.NewSource(117))
	for _, most := range []int{1, 2, 3, 5, 20, mostPlace} {
		for range 400 {
			l := drawnWalls(r, r.Intn(mostWalls+1), most)
			for range 5 {
				way := drawnWay(r, most)
				checkHit(t, l, drawnBetween(r, -most, most), drawnBetween(r, -most, most), way[0], way[1])
			}
		}
	}
}

// Rays to an end of a wall or to a place within one, by a part or a multiple of the way, from far off and from on it.
func TestRaysToWalls(t *testing.T) {
	r := rand.New(rand.NewSource(118))
	for range 3000 {
		l := drawnWalls(r, 1+r.Intn(4), 200)
		w := l[r.Intn(len(l))]
		part := r.Intn(6)
		x, y := 5*w.X1+part*(w.X2-w.X1), 5*w.Y1+part*(w.Y2-w.Y1)
		for i := range l {
			l[i] = wallOf(5*l[i].X1, 5*l[i].Y1, 5*l[i].X2, 5*l[i].Y2)
		}
		way := drawnWay(r, 10)
		back := drawnBetween(r, -3, 10)
		if upTo(mostPlace, x-back*way[0], y-back*way[1]) {
			checkHit(t, l, x-back*way[0], y-back*way[1], way[0], way[1])
		}
		if s, _, ok := impl.RayHit(l, x, y, way[0], way[1]); s != "0" || !ok {
			t.Errorf("RayHit of %v from %d, %d: %q %v", l, x, y, s, ok)
		}
	}
}

func TestDrawnScans(t *testing.T) {
	r := rand.New(rand.NewSource(119))
	for n := range mostCounts + 3 {
		for _, most := range []int{2, 10, mostPlace} {
			rays := make([][]int, n)
			for i := range rays {
				rays[i] = drawnWay(r, most)
			}
			checkScan(t, drawnWalls(r, r.Intn(mostWalls+1), most), drawnBetween(r, -most, most), drawnBetween(r, -most, most), rays)
		}
	}
}

func TestScans(t *testing.T) {
	room := []impl.Wall{wallOf(-3, -2, 4, -2), wallOf(4, -2, 4, 5), wallOf(4, 5, -3, 5)}
	rays := [][]int{{1, 0}, {0, 1}, {-1, 0}, {0, -1}, {1, 1}, {3, -2}, {-1, 1}, {-1, 2}, {-1000, 1}, {-6, -7}}
	want := []string{"4", "5", "", "2", "4", "1", "", "5/2", "", "2/7"}
	if l, ok := impl.ScanOf(room, 0, 0, rays); !slices.Equal(l, want) || !ok {
		t.Errorf("ScanOf: %q %v, want %q", l, ok, want)
	}
	checkScan(t, room, 0, 0, rays)
	if l, ok := impl.ScanOf(nil, 1, 2, rays); !slices.Equal(l, make([]string, len(rays))) || !ok {
		t.Errorf("ScanOf of no walls: %q %v", l, ok)
	}
}

func TestScansOfManyRays(t *testing.T) {
	l := []impl.Wall{wallOf(2, -1, 2, 1)}
	for _, n := range []int{1, mostCounts} {
		rays := slices.Repeat([][]int{{1, 0}}, n)
		if told, ok := impl.ScanOf(l, 0, 0, rays); !slices.Equal(told, slices.Repeat([]string{"2"}, n)) || !ok {
			t.Errorf("ScanOf of %d rays: %q %v", n, told, ok)
		}
	}
	for _, n := range []int{mostCounts + 1, mostCounts + 2, 1000} {
		checkNoScan(t, l, 0, 0, slices.Repeat([][]int{{1, 0}}, n))
		checkNoScan(t, nil, 0, 0, slices.Repeat([][]int{{1, 0}}, n))
	}
}

// With no rays nothing is asked of x and y, but the walls are to be good.
func TestScansOfNoRays(t *testing.T) {
	for _, at := range []int{0, mostPlace, mostPlace + 1, -mostPlace - 1, math.MaxInt, math.MinInt} {
		for _, rays := range [][][]int{nil, {}} {
			for _, l := range [][]impl.Wall{nil, {}, {wallOf(0, 0, 1, 1)}} {
				if told, ok := impl.ScanOf(l, at, -at, rays); len(told) != 0 || !ok {
					t.Errorf("ScanOf of no rays from %d: %q %v", at, told, ok)
				}
				checkScan(t, l, at, 0, rays)
				checkScan(t, l, 0, at, rays)
			}
			checkNoScan(t, []impl.Wall{wallOf(0, 0, 0, 0)}, at, at, rays)
			checkNoScan(t, []impl.Wall{wallOf(0, 0, 0, mostPlace+1)}, at, at, rays)
			checkNoScan(t, slices.Repeat([]impl.Wall{wallOf(0, 0, 1, 1)}, mostWalls+1), at, at, rays)
		}
	}
}

func checkNoScan(t *testing.T, l []impl.Wall, x int, y int, rays [][]int) {
	t.Helper()
	if told, ok := impl.ScanOf(l, x, y, rays); len(told) != 0 || ok {
		t.Errorf("ScanOf of %v from %d, %d along %.200v: %q %v", l, x, y, rays, told, ok)
	}
	checkScan(t, l, x, y, rays)
}
