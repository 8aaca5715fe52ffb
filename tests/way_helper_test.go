package tests

import (
	"cmp"
	"math/big"
	"math/rand"
	"slices"
	"strings"
	"testing"

	"loop.example/g00047/impl"
)

const (
	mostCost   = 1000000
	mostListed = 256
)

// fare is what a way costs.
type fare struct {
	straight int
	slant    int
}

func (f fare) isGood() bool {
	return min(f.straight, f.slant) >= 0 && max(f.straight, f.slant) <= mostCost
}

func (f fare) plus(g fare) fare { return fare{f.straight + g.straight, f.slant + g.slant} }

// cmp holds squares against each other where the two do not go the same way.
func (f fare) cmp(g fare) int {
	straight, slant := big.NewInt(int64(f.straight-g.straight)), big.NewInt(int64(f.slant-g.slant))
	if straight.Sign()*slant.Sign() >= 0 {
		return cmp.Compare(straight.Sign()+slant.Sign(), 0)
	}
	one, two := new(big.Int).Mul(straight, straight), new(big.Int).Mul(slant, slant)
	return straight.Sign() * one.Cmp(two.Lsh(two, 1))
}

// checkFares asks CmpCost of anything, in both orders, and each cost against itself.
func checkFares(t *testing.T, f fare, g fare) {
	t.Helper()
	for _, c := range [][2]fare{{f, g}, {g, f}, {f, f}, {g, g}} {
		want, good := 0, c[0].isGood() && c[1].isGood()
		if good {
			want = c[0].cmp(c[1])
		}
		if got, ok := impl.CmpCost(c[0].straight, c[0].slant, c[1].straight, c[1].slant); got != want || ok != good {
			t.Errorf("CmpCost of %v, %v: %d %v, want %d %v", c[0], c[1], got, ok, want, good)
		}
	}
}

// eight are the directions of steps, those along both x and y at the odd places.
var eight = [8][2]int{{1, 0}, {1, 1}, {0, 1}, {-1, 1}, {-1, 0}, {-1, -1}, {0, -1}, {1, -1}}

// freeAt: there is a cell at x, y, and it is free.
func freeAt(m impl.Cells, x int, y int) bool {
	return x >= 0 && y >= 0 && x < m.Wide && y < len(m.Cells)/m.Wide && m.Cells[y*m.Wide+x] == 0
}

// stepsFrom are all cells that one step leads to, and what each costs.
func stepsFrom(m impl.Cells, at int) map[int]fare {
	x, y, all := at%m.Wide, at/m.Wide, map[int]fare{}
	for i, d := range eight {
		next := (y+d[1])*m.Wide + x + d[0]
		switch {
		case !freeAt(m, x, y) || !freeAt(m, x+d[0], y+d[1]):
		case i%2 == 0:
			all[next] = fare{1, 0}
		case freeAt(m, x+d[0], y) && freeAt(m, x, y+d[1]):
			all[next] = fare{0, 1}
		}
	}
	return all
}

// isListed: of good cells, 1 to 256 free ones.
func isListed(m impl.Cells, cells []int) bool {
	return len(cells) >= 1 && len(cells) <= mostListed && !slices.ContainsFunc(cells, func(at int) bool { return !isFree(m, at) })
}

func exactWayCost(m impl.Cells, cells []int) (fare, bool) {
	if !isListed(m, cells) {
		return fare{}, false
	}
	sum := fare{}
	for i := range len(cells) - 1 {
		step, ok := stepsFrom(m, cells[i])[cells[i+1]]
		if !ok {
			return fare{}, false
		}
		sum = sum.plus(step)
	}
	return sum, true
}

// checkWayCost asks WayCost of anything.
func checkWayCost(t *testing.T, m impl.Cells, cells []int) {
	t.Helper()
	want, good := exactWayCost(m, cells)
	if straight, slant, ok := impl.WayCost(m, cells); ok != good || want != (fare{straight, slant}) {
		t.Errorf("WayCost of %v, %v: %d %d %v, want %v %v", m, cells, straight, slant, ok, want, good)
	}
}

// isBetter: it costs less, or as much, and its list is less.
func isBetter(a impl.Way, b impl.Way) bool {
	by := fare{a.Straight, a.Slant}.cmp(fare{b.Straight, b.Slant})
	return by < 0 || by == 0 && slices.Compare(a.Cells, b.Cells) < 0
}

func sameWay(a impl.Way, b impl.Way) bool {
	return slices.Equal(a.Cells, b.Cells) && a.Straight == b.Straight && a.Slant == b.Slant
}

// eachWay shows all ways that begin like this one, one by one, and come nowhere twice. (One that does costs more than the same one without the round.)
func eachWay(m impl.Cells, w impl.Way, see func(impl.Way)) {
	see(w)
	for next, step := range stepsFrom(m, w.Cells[len(w.Cells)-1]) {
		if !slices.Contains(w.Cells, next) {
			eachWay(m, impl.Way{Cells: append(slices.Clip(w.Cells), next), Straight: w.Straight + step.straight, Slant: w.Slant + step.slant}, see)
		}
	}
}

// bestOfAll are the best ways to all cells that have one, of all ways that there are.
func bestOfAll(m impl.Cells, from int) map[int]impl.Way {
	best := map[int]impl.Way{}
	if isFree(m, from) {
		eachWay(m, impl.Way{Cells: []int{from}}, func(w impl.Way) {
			to := w.Cells[len(w.Cells)-1]
			if known, ok := best[to]; !ok || isBetter(w, known) {
				best[to] = w
			}
		})
	}
	return best
}

// bestByRounds are the same, made better round by round until nothing gets better, a step at the end of a best way being enough for that.
func bestByRounds(m impl.Cells, from int) map[int]impl.Way {
	best := map[int]impl.Way{}
	if isFree(m, from) {
		best[from] = impl.Way{Cells: []int{from}}
	}
	for again := true; again; {
		again = false
		for at := range m.Cells {
			known, ok := best[at]
			if !ok {
				continue
			}
			for next, step := range stepsFrom(m, at) {
				w := impl.Way{Cells: append(slices.Clip(known.Cells), next), Straight: known.Straight + step.straight, Slant: known.Slant + step.slant}
				if was, ok := best[next]; !ok || isBetter(w, was) {
					best[next], again = w, true
				}
			}
		}
	}
	return best
}

// checkShortest holds ShortestWay from a cell to each number that may be one against the best ways.
func checkShortest(t *testing.T, m impl.Cells, from int, best map[int]impl.Way) {
	t.Helper()
	for to := -2; to < len(m.Cells)+2; to++ {
		want, good := best[to]
		got, ok := impl.ShortestWay(m, from, to)
		if ok != good || !sameWay(got, want) {
			t.Errorf("ShortestWay of %v, %d, %d: %v %v, want %v %v", m, from, to, got, ok, want, good)
		}
		if ok {
			checkIsWay(t, m, from, to, got)
		}
	}
}

// checkIsWay: it is a way from the one to the other, it costs what it tells, and it can be pulled.
func checkIsWay(t *testing.T, m impl.Cells, from int, to int, w impl.Way) {
	t.Helper()
	straight, slant, ok := impl.WayCost(m, w.Cells)
	if !ok || straight != w.Straight || slant != w.Slant || w.Cells[0] != from || w.Cells[len(w.Cells)-1] != to || len(w.Cells) != 1+straight+slant {
		t.Errorf("of %v, %d, %d: %v costs %d %d %v", m, from, to, w, straight, slant, ok)
	}
	if _, ok := impl.PulledWay(m, w.Cells); !ok {
		t.Errorf("of %v: %v is not pulled", m, w)
	}
}

// cellsOnLine are all cells that have a point in common with a line, by its points at equal parts: wherever it comes to the edge of a cell or leaves one, along x or along y, is one of them.
func cellsOnLine(wide int, a int, b int) map[int]int {
	x, y, dx, dy := a%wide, a/wide, b%wide-a%wide, b/wide-a/wide
	parts, on := 2*max(1, dx, -dx)*max(1, dy, -dy), map[int]int{}
	for k := range parts + 1 {
		px, py := x*parts+k*dx, y*parts+k*dy
		for cy := py/parts - 1; cy <= py/parts+1; cy++ {
			for cx := px/parts - 1; cx <= px/parts+1; cx++ {
				if upTo(parts, 2*(cx*parts-px), 2*(cy*parts-py)) {
					on[cy*wide+cx]++
				}
			}
		}
	}
	return on
}

func exactClear(m impl.Cells, a int, b int) bool {
	if !isFree(m, a) || !isFree(m, b) {
		return false
	}
	for at := range cellsOnLine(m.Wide, a, b) {
		if m.Cells[at] != 0 {
			return false
		}
	}
	return true
}

// checkClear asks Clear of anything, there and back.
func checkClear(t *testing.T, m impl.Cells, a int, b int) {
	t.Helper()
	want := exactClear(m, a, b)
	if there, back := impl.Clear(m, a, b), impl.Clear(m, b, a); there != want || back != want {
		t.Errorf("Clear of %v, %d, %d: %v, and back %v, want %v", m, a, b, there, back, want)
	}
}

// checkMostClear asks MostClear of anything.
func checkMostClear(t *testing.T, m impl.Cells, from int) {
	t.Helper()
	want := []int{}
	for at := range m.Cells {
		if exactClear(m, from, at) {
			want = append(want, at)
		}
	}
	got := impl.MostClear(m, from)
	if !slices.Equal(got, want) || slices.Contains(got, from) != isFree(m, from) {
		t.Errorf("MostClear of %v, %d: %v, want %v", m, from, got, want)
	}
}

// isPulled: it may be asked to be pulled.
func isPulled(m impl.Cells, cells []int) bool {
	if !isListed(m, cells) {
		return false
	}
	for i := range len(cells) - 1 {
		if !exactClear(m, cells[i], cells[i+1]) {
			return false
		}
	}
	return true
}

// exactPulled goes by the words of the document.
func exactPulled(m impl.Cells, cells []int) ([]int, bool) {
	if !isPulled(m, cells) {
		return nil, false
	}
	left := cells[:1]
	for taken := 0; taken != len(cells)-1; {
		from := taken
		for i := from + 1; i < len(cells); i++ {
			if exactClear(m, cells[from], cells[i]) {
				taken = i
			}
		}
		left = append(slices.Clip(left), cells[taken])
	}
	return left, true
}

// checkPulled asks PulledWay of anything.
func checkPulled(t *testing.T, m impl.Cells, cells []int) {
	t.Helper()
	want, good := exactPulled(m, cells)
	got, ok := impl.PulledWay(m, cells)
	if ok != good || !slices.Equal(got, want) {
		t.Errorf("PulledWay of %v, %v: %v %v, want %v %v", m, cells, got, ok, want, good)
	}
	if !ok {
		return
	}
	if got[0] != cells[0] || got[len(got)-1] != cells[len(cells)-1] || len(got) > len(cells) {
		t.Errorf("PulledWay of %v, %v: %v", m, cells, got)
	}
	for i := range len(got) - 1 {
		if !impl.Clear(m, got[i], got[i+1]) {
			t.Errorf("PulledWay of %v, %v: the leg %d of %v is not clear", m, cells, i, got)
		}
	}
}

// checkList asks of any list what takes one.
func checkList(t *testing.T, m impl.Cells, cells []int) {
	t.Helper()
	checkWayCost(t, m, cells)
	checkPulled(t, m, cells)
}

// checkTwo asks of any two numbers what takes them.
func checkTwo(t *testing.T, m impl.Cells, a int, b int) {
	t.Helper()
	checkClear(t, m, a, b)
	checkMostClear(t, m, a)
	want, good := impl.Way{}, false
	if isFree(m, a) {
		want, good = bestByRounds(m, a)[b]
	}
	if got, ok := impl.ShortestWay(m, a, b); ok != good || !sameWay(got, want) {
		t.Errorf("ShortestWay of %v, %d, %d: %v %v, want %v %v", m, a, b, got, ok, want, good)
	}
}

// checkNoList: neither WayCost nor PulledWay have an answer.
func checkNoList(t *testing.T, m impl.Cells, cells []int) {
	t.Helper()
	if straight, slant, ok := impl.WayCost(m, cells); straight != 0 || slant != 0 || ok {
		t.Errorf("WayCost of %v, %v: %d %d %v", m, cells, straight, slant, ok)
	}
	if got, ok := impl.PulledWay(m, cells); len(got) != 0 || ok {
		t.Errorf("PulledWay of %v, %v: %v %v", m, cells, got, ok)
	}
}

// checkNoTwo: neither ShortestWay nor Clear have an answer, in either order.
func checkNoTwo(t *testing.T, m impl.Cells, a int, b int) {
	t.Helper()
	for _, c := range [][2]int{{a, b}, {b, a}} {
		if got, ok := impl.ShortestWay(m, c[0], c[1]); ok || !sameWay(got, impl.Way{}) {
			t.Errorf("ShortestWay of %v, %v: %v %v", m, c, got, ok)
		}
		if impl.Clear(m, c[0], c[1]) {
			t.Errorf("Clear of %v, %v", m, c)
		}
	}
}

// snake goes through all cells, row by row, there and back.
func snake(wide int, high int) []int {
	cells := []int{}
	for y := range high {
		for x := range wide {
			if y%2 == 1 {
				x = wide - 1 - x
			}
			cells = append(cells, y*wide+x)
		}
	}
	return cells
}

// winding has walls in every second row, each with one gap, at one end and at the other by turns.
func winding(wide int, high int) impl.Cells {
	rows := []string{}
	for y := range high {
		walls := strings.Repeat("#", wide-1)
		rows = append(rows, []string{strings.Repeat(".", wide), walls + ".", strings.Repeat(".", wide), "." + walls}[y%4])
	}
	return cellsOf(strings.Join(rows, "|"))
}

// spiral leads from the corner to the middle, walls of one cell between: it turns where the edge is next, or a wall and then itself.
func spiral(wide int) impl.Cells {
	m := impl.Cells{Wide: wide, Cells: slices.Repeat([]int{impl.CellWall}, wide*wide)}
	x, y, way := 0, 0, 0
	for turns := 0; turns < 2; {
		m.Cells[y*wide+x] = impl.CellFree
		d := eight[2*way]
		if nx, ny := x+d[0], y+d[1]; min(nx, ny) < 0 || max(nx, ny) >= wide || freeAt(m, nx, ny) || freeAt(m, nx+d[0], ny+d[1]) {
			way, turns = (way+1)%4, turns+1
		} else {
			x, y, turns = nx, ny, 0
		}
	}
	return m
}

// drawnStroll takes steps, or legs that are clear, from a free cell on, back and forth as it comes.
func drawnStroll(r *rand.Rand, m impl.Cells, long int, legs bool) []int {
	free := placesOf(m)
	if len(free) == 0 {
		return nil
	}
	cells := []int{free[r.Intn(len(free))]}
	for len(cells) < long {
		last, next := cells[len(cells)-1], []int{}
		for _, at := range free {
			if _, ok := stepsFrom(m, last)[at]; ok || legs && exactClear(m, last, at) {
				next = append(next, at)
			}
		}
		if len(next) == 0 {
			break
		}
		cells = append(cells, next[r.Intn(len(next))])
	}
	return cells
}
