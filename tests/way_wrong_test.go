package tests

import (
	"maps"
	"math"
	"math/rand"
	"slices"
	"sync"
	"testing"

	"loop.example/g00047/impl"
)

func TestWrongNumbersInCosts(t *testing.T) {
	for _, wrong := range append([]int{-1, mostCost + 1, -mostCost, 2 * mostCost, 1 << 32, -1 << 32, 1 << 62, -1 << 62}, farInts...) {
		for _, beside := range []int{0, 1, mostCost, wrong} {
			for place := range 4 {
				n := [4]int{beside, beside, beside, beside}
				n[place] = wrong
				if got, ok := impl.CmpCost(n[0], n[1], n[2], n[3]); got != 0 || ok {
					t.Errorf("CmpCost of %v: %d %v", n, got, ok)
				}
			}
		}
	}
	for place := range 4 {
		for _, good := range []int{0, 1, mostCost - 1, mostCost} {
			n := [4]int{}
			n[place] = good
			if _, ok := impl.CmpCost(n[0], n[1], n[2], n[3]); !ok {
				t.Errorf("CmpCost of %v is false", n)
			}
		}
	}
}

// checkNoMap: cells that are not good have the zero answer everywhere.
func checkNoMap(t *testing.T, m impl.Cells) {
	t.Helper()
	if impl.GoodCells(m) {
		t.Fatalf("%v are good", m)
	}
	all := append([]int{0, 1, len(m.Cells) - 1, len(m.Cells), -1}, math.MaxInt, math.MinInt)
	for _, a := range all {
		for _, b := range all {
			checkNoTwo(t, m, a, b)
			checkNoList(t, m, []int{a, b})
		}
		checkNoList(t, m, []int{a})
		if got := impl.MostClear(m, a); len(got) != 0 {
			t.Errorf("MostClear of %v, %d: %v", m, a, got)
		}
	}
	checkNoList(t, m, nil)
	checkNoList(t, m, []int{})
}

func TestWaysOfWrongSides(t *testing.T) {
	for _, m := range manySides() {
		if !isCells(m) {
			checkNoMap(t, m)
			continue
		}
		last := len(m.Cells) - 1
		checkClear(t, m, 0, last)
		checkMostClear(t, m, last)
		checkList(t, m, []int{0})
		if _, ok := impl.ShortestWay(m, 0, last); !ok {
			t.Errorf("ShortestWay of %d, %d is false", m.Wide, last+1)
		}
	}
}

func TestWaysOfWrongKinds(t *testing.T) {
	for m := range wrongKinds() {
		checkNoMap(t, m)
	}
}

// Numbers that are no cells, and cells that are not free, in each place of what takes two.
func TestWrongCellsInWays(t *testing.T) {
	for _, m := range []impl.Cells{cellsOf("."), cellsOf("..#|?.."), open(mostWide, mostWide), cellsOf("#.|..")} {
		n := len(m.Cells)
		for _, none := range notFree(m) {
			for _, other := range append(placesOf(m)[:min(4, len(placesOf(m)))], none, n-1, 0) {
				checkNoTwo(t, m, none, other)
				for _, cells := range [][]int{{none}, {none, other}, {other, none}, {other, none, other}, {none, none}} {
					checkNoList(t, m, cells)
				}
			}
			if got := impl.MostClear(m, none); len(got) != 0 {
				t.Errorf("MostClear of %v, %d: %v", m, none, got)
			}
		}
		// The first and the last number are cells as any other ones are.
		checkTwo(t, m, 0, n-1)
		checkTwo(t, m, n-1, 0)
		checkList(t, m, []int{0})
		checkList(t, m, []int{n - 1})
		checkNoList(t, m, nil)
		checkNoList(t, m, []int{})
	}
}

// trip is what all functions that take cells are asked of at once.
type trip struct {
	m     impl.Cells
	cells []int
	a     int
	b     int
}

func drawnTrip(r *rand.Rand) trip {
	m := drawnCells(r, drawnBetween(r, 1, mostWide), drawnBetween(r, 1, mostWide), drawnBetween(r, 3, 9))
	p := trip{m: m, cells: drawnStroll(r, m, drawnBetween(r, 1, 12), r.Intn(2) == 0), a: r.Intn(len(m.Cells)), b: r.Intn(len(m.Cells))}
	if len(p.cells) > 0 {
		p.a, p.b = p.cells[0], p.cells[len(p.cells)-1]
	}
	return p
}

func (p trip) check(t *testing.T) {
	t.Helper()
	checkList(t, p.m, p.cells)
	checkTwo(t, p.m, p.a, p.b)
}

// What lies behind the lists counts for nothing and stays, as the lists do.
func TestWhatLiesBehindWays(t *testing.T) {
	r := rand.New(rand.NewSource(280))
	for range 60 {
		p := drawnTrip(r)
		if r.Intn(4) == 0 {
			p.m.Cells = p.m.Cells[:len(p.m.Cells)-1]
		}
		for _, more := range [][]int{make([]int, p.m.Wide), {-1, 3, math.MaxInt}, {1, 2, 0}, {255, 256}, p.cells} {
			in := trip{m: impl.Cells{Wide: p.m.Wide, Cells: behind(p.m.Cells, more...)}, cells: behind(p.cells, more...), a: p.a, b: p.b}
			in.check(t)
			if !kept(in.m.Cells, p.m.Cells, sameNumber, more...) || !kept(in.cells, p.cells, sameNumber, more...) {
				t.Fatalf("a list was changed: %v, before %v", in, p)
			}
		}
	}
	// The step that would be the next one, and the cell that would be missing, lie behind.
	m := impl.Cells{Wide: 2, Cells: behind([]int{0, 0, 0}, 0)}
	checkNoMap(t, m)
	checkNoList(t, open(2, 2), behind([]int{}, 0, 1))
}

// Whoever writes into an answer changes nothing else: no later answer, no argument.
func TestWayAnswersAreNewMemory(t *testing.T) {
	r := rand.New(rand.NewSource(281))
	for range 60 {
		p := drawnTrip(r)
		m, cells := cloneCells(p.m), slices.Clone(p.cells)
		for range 3 {
			w, _ := impl.ShortestWay(p.m, p.a, p.b)
			spoil(w.Cells, -7)
			pulled, _ := impl.PulledWay(p.m, p.cells)
			spoil(pulled, -7)
			spoil(impl.MostClear(p.m, p.a), -7)
			if !sameCells(p.m, m) || !slices.Equal(p.cells, cells) {
				t.Fatalf("an argument was changed: %v, before %v, %v", p, m, cells)
			}
			p.check(t)
		}
	}
	// What is pulled may be all of what was handed in, and is new memory even then.
	for _, l := range [][]int{{0}, {0, 1}, {1, 2, 8, 7}} {
		before := slices.Clone(l)
		pulled, ok := impl.PulledWay(cellsOf("...|.#.|..."), l)
		if !ok || !slices.Equal(pulled, l) {
			t.Fatalf("PulledWay of %v: %v %v", l, pulled, ok)
		}
		spoil(pulled, -7)
		if !slices.Equal(l, before) {
			t.Errorf("the list was changed: %v, before %v", l, before)
		}
	}
}

// The same list as the cells and as the way: told like any others.
func TestWayArgumentsThatShareMemory(t *testing.T) {
	l := make([]int, 9)
	m := impl.Cells{Wide: 3, Cells: l}
	for long := range 10 {
		checkList(t, m, l[:long])
	}
	if got, ok := impl.PulledWay(m, l); !ok || !slices.Equal(got, []int{0, 0}) || slices.Max(l) != 0 || slices.Min(l) != 0 {
		t.Errorf("PulledWay: %v %v, and the list %v", got, ok, l)
	}
}

// The same call has the same answer every time, many at once too.
func TestWaysAreTheSameEveryTime(t *testing.T) {
	r := rand.New(rand.NewSource(282))
	m := drawnCells(r, mostWide, mostWide, 6)
	best := bestByRounds(m, placesOf(m)[0])
	to := slices.Max(slices.Collect(maps.Keys(best)))
	want := best[to]
	pulled, _ := impl.PulledWay(m, want.Cells)
	seen := impl.MostClear(m, to)
	var all sync.WaitGroup
	for range 8 {
		all.Go(func() {
			for range 40 {
				w, ok := impl.ShortestWay(m, want.Cells[0], to)
				straight, slant, okToo := impl.WayCost(m, w.Cells)
				p, okThree := impl.PulledWay(m, w.Cells)
				by, _ := impl.CmpCost(w.Straight, w.Slant, straight, slant)
				if !ok || !okToo || !okThree || !sameWay(w, want) || by != 0 || !slices.Equal(p, pulled) || !slices.Equal(impl.MostClear(m, to), seen) || !impl.Clear(m, p[0], p[1]) {
					t.Error("another answer:", w, ok, p, okThree)
				}
			}
		})
	}
	all.Wait()
}

// FuzzWays asks every function of any numbers.
func FuzzWays(f *testing.F) {
	f.Add(3, "\x00\x00\x00\x00\x01\x00\x00\x00\x00", "\x00\x01\x02\x05\x08", 0, 8, 99, 70)
	f.Add(2, "\x00\x01\x02\x00", "\x00\x03", 0, 3, 1, 1)
	f.Add(1, "\x00", "\x00", 0, 0, 0, mostCost)
	f.Add(4, "\x00\x00\x00\x00\x00\x00\x00\x00", "\x00\x07\x04\x03", 7, 0, 17, 12)
	f.Add(0, "", "\x7f", -1, 4, -1, mostCost+1)
	f.Add(math.MinInt, "\x7f\x80", "\x80\x7f", math.MaxInt, math.MinInt, math.MaxInt, math.MinInt)
	f.Fuzz(func(t *testing.T, wide int, cells string, list string, a int, b int, c int, d int) {
		kinds, l := farNumbers(cells), farNumbers(list)
		checkFares(t, fare{a, b}, fare{c, d})
		checkFares(t, fare{leftOf(a, mostCost+1), leftOf(b, mostCost+1)}, fare{leftOf(c, mostCost+1), leftOf(d, mostCost+1)})
		trip{impl.Cells{Wide: wide, Cells: kinds}, l, a, b}.check(t)
		// The same with any cells made good, and numbers of them, so that good ones are met often.
		for i := range kinds {
			kinds[i] = max(0, leftOf(kinds[i], 6)-3)
		}
		p := trip{impl.Cells{Wide: 1 + leftOf(wide, mostWide), Cells: kinds}, l, a, b}
		p.check(t)
		if !isCells(p.m) {
			return
		}
		p.a, p.b = leftOf(a, len(kinds)), leftOf(b, len(kinds))
		for i := range l {
			l[i] = leftOf(l[i], len(kinds))
		}
		p.check(t)
		if w, ok := impl.ShortestWay(p.m, p.a, p.b); ok {
			checkIsWay(t, p.m, p.a, p.b, w)
			checkList(t, p.m, w.Cells)
		}
	})
}
