package tests

import (
	"math"
	"math/rand"
	"slices"
	"sync"
	"testing"

	"loop.example/g00047/impl"
)

// farInts are numbers that are wrong nearly everywhere.
var farInts = []int{math.MaxInt, math.MinInt, math.MaxInt - 1, math.MinInt + 1}

// checkNoCells: cells that are not good have the zero answer everywhere, and -1 of FarOf.
func checkNoCells(t *testing.T, m impl.Cells) {
	t.Helper()
	if impl.GoodCells(m) || len(impl.AllPlaces(m)) != 0 {
		t.Errorf("of %v: %v, %v", m, impl.GoodCells(m), impl.AllPlaces(m))
	}
	for _, way := range []int{0, 1, 2, 3, -1, 4} {
		for _, at := range []int{0, 1, len(m.Cells) - 1, len(m.Cells), -1, math.MaxInt, math.MinInt} {
			if got := impl.FarOf(m, at, way); got != -1 {
				t.Errorf("FarOf of %v, %d, %d: %d", m, at, way, got)
			}
			for _, l := range [][]int{nil, {}, {at}, {0, at}} {
				checkNoSight(t, m, l, way, 0)
			}
		}
	}
}

// checkNoSight: neither SeePlaces nor StepPlaces have an answer.
func checkNoSight(t *testing.T, m impl.Cells, l []int, way int, far int) {
	t.Helper()
	if got, ok := impl.SeePlaces(m, l, way, far); len(got) != 0 || ok {
		t.Errorf("SeePlaces of %v, %v, %d, %d: %v %v", m, l, way, far, got, ok)
	}
	if got, ok := impl.StepPlaces(m, l, way); len(got) != 0 || ok {
		t.Errorf("StepPlaces of %v, %v, %d: %v %v", m, l, way, got, ok)
	}
}

// checkNoSeen: counts that are not good have the zero answer everywhere.
func checkNoSeen(t *testing.T, c impl.Counts) {
	t.Helper()
	if impl.GoodCounts(c) || !sameCells(impl.CellsOf(c), impl.Cells{}) {
		t.Errorf("of %v: %v, %v", c, impl.GoodCounts(c), impl.CellsOf(c))
	}
	for _, b := range []beam{{}, {0, 0, 0, 0, true}, {0, 0, 1, 0, false}, {1, 1, 0, 0, true}, {-1, 0, 0, 0, true}, {math.MaxInt, math.MinInt, math.MaxInt, math.MinInt, true}} {
		if got, ok := b.addTo(c); ok || !sameCounts(got, impl.Counts{}) {
			t.Errorf("AddRay of %v, %v: %v %v", c, b, got, ok)
		}
	}
}

// Every Wide beside every length: both are good where the one goes into the other, once to sixteen times.
func TestSidesOfCells(t *testing.T) {
	for wide := -2; wide <= mostWide+3; wide++ {
		for n := range 20 * 16 {
			m, c := impl.Cells{Wide: wide, Cells: make([]int, n)}, impl.Counts{Wide: wide, Hits: make([]int, n), Misses: make([]int, n)}
			good := wide >= 1 && wide <= 16 && n >= wide && n <= 16*wide && n%wide == 0
			if impl.GoodCells(m) != good || impl.GoodCounts(c) != good {
				t.Errorf("of %d, %d: %v, %v", wide, n, impl.GoodCells(m), impl.GoodCounts(c))
			}
			if !good {
				checkNoCells(t, m)
				checkNoSeen(t, c)
			}
		}
	}
	for _, wide := range append([]int{-16, -256, 256, 1 << 32, -1 << 32, 1<<62 + 1}, farInts...) {
		for _, n := range []int{0, 1, 2, 16, 17, 256, 257} {
			checkNoCells(t, impl.Cells{Wide: wide, Cells: make([]int, n)})
			checkNoSeen(t, impl.Counts{Wide: wide, Hits: make([]int, n), Misses: make([]int, n)})
		}
	}
	checkNoCells(t, impl.Cells{})
	checkNoCells(t, impl.Cells{Wide: 1, Cells: []int{}})
	checkNoSeen(t, impl.Counts{})
	checkNoSeen(t, impl.Counts{Wide: 1, Hits: []int{}, Misses: []int{}})
}

// Hits and Misses that are not as long as each other, also where each alone would do.
func TestCountsOfUnlikeLengths(t *testing.T) {
	for _, wide := range []int{1, 2, 3, mostWide} {
		for hits := range 5 {
			for misses := range 5 {
				for more := -1; more <= 1; more++ {
					c := impl.Counts{Wide: wide, Hits: make([]int, hits*wide), Misses: make([]int, max(0, misses*wide+more))}
					if isSeen(c) {
						checkSeen(t, c)
						continue
					}
					checkNoSeen(t, c)
					checkNoSeen(t, impl.Counts{Wide: wide, Hits: c.Misses, Misses: c.Hits})
				}
			}
		}
		checkNoSeen(t, impl.Counts{Wide: wide, Hits: make([]int, wide)})
		checkNoSeen(t, impl.Counts{Wide: wide, Misses: make([]int, wide)})
	}
}

func TestWrongSidesOfNewCounts(t *testing.T) {
	for _, n := range append([]int{0, -1, mostWide + 1, -mostWide, 1 << 32, -1 << 32, 1 << 60}, farInts...) {
		for _, other := range []int{1, 2, mostWide, 0, n, -n} {
			for _, got := range []impl.Counts{impl.NewCounts(n, other), impl.NewCounts(other, n)} {
				if !sameCounts(got, impl.Counts{}) {
					t.Errorf("NewCounts of %d, %d: %v", n, other, got)
				}
			}
		}
	}
}

// placesIn are the first, the last and those between of so many.
func placesIn(n int) []int {
	return slices.Compact([]int{0, n / 3, n / 2, n - 1})
}

func TestWrongNumbersInCounts(t *testing.T) {
	for _, sides := range [][]int{{1, 1}, {3, 2}, {1, mostWide}, {mostWide, 1}, {mostWide, mostWide}} {
		for _, at := range placesIn(sides[0] * sides[1]) {
			for _, good := range []int{0, 1, mostSeen - 1, mostSeen} {
				c := impl.NewCounts(sides[0], sides[1])
				c.Hits[at] = good
				checkGoodSeen(t, c)
				c.Misses[at] = good
				checkGoodSeen(t, c)
				c.Hits[at] = 0
				checkGoodSeen(t, c)
			}
			for _, wrong := range append([]int{-1, mostSeen + 1, -mostSeen, 2 * mostSeen}, farInts...) {
				hits, misses := impl.NewCounts(sides[0], sides[1]), impl.NewCounts(sides[0], sides[1])
				hits.Hits[at], misses.Misses[at] = wrong, wrong
				checkNoSeen(t, hits)
				checkNoSeen(t, misses)
				misses.Hits[at] = wrong
				checkNoSeen(t, misses)
			}
		}
	}
}

func checkGoodSeen(t *testing.T, c impl.Counts) {
	t.Helper()
	if !impl.GoodCounts(c) {
		t.Errorf("GoodCounts of %v is false", c)
	}
	checkSeen(t, c)
	checkBeam(t, c, beam{0, 0, c.Wide - 1, len(c.Hits)/c.Wide - 1, true})
	checkBeam(t, c, beam{c.Wide - 1, len(c.Hits)/c.Wide - 1, 0, 0, false})
}

func TestWrongEndsOfRays(t *testing.T) {
	for _, sides := range [][]int{{1, 1}, {3, 2}, {mostWide, mostWide}} {
		counts := impl.NewCounts(sides[0], sides[1])
		for _, n := range append([]int{-1, mostWide, mostWide + 1, mostEnd, mostEnd + 1, -mostEnd, 1 << 32, 1 << 60, -1 << 60}, farInts...) {
			for _, b := range []beam{{n, 0, 0, 0, true}, {0, n, 0, 0, true}, {0, 0, n, 0, true}, {0, 0, 0, n, true}, {n, n, n, n, false}, {n, 0, n, 0, false}, {0, n, 0, n, true}, {n, n, 0, 0, false}, {0, 0, n, n, true}} {
				if got, ok := b.addTo(counts); ok || !sameCounts(got, impl.Counts{}) {
					t.Errorf("AddRay of %v, %v: %v %v", sides, b, got, ok)
				}
				checkBeam(t, counts, b)
			}
		}
	}
}

func TestWrongKindsOfCells(t *testing.T) {
	for _, sides := range [][]int{{1, 1}, {3, 2}, {1, mostWide}, {mostWide, 1}, {mostWide, mostWide}} {
		for _, at := range placesIn(sides[0] * sides[1]) {
			for kind := -3; kind <= 5; kind++ {
				m := open(sides[0], sides[1])
				m.Cells[at] = kind
				if kind >= 0 && kind <= 2 {
					checkCells(t, m)
				} else {
					checkNoCells(t, m)
				}
			}
			for _, kind := range append([]int{1 << 32, -1 << 32, 257}, farInts...) {
				m := open(sides[0], sides[1])
				m.Cells[at] = kind
				checkNoCells(t, m)
			}
		}
	}
}

// Numbers that are wrong beside good cells.
func TestWrongNumbersBesideCells(t *testing.T) {
	for _, m := range []impl.Cells{cellsOf("."), cellsOf("..#|?.."), open(mostWide, mostWide), cellsOf("#")} {
		n := len(m.Cells)
		for _, at := range append([]int{-1, n, n + 1, -n, 1 << 32, -1 << 32}, farInts...) {
			for way := range 4 {
				if got := impl.FarOf(m, at, way); got != -1 {
					t.Errorf("FarOf of %v, %d, %d: %d", m, at, way, got)
				}
				for _, l := range [][]int{{at}, {0, at}, {at, 0}, {at, at}, {0, 1, at}, {at, 0, 1}, {0, at, 1}} {
					checkNoSight(t, m, l, way, 0)
				}
			}
		}
		for _, way := range append([]int{-1, 4, 5, -4, 256, 1 << 32, -1 << 32}, farInts...) {
			for _, l := range [][]int{nil, {}, {0}, {0, 1}, placesOf(m)} {
				checkNoSight(t, m, l, way, 0)
				checkNoSight(t, m, l, way, -1)
			}
			for at := range m.Cells {
				if got := impl.FarOf(m, at, way); got != -1 {
					t.Errorf("FarOf of %v, %d, %d: %d", m, at, way, got)
				}
			}
		}
		// Any far may be asked for: no place has one that is below 0 or greater than the sides.
		for _, far := range append([]int{-1, -2, mostWide, 1 << 32, -1 << 32}, farInts...) {
			for way := range 4 {
				if got, ok := impl.SeePlaces(m, placesOf(m), way, far); len(got) != 0 || !ok {
					t.Errorf("SeePlaces of %v, %d, %d: %v %v", m, way, far, got, ok)
				}
			}
		}
	}
}

// Lists of free cells that do not rise, at the first, at a middle and at the last place.
func TestPlacesThatDoNotRise(t *testing.T) {
	m := open(mostWide, mostWide)
	for n := 2; n <= 256; n += 23 {
		for _, at := range placesIn(n - 1) {
			alike, turned := placesOf(m)[:n], placesOf(m)[:n]
			alike[at+1] = alike[at]
			turned[at], turned[at+1] = turned[at+1], turned[at]
			checkPlaces(t, m, alike)
			checkNoSight(t, m, alike, 0, 1)
			checkPlaces(t, m, turned)
			checkNoSight(t, m, turned, 3, 1)
		}
	}
	for _, kind := range []int{impl.CellWall, impl.CellOpen} {
		for _, at := range placesIn(256) {
			m := open(mostWide, mostWide)
			m.Cells[at] = kind
			checkNoSight(t, m, placesOf(open(mostWide, mostWide)), 1, 0)
			checkPlaces(t, m, placesOf(m))
		}
	}
	checkNoSight(t, m, append(placesOf(m), 256), 0, 0)
	checkNoSight(t, m, append([]int{-1}, placesOf(m)...), 0, 0)
	checkNoSight(t, m, slices.Repeat([]int{0}, 100000), 0, 0)
}

// What lies behind the lists counts for nothing and stays, as the lists do.
func TestWhatLiesBehindCells(t *testing.T) {
	r := rand.New(rand.NewSource(186))
	for range 100 {
		wide, high := drawnBetween(r, 1, mostWide), drawnBetween(r, 1, mostWide)
		m, c := drawnCells(r, wide, high, 4), drawnCounts(r, wide, high, 9)
		if r.Intn(4) == 0 {
			m.Cells, c.Misses = m.Cells[1:], c.Misses[1:]
		}
		l := drawnPlaces(r, m)
		for _, more := range [][]int{make([]int, wide), {-1, 3, math.MaxInt}, {1, 2, 0}, {255, 256}} {
			inM := impl.Cells{Wide: wide, Cells: behind(m.Cells, more...)}
			inC := impl.Counts{Wide: wide, Hits: behind(c.Hits, more...), Misses: behind(c.Misses, more...)}
			inL, b := behind(l, more...), drawnBeam(r, wide, high)
			checkCells(t, inM)
			checkSeen(t, inC)
			checkBeam(t, inC, b)
			checkPlaces(t, inM, inL)
			if !kept(inM.Cells, m.Cells, sameNumber, more...) || !kept(inC.Hits, c.Hits, sameNumber, more...) || !kept(inC.Misses, c.Misses, sameNumber, more...) || !kept(inL, l, sameNumber, more...) {
				t.Fatalf("a list was changed: %v, %v, %v", inM, inC, inL)
			}
		}
	}
}

// The cells of a line share no memory, and no later line is changed by what is written into one.
func TestLinesAreNewMemory(t *testing.T) {
	for _, ends := range [][4]int{{0, 0, 0, 0}, {0, 0, 7, 3}, {-5, 9, 2, -30}} {
		line, want := impl.LineCells(ends[0], ends[1], ends[2], ends[3]), nearLine(ends[0], ends[1], ends[2], ends[3])
		for k := range line {
			spoil(line[k], 7777)
			if !slices.EqualFunc(line[k+1:], want[k+1:], slices.Equal) {
				t.Fatalf("the cells of a line share memory: %v", line)
			}
		}
		spoil(line, nil)
		checkLine(t, ends[0], ends[1], ends[2], ends[3])
	}
}

// spoilCounts writes into both lists of one answer, one after the other, and sees that the other stays.
func spoilCounts(t *testing.T, c impl.Counts) {
	t.Helper()
	before := slices.Clone(c.Misses)
	spoil(c.Hits, -7)
	if !slices.Equal(c.Misses, before) {
		t.Fatal("Hits and Misses share memory")
	}
	spoil(c.Misses, -8)
	if slices.Contains(c.Hits, -8) {
		t.Fatal("Hits and Misses share memory")
	}
}

// Whoever writes into an answer changes nothing else: no other list of it, no later answer, no argument.
func TestCellAnswersAreNewMemory(t *testing.T) {
	r := rand.New(rand.NewSource(187))
	for range 100 {
		wide, high := drawnBetween(r, 1, mostWide), drawnBetween(r, 1, mostWide)
		m, c, b := drawnCells(r, wide, high, 4), drawnCounts(r, wide, high, 9), drawnBeam(r, wide, high)
		l, mBefore, cBefore := placesOf(m), cloneCells(m), cloneCounts(c)
		lBefore := slices.Clone(l)
		added, ok := b.addTo(c)
		if !ok {
			t.Fatalf("AddRay of %v, %v is false", c, b)
		}
		spoilCounts(t, added)
		spoilCounts(t, impl.NewCounts(wide, high))
		spoil(impl.CellsOf(c).Cells, -7)
		spoil(impl.AllPlaces(m), -7)
		for way := range 4 {
			for far := range mostWide {
				seen, _ := impl.SeePlaces(m, l, way, far)
				spoil(seen, -7)
			}
			stepped, _ := impl.StepPlaces(m, l, way)
			spoil(stepped, -7)
		}
		if !sameCells(m, mBefore) || !sameCounts(c, cBefore) || !slices.Equal(l, lBefore) {
			t.Fatalf("an argument was changed: %v, %v, %v", m, c, l)
		}
		if got := impl.NewCounts(wide, high); slices.Max(got.Hits) != 0 || slices.Max(got.Misses) != 0 || slices.Min(got.Hits) != 0 || slices.Min(got.Misses) != 0 {
			t.Fatalf("NewCounts of %d, %d: %v", wide, high, got)
		}
		checkSeen(t, c)
		checkBeam(t, c, b)
		checkCells(t, m)
		checkPlaces(t, m, l)
	}
	// One place that is all that is seen, and that stays, is new memory too.
	m, l := cellsOf("."), []int{0}
	seen, _ := impl.SeePlaces(m, l, 0, 0)
	stepped, _ := impl.StepPlaces(m, l, 0)
	spoil(seen, 5)
	spoil(stepped, 6)
	if l[0] != 0 || m.Cells[0] != 0 {
		t.Errorf("an argument was changed: %v, %v", m, l)
	}
}

// The same call has the same answer every time, many at once too.
func TestCellAnswersAreTheSameEveryTime(t *testing.T) {
	r := rand.New(rand.NewSource(188))
	m, c := drawnCells(r, mostWide, 11, 4), drawnCounts(r, mostWide, 11, 9)
	l := placesOf(m)
	line, cells := impl.LineCells(3, 5, -700, 900), impl.CellsOf(c)
	added, _ := impl.AddRay(c, 1, 10, 15, 0, true)
	seen, _ := impl.SeePlaces(m, l, 1, 2)
	stepped, _ := impl.StepPlaces(m, l, 1)
	var all sync.WaitGroup
	for range 8 {
		all.Go(func() {
			for range 100 {
				gotAdded, _ := impl.AddRay(c, 1, 10, 15, 0, true)
				gotSeen, _ := impl.SeePlaces(m, l, 1, 2)
				gotStepped, _ := impl.StepPlaces(m, l, 1)
				if !slices.EqualFunc(impl.LineCells(3, 5, -700, 900), line, slices.Equal) || !sameCells(impl.CellsOf(c), cells) || !sameCounts(gotAdded, added) || !slices.Equal(gotSeen, seen) ||
					!slices.Equal(gotStepped, stepped) || !slices.Equal(impl.AllPlaces(m), l) || !impl.GoodCells(m) || !impl.GoodCounts(c) || impl.FarOf(m, l[0], 0) != exactFar(m, l[0], 0) {
					t.Error("another answer")
				}
			}
		})
	}
	all.Wait()
}

// farNumbers are the bytes of a text as numbers, some of them far off.
func farNumbers(s string) []int {
	l := []int{}
	for i := range len(s) {
		l = append(l, farNumber(s[i]))
	}
	return l
}

// FuzzCells asks every function of any numbers.
func FuzzCells(f *testing.F) {
	f.Add(3, "\x00\x00\x01\x00\x02\x00", "\x00\x01\x03\x05", 0, 0, 2, 1)
	f.Add(1, "\x00", "", 0, 0, 0, 0)
	f.Add(2, "\x7d\x01\x00\x7d", "\x00\x00", 1, 1, 0, 0)
	f.Add(16, "\x00\x00\x00\x00\x00\x00\x00\x00\x00\x00\x00\x00\x00\x00\x00\x00", "\x00\x0f", 15, 0, 0, 0)
	f.Add(0, "", "\x7f", -1, 4, 1000, -1001)
	f.Add(math.MinInt, "\x7f\x80", "\x80\x7f", math.MaxInt, math.MinInt, 1001, -1000)
	f.Fuzz(func(t *testing.T, wide int, cells string, list string, x1 int, y1 int, x2 int, y2 int) {
		kinds, l := farNumbers(cells), farNumbers(list)
		m := impl.Cells{Wide: wide, Cells: kinds}
		c := impl.Counts{Wide: wide, Hits: kinds, Misses: slices.Repeat([]int{1}, len(kinds))}
		checkLine(t, x1, y1, x2, y2)
		checkCells(t, m)
		checkPlaces(t, m, l)
		checkFar(t, m, x1, y1)
		checkSight(t, m, l, x1, y1)
		checkSteps(t, m, l, x1)
		for _, counts := range []impl.Counts{c, {Wide: wide, Hits: c.Misses, Misses: c.Hits}, {Wide: wide, Hits: kinds, Misses: l}} {
			checkSeen(t, counts)
			checkBeam(t, counts, beam{x1, y1, x2, y2, true})
			checkBeam(t, counts, beam{x1, y1, x2, y2, false})
		}
		if got := impl.NewCounts(x1, y1); impl.GoodCounts(got) != (min(x1, y1) >= 1 && max(x1, y1) <= mostWide) {
			t.Errorf("NewCounts of %d, %d: %v", x1, y1, got)
		}
		// The same with any cells made good, so that good ones are met often.
		for i := range kinds {
			kinds[i] = leftOf(kinds[i], 3)
		}
		m = impl.Cells{Wide: 1 + leftOf(wide, mostWide), Cells: kinds}
		checkCells(t, m)
		if isCells(m) {
			checkPlaces(t, m, placesOf(m))
		}
	})
}
