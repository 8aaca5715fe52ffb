package tests

import (
	"math/rand"
	"slices"
	"testing"

	"loop.example/g00047/impl"
)

func TestNewCounts(t *testing.T) {
	for wide := -2; wide <= mostWide+2; wide++ {
		for high := -2; high <= mostWide+2; high++ {
			got := impl.NewCounts(wide, high)
			if good := min(wide, high) >= 1 && max(wide, high) <= mostWide; !good {
				if !sameCounts(got, impl.Counts{}) {
					t.Errorf("NewCounts of %d, %d: %v", wide, high, got)
				}
				continue
			}
			noughts := make([]int, wide*high)
			if !sameCounts(got, impl.Counts{Wide: wide, Hits: noughts, Misses: noughts}) || !impl.GoodCounts(got) {
				t.Errorf("NewCounts of %d, %d: %v", wide, high, got)
			}
			checkSeen(t, got)
			cells := impl.CellsOf(got)
			if !impl.GoodCells(cells) || len(cells.Cells) != wide*high || slices.ContainsFunc(cells.Cells, func(kind int) bool { return kind != impl.CellOpen }) {
				t.Errorf("CellsOf of %v: %v", got, cells)
			}
		}
	}
}

func TestCellsOfCounts(t *testing.T) {
	for _, c := range []struct {
		counts impl.Counts
		want   impl.Cells
	}{
		{countsOf(1, 0, 0), cellsOf("?")},
		{countsOf(1, 1, 0), cellsOf("#")},
		{countsOf(1, 0, 1), cellsOf(".")},
		{countsOf(1, mostSeen, mostSeen), cellsOf("?")},
		{countsOf(1, mostSeen, mostSeen-1), cellsOf("#")},
		{countsOf(1, mostSeen-1, mostSeen), cellsOf(".")},
		{countsOf(1, mostSeen, 0), cellsOf("#")},
		{countsOf(1, 0, mostSeen), cellsOf(".")},
		{countsOf(3, 5, 5, 5, 4, 5, 6), cellsOf("#?.")},
		{countsOf(1, 5, 5, 5, 4, 5, 6), cellsOf("#|?|.")},
		{countsOf(2, 1, 2, 3, 4, 4, 3, 2, 4), cellsOf("..|#?")},
		{impl.Counts{}, impl.Cells{}},
		{countsOf(1, -1, 0), impl.Cells{}},
		{countsOf(1, 0, -1), impl.Cells{}},
		{countsOf(2, 0, 0), impl.Cells{}},
	} {
		if got := impl.CellsOf(c.counts); !sameCells(got, c.want) {
			t.Errorf("CellsOf of %v: %v, want %v", c.counts, got, c.want)
		}
		checkSeen(t, c.counts)
	}
}

func TestCellsOfDrawnCounts(t *testing.T) {
	r := rand.New(rand.NewSource(180))
	for range 600 {
		c := drawnCounts(r, drawnBetween(r, 1, mostWide), drawnBetween(r, 1, mostWide), []int{1, 3, mostSeen}[r.Intn(3)])
		checkSeen(t, c)
		if !impl.GoodCounts(c) || !impl.GoodCells(impl.CellsOf(c)) {
			t.Errorf("of %v: %v, %v", c, impl.GoodCounts(c), impl.CellsOf(c))
		}
	}
}

func TestRaysThatAreAdded(t *testing.T) {
	noughts := []int{0, 0, 0, 0, 0, 0}
	for _, c := range []struct {
		b      beam
		hits   []int
		misses []int
	}{
		{beam{0, 0, 0, 0, true}, []int{1, 0, 0, 0, 0, 0}, noughts},
		{beam{0, 0, 0, 0, false}, noughts, []int{1, 0, 0, 0, 0, 0}},
		{beam{2, 1, 2, 1, true}, []int{0, 0, 0, 0, 0, 1}, noughts},
		{beam{0, 0, 2, 0, true}, []int{0, 0, 1, 0, 0, 0}, []int{1, 1, 0, 0, 0, 0}},
		{beam{0, 0, 2, 0, false}, noughts, []int{1, 1, 1, 0, 0, 0}},
		{beam{2, 1, 0, 1, true}, []int{0, 0, 0, 1, 0, 0}, []int{0, 0, 0, 0, 1, 1}},
		{beam{0, 0, 2, 1, true}, []int{0, 0, 0, 0, 0, 1}, []int{1, 1, 0, 0, 0, 0}},
		{beam{2, 1, 0, 0, true}, []int{1, 0, 0, 0, 0, 0}, []int{0, 0, 0, 0, 1, 1}},
		{beam{2, 1, 0, 0, false}, noughts, []int{1, 0, 0, 0, 1, 1}},
		{beam{1, 0, 1, 1, true}, []int{0, 0, 0, 0, 1, 0}, []int{0, 1, 0, 0, 0, 0}},
		{beam{1, 1, 1, 0, false}, noughts, []int{0, 1, 0, 0, 1, 0}},
		{beam{1, 1, 2, 0, true}, []int{0, 0, 1, 0, 0, 0}, []int{0, 0, 0, 0, 1, 0}},
	} {
		counts := impl.NewCounts(3, 2)
		got, ok := c.b.addTo(counts)
		if !ok || !sameCounts(got, impl.Counts{Wide: 3, Hits: c.hits, Misses: c.misses}) {
			t.Errorf("AddRay of %v: %v %v, want %v, %v", c.b, got, ok, c.hits, c.misses)
		}
		checkBeam(t, counts, c.b)
		twice, ok := c.b.addTo(got)
		for i := range noughts {
			if !ok || twice.Hits[i] != 2*c.hits[i] || twice.Misses[i] != 2*c.misses[i] {
				t.Errorf("AddRay of %v, twice: %v %v", c.b, twice, ok)
			}
		}
		checkBeam(t, got, c.b)
	}
}

func TestRaysOfAllSmallCounts(t *testing.T) {
	for wide := 1; wide <= 4; wide++ {
		for high := 1; high <= 4; high++ {
			counts := drawnCounts(rand.New(rand.NewSource(181)), wide, high, 9)
			for place := range 8 * 8 * 8 * 8 {
				// One beyond each edge, and one more.
				x1, y1, x2, y2 := place%8-2, place/8%8-2, place/64%8-2, place/512-2
				checkBeam(t, counts, beam{x1, y1, x2, y2, true})
				checkBeam(t, counts, beam{x1, y1, x2, y2, false})
			}
		}
	}
}

func TestRaysOfDrawnCounts(t *testing.T) {
	r := rand.New(rand.NewSource(182))
	for range 1000 {
		wide, high := drawnBetween(r, 1, mostWide), drawnBetween(r, 1, mostWide)
		counts, one, two := drawnCounts(r, wide, high, 1000), drawnBeam(r, wide, high), drawnBeam(r, wide, high)
		checkBeam(t, counts, one)
		checkBeam(t, counts, two)
		oneFirst, ok := one.addTo(counts)
		twoFirst, okToo := two.addTo(counts)
		both, okBoth := two.addTo(oneFirst)
		bothToo, okBothToo := one.addTo(twoFirst)
		if !ok || !okToo || !okBoth || !okBothToo || !sameCounts(both, bothToo) {
			t.Errorf("AddRay of %v, %v: in the other order %v", one, two, bothToo)
		}
	}
}

// Ends just within the counts may be lit, those just beyond may not.
func TestRaysAtTheEdges(t *testing.T) {
	for _, sides := range [][]int{{1, 1}, {1, mostWide}, {mostWide, 1}, {mostWide, mostWide}, {5, 3}, {3, 5}} {
		wide, high := sides[0], sides[1]
		counts := impl.NewCounts(wide, high)
		for _, hit := range []bool{true, false} {
			for _, b := range []beam{{0, 0, wide - 1, high - 1, hit}, {wide - 1, high - 1, 0, 0, hit}, {wide - 1, 0, 0, high - 1, hit}, {0, high - 1, wide - 1, 0, hit}} {
				if _, ok := b.addTo(counts); !ok {
					t.Errorf("AddRay of %d, %d, %v is false", wide, high, b)
				}
				checkBeam(t, counts, b)
			}
			for _, b := range []beam{{0, 0, wide, 0, hit}, {0, 0, 0, high, hit}, {0, 0, -1, 0, hit}, {0, 0, 0, -1, hit}, {wide, 0, 0, 0, hit}, {0, high, 0, 0, hit}, {-1, 0, 0, 0, hit}, {0, -1, 0, 0, hit},
				{wide, 0, wide, 0, hit}, {0, high, 0, high, hit}, {-1, -1, -1, -1, hit}, {wide, high, wide, high, hit}, {-1, 0, wide, 0, hit}, {0, -1, 0, high, hit}} {
				if got, ok := b.addTo(counts); ok || !sameCounts(got, impl.Counts{}) {
					t.Errorf("AddRay of %d, %d, %v: %v %v", wide, high, b, got, ok)
				}
				checkBeam(t, counts, b)
			}
		}
	}
}

// Each cell of a line may come to 10^6, and none above it; what the line does not count at may be there already.
func TestRaysThatComeToTheLimit(t *testing.T) {
	for _, b := range []beam{{0, 0, 4, 2, true}, {0, 0, 4, 2, false}, {4, 2, 0, 0, true}, {0, 2, 4, 0, false}, {3, 0, 3, 0, true}, {3, 0, 3, 0, false}, {4, 1, 0, 1, true}} {
		full, line := impl.NewCounts(5, 3), nearLine(b.x1, b.y1, b.x2, b.y2)
		for i := range full.Hits {
			full.Hits[i], full.Misses[i] = mostSeen, mostSeen
		}
		if got, ok := b.addTo(full); ok || !sameCounts(got, impl.Counts{}) {
			t.Errorf("AddRay of full counts, %v: %v %v", b, got, ok)
		}
		// One less where the line counts, and nowhere else.
		for i, cell := range line {
			if at := cell[1]*5 + cell[0]; b.hit && i == len(line)-1 {
				full.Hits[at]--
			} else {
				full.Misses[at]--
			}
		}
		got, ok := b.addTo(full)
		if !ok || slices.Min(got.Hits) != mostSeen || slices.Min(got.Misses) != mostSeen {
			t.Errorf("AddRay up to the limit, %v: %v %v", b, got, ok)
		}
		checkBeam(t, full, b)
		for i, cell := range line {
			above, at := cloneCounts(full), cell[1]*5+cell[0]
			if b.hit && i == len(line)-1 {
				above.Hits[at]++
			} else {
				above.Misses[at]++
			}
			if got, ok := b.addTo(above); ok || !sameCounts(got, impl.Counts{}) {
				t.Errorf("AddRay above the limit at the cell %d of %v: %v %v", i, b, got, ok)
			}
			checkBeam(t, above, b)
		}
	}
}

// A map of rays: what they go through is free, what they end at is a wall.
func TestCellsThatRaysTell(t *testing.T) {
	counts, ok := impl.NewCounts(5, 3), true
	for _, b := range []beam{{0, 1, 4, 1, true}, {0, 1, 3, 1, false}, {0, 1, 2, 0, true}, {0, 1, 2, 2, true}, {4, 1, 2, 0, true}, {4, 1, 2, 0, false}, {4, 1, 4, 1, true}, {1, 2, 1, 2, true}, {1, 2, 1, 2, false}} {
		if counts, ok = b.addTo(counts); !ok {
			t.Fatalf("AddRay of %v is false", b)
		}
	}
	if got, want := impl.CellsOf(counts), cellsOf("??#??|....?|??#??"); !sameCells(got, want) {
		t.Errorf("CellsOf of %v: %v, want %v", counts, got, want)
	}
}
