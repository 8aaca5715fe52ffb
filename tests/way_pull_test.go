package tests

import (
	"math/rand"
	"slices"
	"testing"

	"loop.example/g00047/impl"
)

func TestPulledWayByHand(t *testing.T) {
	for _, c := range []struct {
		picture string
		cells   []int
		want    []int
		ok      bool
	}{
		{".", []int{0}, []int{0}, true},
		{".", nil, nil, false},
		{"#", []int{0}, nil, false},
		{"?", []int{0}, nil, false},
		// To one leg.
		{"....", []int{0, 1, 2, 3}, []int{0, 3}, true},
		{"....", []int{0, 3}, []int{0, 3}, true},
		{"...|...|...", []int{0, 1, 2, 5, 8}, []int{0, 8}, true},
		{"...|...|...", []int{0, 3, 6, 7, 8, 5, 2}, []int{0, 2}, true},
		// Not at all.
		{"...|.#.|...", []int{1, 2, 8, 7}, []int{1, 2, 8, 7}, true},
		{".#.|...", []int{0, 3, 5, 2}, []int{0, 3, 5, 2}, true},
		{".#|..", []int{0, 2, 3}, []int{0, 2, 3}, true},
		// To some legs.
		{"...|.#.|...", []int{0, 1, 2, 5, 8}, []int{0, 2, 8}, true},
		{"...|.#.|...", []int{1, 2, 5, 8, 7}, []int{1, 2, 8, 7}, true},
		// The last one that is clear is taken, though one between is not.
		{"...|.#.|...", []int{0, 1, 2, 5, 2, 1, 0, 3}, []int{0, 3}, true},
		{"...|.#.|...", []int{0, 1, 2, 5, 8, 7, 6}, []int{0, 6}, true},
		{"...|.#.|...", []int{0, 1, 2, 5, 8, 7, 6, 7}, []int{0, 6, 7}, true},
		// Cells that come twice: each of them is one of the list.
		{"..", []int{0, 0}, []int{0, 0}, true},
		{"..", []int{0, 1, 0}, []int{0, 0}, true},
		{"..", []int{0, 1, 0, 1}, []int{0, 1}, true},
		{"..", []int{0, 0, 0, 0, 0}, []int{0, 0}, true},
		{".#|..", []int{0, 2, 3, 2, 0}, []int{0, 0}, true},
		{".#|..", []int{0, 2, 3, 2, 0, 2, 3}, []int{0, 2, 3}, true},
		{".#|..", []int{0, 2, 2, 3, 3}, []int{0, 2, 3}, true},
		// Legs that are no steps may be pulled, legs that are not clear not.
		{"....|....", []int{0, 7, 4, 3}, []int{0, 3}, true},
		{"...|.#.|...", []int{0, 8}, nil, false},
		{"...|.#.|...", []int{0, 2, 3}, nil, false},
		{"...|.#.|...", []int{1, 5, 8}, nil, false},
		{"...|.#.|...", []int{0, 4}, nil, false},
		{"...|.#.|...", []int{4, 0}, nil, false},
		{"...|.#.|...", []int{0, 9}, nil, false},
		{"...|.#.|...", []int{-1, 0}, nil, false},
	} {
		m := cellsOf(c.picture)
		if got, ok := impl.PulledWay(m, c.cells); ok != c.ok || !slices.Equal(got, c.want) {
			t.Errorf("PulledWay of %q, %v: %v %v, want %v %v", c.picture, c.cells, got, ok, c.want, c.ok)
		}
		checkList(t, m, c.cells)
	}
}

// Every list of up to four cells over small maps.
func TestPulledWayOfAllSmallLists(t *testing.T) {
	for _, picture := range []string{"..", ".#|..", "?.|..|.#", "...|.#."} {
		m := cellsOf(picture)
		n := len(m.Cells) + 2
		for long := range 5 {
			count := 1
			for range long {
				count *= n
			}
			for number := range count {
				cells := make([]int, long)
				for i := range cells {
					cells[i], number = number%n-1, number/n
				}
				checkList(t, m, cells)
			}
		}
	}
}

// Corridors: what is left are their ends and the corners between.
func TestPulledWayOfWindingMaps(t *testing.T) {
	m := winding(mostWide, mostWide)
	w, ok := impl.ShortestWay(m, 0, 240)
	if !ok || len(w.Cells) != 136 {
		t.Fatalf("ShortestWay: %v %v", w, ok)
	}
	want := []int{0}
	for y := 0; y < mostWide-2; y += 4 {
		want = append(want, 16*y+15, 16*y+47, 16*y+32)
		if y+4 < mostWide {
			want = append(want, 16*y+64)
		}
	}
	want = append(want, 240)
	if got, ok := impl.PulledWay(m, w.Cells); !ok || !slices.Equal(got, want) {
		t.Errorf("PulledWay: %v %v, want %v", got, ok, want)
	}
	checkPulled(t, m, w.Cells)
	round := spiral(15)
	for _, to := range placesOf(round) {
		w, _ := impl.ShortestWay(round, 0, to)
		checkPulled(t, round, w.Cells)
	}
}

// Lists of all lengths up to 256, and of 257: in an open map one leg is left.
func TestPulledWayOfLongLists(t *testing.T) {
	m := open(mostWide, mostWide)
	cells := snake(mostWide, mostWide)
	for long := 2; long <= mostListed; long++ {
		if got, ok := impl.PulledWay(m, cells[:long]); !ok || !slices.Equal(got, []int{0, cells[long-1]}) {
			t.Errorf("PulledWay of %d cells: %v %v", long, got, ok)
		}
	}
	checkNoList(t, m, append(slices.Clone(cells), 239))
	checkNoList(t, m, slices.Repeat([]int{5}, mostListed+1))
	checkNoList(t, m, slices.Repeat([]int{5}, 100000))
	if got, ok := impl.PulledWay(m, slices.Repeat([]int{5}, mostListed)); !ok || !slices.Equal(got, []int{5, 5}) {
		t.Errorf("PulledWay of 256 times the same: %v %v", got, ok)
	}
	// Corridors there and back, so that not one leg can be left out for long.
	narrow := winding(mostWide, mostWide)
	w, _ := impl.ShortestWay(narrow, 0, 240)
	back := slices.Clone(w.Cells)
	slices.Reverse(back)
	both := append(slices.Clone(w.Cells), back[1:121]...)
	for _, long := range []int{136, 137, 200, 255, mostListed} {
		checkList(t, narrow, both[:long])
	}
	checkNoList(t, narrow, slices.Concat(w.Cells, back[1:122]))
}

// A pair that is not clear at the first, a middle and the last place: nothing is told, though the list could be pulled past it.
func TestPulledWayOfPairsThatAreNotClear(t *testing.T) {
	m := open(mostWide, mostWide)
	m.Cells[17] = impl.CellWall
	for _, long := range []int{2, 3, 4, 9, 100, mostListed} {
		for _, at := range slices.Compact([]int{0, (long - 2) / 2, long - 2}) {
			cells := slices.Repeat([]int{2}, long)
			for i := range at + 1 {
				cells[i] = 0
			}
			if got, ok := impl.PulledWay(m, cells); !ok || !slices.Equal(got, []int{0, 2}) {
				t.Errorf("PulledWay of %v: %v %v", cells, got, ok)
			}
			checkPulled(t, m, cells)
			// From 0 to 34 it would go through the wall at 17.
			for i := at + 1; i < long; i++ {
				cells[i] = 34
			}
			if got, ok := impl.PulledWay(m, cells); ok || len(got) != 0 {
				t.Errorf("PulledWay of %v: %v %v", cells, got, ok)
			}
		}
	}
	// From 0 to 34 and back to 0: the first and the last one are clear from each other.
	for _, cells := range [][]int{{0, 34, 0}, {0, 34, 34, 2}, {0, 1, 2, 34, 0, 34}, {34, 2, 0, 34}, {34, 0, 2}} {
		if got, ok := impl.PulledWay(m, cells); ok || len(got) != 0 {
			t.Errorf("PulledWay of %v: %v %v", cells, got, ok)
		}
		checkPulled(t, m, cells)
	}
}

func TestPulledWayOfDrawnWays(t *testing.T) {
	r := rand.New(rand.NewSource(279))
	for i := range 150 {
		m := drawnCells(r, drawnBetween(r, 1, 10), drawnBetween(r, 1, 10), drawnBetween(r, 2, 9))
		cells := drawnStroll(r, m, drawnBetween(r, 1, 25), i%2 == 0)
		if len(cells) == 0 {
			continue
		}
		checkPulled(t, m, cells)
		if _, ok := impl.PulledWay(m, cells); !ok {
			t.Errorf("PulledWay of %v, %v is false", m, cells)
		}
		cells[r.Intn(len(cells))] = r.Intn(len(m.Cells))
		checkList(t, m, cells)
	}
	for range 60 {
		m := drawnCells(r, mostWide, mostWide, drawnBetween(r, 3, 9))
		free := placesOf(m)
		w, ok := impl.ShortestWay(m, free[r.Intn(len(free))], free[r.Intn(len(free))])
		if ok {
			checkPulled(t, m, w.Cells)
		}
	}
}
