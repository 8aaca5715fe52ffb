package tests

import (
	"math/rand"
	"slices"
	"testing"

	"loop.example/g00047/impl"
)

func TestFarOf(t *testing.T) {
	m := cellsOf("..#.|....|?.#.")
	for _, c := range []struct {
		at   int
		want [4]int
	}{
		{0, [4]int{1, 1, 0, 0}},
		{1, [4]int{0, 2, 1, 0}},
		{2, [4]int{-1, -1, -1, -1}},
		{3, [4]int{0, 2, 0, 0}},
		{4, [4]int{3, 0, 0, 1}},
		{5, [4]int{2, 1, 1, 1}},
		{6, [4]int{1, 0, 2, 0}},
		{7, [4]int{0, 1, 3, 1}},
		{8, [4]int{-1, -1, -1, -1}},
		{9, [4]int{0, 0, 0, 2}},
		{10, [4]int{-1, -1, -1, -1}},
		{11, [4]int{0, 0, 0, 2}},
		{12, [4]int{-1, -1, -1, -1}},
		{-1, [4]int{-1, -1, -1, -1}},
	} {
		for way, want := range c.want {
			if got := impl.FarOf(m, c.at, way); got != want {
				t.Errorf("FarOf of %d, %d: %d, want %d", c.at, way, got, want)
			}
		}
	}
	for _, way := range []int{-1, 4, 5, -4} {
		for at := range m.Cells {
			if got := impl.FarOf(m, at, way); got != -1 {
				t.Errorf("FarOf of %d, %d: %d", at, way, got)
			}
		}
	}
	checkCells(t, m)
}

// Where all is free it is as far as to the edge: along a whole row and a whole column, too.
func TestFarOfWhereAllIsFree(t *testing.T) {
	for wide := 1; wide <= mostWide; wide++ {
		for high := 1; high <= mostWide; high++ {
			m := open(wide, high)
			for y := range high {
				for x := range wide {
					for way, want := range []int{wide - 1 - x, high - 1 - y, x, y} {
						if got := impl.FarOf(m, y*wide+x, way); got != want {
							t.Errorf("FarOf of %d, %d at %d, %d along %d: %d, want %d", wide, high, x, y, way, got, want)
						}
					}
				}
			}
			if l := impl.AllPlaces(m); len(l) != wide*high || l[0] != 0 || l[len(l)-1] != wide*high-1 || !isPlaces(m, l) {
				t.Errorf("AllPlaces of %d, %d: %v", wide, high, l)
			}
		}
	}
}

// One cell that is not free, a wall or one that is not known, ends all that look at it, and no others.
func TestFarOfBesideOneThatIsNotFree(t *testing.T) {
	for _, sides := range [][]int{{1, 5}, {5, 1}, {4, 3}, {mostWide, 2}, {2, mostWide}} {
		for _, kind := range []int{impl.CellWall, impl.CellOpen} {
			for at := range sides[0] * sides[1] {
				m := open(sides[0], sides[1])
				m.Cells[at] = kind
				checkCells(t, m)
				checkPlaces(t, m, placesOf(m))
			}
		}
	}
}

func TestAllPlaces(t *testing.T) {
	for _, c := range []struct {
		picture string
		want    []int
	}{
		{".", []int{0}},
		{"#", nil},
		{"?", nil},
		{"#?|?#", nil},
		{"..|..", []int{0, 1, 2, 3}},
		{".#.|?..", []int{0, 2, 4, 5}},
		{"#.|#.|#.", []int{1, 3, 5}},
	} {
		if got := impl.AllPlaces(cellsOf(c.picture)); !slices.Equal(got, c.want) {
			t.Errorf("AllPlaces of %q: %v, want %v", c.picture, got, c.want)
		}
		checkCells(t, cellsOf(c.picture))
		checkPlaces(t, cellsOf(c.picture), c.want)
		checkPlaces(t, cellsOf(c.picture), nil)
	}
}

func TestSeePlaces(t *testing.T) {
	m := cellsOf("..#.|....|?.#.")
	all := []int{0, 1, 3, 4, 5, 6, 7, 9, 11}
	for _, c := range []struct {
		l    []int
		way  int
		far  int
		want []int
		ok   bool
	}{
		{all, 0, 0, []int{1, 3, 7, 9, 11}, true},
		{all, 0, 1, []int{0, 6}, true},
		{all, 0, 2, []int{5}, true},
		{all, 0, 3, []int{4}, true},
		{all, 0, 4, nil, true},
		{all, 0, -1, nil, true},
		{all, 1, 0, []int{4, 6, 9, 11}, true},
		{all, 2, 3, []int{7}, true},
		{all, 3, 2, []int{9, 11}, true},
		{[]int{0, 6}, 0, 1, []int{0, 6}, true},
		{[]int{6}, 0, 1, []int{6}, true},
		{[]int{5, 7}, 0, 1, nil, true},
		{nil, 0, 1, nil, true},
		{[]int{}, 3, 0, nil, true},
		{all, 4, 0, nil, false},
		{all, -1, 0, nil, false},
		{all, -1, -1, nil, false},
		{nil, 4, 0, nil, false},
		{nil, -1, 0, nil, false},
		{[]int{6, 0}, 0, 1, nil, false},
		{[]int{0, 0, 6}, 0, 1, nil, false},
		{[]int{0, 6, 6}, 0, 1, nil, false},
		{[]int{0, 2, 6}, 0, 1, nil, false},
		{[]int{0, 8}, 0, 1, nil, false},
		{[]int{2}, 0, -1, nil, false},
		{[]int{-1, 0}, 0, 1, nil, false},
		{[]int{6, 12}, 0, 1, nil, false},
	} {
		if got, ok := impl.SeePlaces(m, c.l, c.way, c.far); ok != c.ok || !slices.Equal(got, c.want) {
			t.Errorf("SeePlaces of %v, %d, %d: %v %v, want %v %v", c.l, c.way, c.far, got, ok, c.want, c.ok)
		}
		checkSight(t, m, c.l, c.way, c.far)
	}
}

func TestStepPlaces(t *testing.T) {
	m := cellsOf("..#.|....|?.#.")
	all := []int{0, 1, 3, 4, 5, 6, 7, 9, 11}
	for _, c := range []struct {
		l    []int
		way  int
		want []int
		ok   bool
	}{
		{all, 0, []int{1, 3, 5, 6, 7, 9, 11}, true},
		{all, 1, []int{4, 5, 6, 7, 9, 11}, true},
		{all, 2, []int{0, 3, 4, 5, 6, 9, 11}, true},
		{all, 3, []int{0, 1, 3, 5, 6, 7}, true},
		{[]int{0}, 0, []int{1}, true},
		{[]int{0}, 1, []int{4}, true},
		{[]int{0}, 2, []int{0}, true},
		{[]int{0}, 3, []int{0}, true},
		{[]int{1}, 0, []int{1}, true},
		{[]int{4}, 1, []int{4}, true},
		{[]int{3}, 0, []int{3}, true},
		{[]int{0, 1}, 0, []int{1}, true},
		{[]int{6, 7}, 0, []int{7}, true},
		{[]int{0, 4}, 1, []int{4}, true},
		{[]int{4, 5}, 2, []int{4}, true},
		{[]int{7, 11}, 3, []int{3, 7}, true},
		{[]int{1, 3}, 1, []int{5, 7}, true},
		{[]int{1, 4}, 1, []int{4, 5}, true},
		{[]int{6, 9}, 3, []int{5, 6}, true},
		{nil, 0, nil, true},
		{[]int{}, 2, nil, true},
		{all, 4, nil, false},
		{all, -1, nil, false},
		{nil, 4, nil, false},
		{nil, -1, nil, false},
		{[]int{1, 0}, 0, nil, false},
		{[]int{0, 0}, 0, nil, false},
		{[]int{0, 2}, 0, nil, false},
		{[]int{8}, 0, nil, false},
		{[]int{-1}, 0, nil, false},
		{[]int{12}, 0, nil, false},
	} {
		if got, ok := impl.StepPlaces(m, c.l, c.way); ok != c.ok || !slices.Equal(got, c.want) {
			t.Errorf("StepPlaces of %v, %d: %v %v, want %v %v", c.l, c.way, got, ok, c.want, c.ok)
		}
		checkSteps(t, m, c.l, c.way)
	}
}

// A step along x does not lead into the row above or below.
func TestStepsAtTheEndsOfRows(t *testing.T) {
	m := open(3, 2)
	for _, c := range []struct {
		from int
		want [4]int
	}{{0, [4]int{1, 3, 0, 0}}, {2, [4]int{2, 5, 1, 2}}, {3, [4]int{4, 3, 3, 0}}, {5, [4]int{5, 5, 4, 2}}} {
		for way, want := range c.want {
			if got, ok := impl.StepPlaces(m, []int{c.from}, way); !ok || !slices.Equal(got, []int{want}) {
				t.Errorf("StepPlaces of %d, %d: %v %v, want %d", c.from, way, got, ok, want)
			}
		}
	}
}

// Every map of six cells and every list of places of it.
func TestPlacesOfAllSmallCells(t *testing.T) {
	for _, wide := range []int{1, 2, 3, 6} {
		for number := range 4 * 4 * 4 * 4 * 4 * 4 {
			m, l := open(wide, 6/wide), []int{}
			for at := range m.Cells {
				kind := number >> (2 * at) & 3
				if kind == 3 {
					l = append(l, at)
				} else {
					m.Cells[at] = kind
				}
			}
			for way := range 4 {
				checkSteps(t, m, l, way)
				checkApart(t, m, l, way)
				for far := range wide + 1 {
					checkSight(t, m, l, way, far)
				}
			}
			checkCells(t, m)
		}
	}
}

func TestPlacesOfDrawnCells(t *testing.T) {
	r := rand.New(rand.NewSource(183))
	for range 60 {
		m := drawnCells(r, drawnBetween(r, 1, mostWide), drawnBetween(r, 1, mostWide), drawnBetween(r, 1, 12))
		checkCells(t, m)
		checkPlaces(t, m, placesOf(m))
		checkPlaces(t, m, drawnPlaces(r, m))
	}
}

// Whoever goes often enough along one way stands at what is not free, or at the edge, and stays there.
func TestStepsUpToTheEnd(t *testing.T) {
	r := rand.New(rand.NewSource(184))
	for range 100 {
		m := drawnCells(r, drawnBetween(r, 1, mostWide), drawnBetween(r, 1, mostWide), 6)
		for way := range 4 {
			l := impl.AllPlaces(m)
			for range mostWide {
				l, _ = impl.StepPlaces(m, l, way)
			}
			seen, ok := impl.SeePlaces(m, impl.AllPlaces(m), way, 0)
			if !ok || !slices.Equal(l, seen) {
				t.Errorf("%v along %d: %v, those with nothing ahead are %v", m, way, l, seen)
			}
		}
	}
}

// Where one is is among the places that are seen and stepped with it.
func TestPlacesHoldWhereOneIs(t *testing.T) {
	r := rand.New(rand.NewSource(185))
	for range 100 {
		m := drawnCells(r, drawnBetween(r, 2, mostWide), drawnBetween(r, 2, mostWide), 5)
		all := impl.AllPlaces(m)
		if len(all) == 0 {
			continue
		}
		at, believed, ok := all[r.Intn(len(all))], all, true
		for range 30 {
			way := r.Intn(4)
			believed, ok = impl.SeePlaces(m, believed, way, impl.FarOf(m, at, way))
			if !ok || !slices.Contains(believed, at) {
				t.Fatalf("%v: %d is not among %v", m, at, believed)
			}
			here, okHere := impl.StepPlaces(m, []int{at}, way)
			if believed, ok = impl.StepPlaces(m, believed, way); !ok || !okHere || len(here) != 1 || !slices.Contains(believed, here[0]) {
				t.Fatalf("%v: %v is not among %v", m, here, believed)
			}
			at = here[0]
		}
	}
}
