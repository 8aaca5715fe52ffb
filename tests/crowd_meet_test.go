package tests

import (
	"math"
	"math/rand"
	"slices"
	"testing"

	"loop.example/g00047/impl"
)

func TestFirstMeetByHand(t *testing.T) {
	for _, c := range []struct {
		paths [][]int
		want  int
	}{
		// Nobody, one, and lists of no cells.
		{nil, -1}, {[][]int{}, -1}, {[][]int{{}}, -1}, {[][]int{nil, nil}, -1}, {[][]int{{}, nil, {}}, -1},
		{[][]int{{0}}, -1}, {[][]int{{3, 3, 3}}, -1}, {[][]int{{0, 1, 0}}, -1},
		// Unlike lengths.
		{[][]int{{0}, {}}, -1}, {[][]int{{}, {0}}, -1}, {[][]int{{0, 1}, {0}}, -1}, {[][]int{{0}, {0}, {0, 1}}, -1}, {[][]int{{5}, {5, 5}}, -1},
		// At one cell.
		{[][]int{{0}, {0}}, 0}, {[][]int{{0}, {1}}, -1}, {[][]int{{0, 1, 2}, {0, 1, 2}}, 0}, {[][]int{{0, 1, 2}, {2, 2, 2}}, 2},
		{[][]int{{0, 1}, {2, 1}}, 1}, {[][]int{{0, 1, 2, 3}, {9, 9, 9, 3}}, 3}, {[][]int{{0, 1, 0}, {5, 6, 0}}, 2},
		// Changing places; not from further away, and not a tick apart.
		{[][]int{{0, 1}, {1, 0}}, 1}, {[][]int{{7, -7}, {-7, 7}}, 1}, {[][]int{{0, 0, 1}, {1, 1, 0}}, 2}, {[][]int{{0, 9}, {9, 0}}, 1},
		{[][]int{{0, 1}, {2, 0}}, -1}, {[][]int{{0, 1}, {1, 2}}, -1}, {[][]int{{1, 2}, {0, 1}}, -1}, {[][]int{{0, 1, 1}, {1, 2, 0}}, -1}, {[][]int{{0, 1, 2}, {2, 0, 1}}, -1},
		// A ring of three, of four and of five that go round.
		{[][]int{{0, 1}, {1, 2}, {2, 0}}, -1}, {[][]int{{0, 1, 2, 0}, {1, 2, 0, 1}, {2, 0, 1, 2}}, -1}, {[][]int{{0, 1}, {1, 2}, {2, 3}, {3, 0}}, -1},
		{[][]int{{0, 1}, {1, 2}, {2, 3}, {3, 4}, {4, 0}}, -1}, {[][]int{{0, 1}, {1, 2}, {2, 0}, {3, 4}, {4, 3}}, 1},
		// The first of several, whoever they are.
		{[][]int{{0, 1, 2}, {1, 0, 2}, {5, 5, 5}}, 1}, {[][]int{{0, 1, 2, 3}, {4, 5, 6, 3}, {7, 8, 6, 9}}, 2}, {[][]int{{0, 1, 2, 3}, {0, 5, 6, 7}, {9, 5, 8, 7}}, 0},
		{[][]int{{0, 1, 2}, {5, 6, 7}, {9, 6, 2}}, 1}, {[][]int{{9, 8, 7}, {0, 1, 2}, {9, 6, 2}}, 0}, {[][]int{{0, 1, 2}, {2, 3, 1}, {3, 2, 4}}, 1},
		// The last two of five.
		{[][]int{{0, 0}, {1, 1}, {2, 2}, {3, 4}, {4, 3}}, 1}, {[][]int{{0, 0}, {1, 1}, {2, 2}, {3, 4}, {5, 4}}, 1}, {[][]int{{0}, {1}, {2}, {3}, {4}}, -1}, {[][]int{{0}, {1}, {2}, {3}, {3}}, 0}, {[][]int{{0}, {1}, {2}, {3}, {0}}, 0},
		// Six are too many, even where all meet.
		{[][]int{{0}, {1}, {2}, {3}, {4}, {5}}, -1}, {[][]int{{0}, {0}, {0}, {0}, {0}, {0}}, -1}, {[][]int{{0}, {0}, {0}, {0}, {0}}, 0}, {[][]int{{}, {}, {}, {}, {}, {}}, -1},
		// Any numbers.
		{[][]int{{-1, -2}, {-2, -1}}, 1}, {[][]int{{-1}, {-1}}, 0}, {[][]int{{math.MinInt, math.MaxInt}, {math.MaxInt, math.MinInt}}, 1},
		{[][]int{{math.MinInt, 0}, {math.MaxInt, 0}}, 1}, {[][]int{{math.MinInt, 0}, {math.MaxInt, -1}}, -1}, {[][]int{{1 << 32, 0}, {0, 1}}, -1}, {[][]int{{1<<32 + 1}, {1}}, -1}, {[][]int{{300, 44}, {44, 300}}, 1},
	} {
		if got := impl.FirstMeet(c.paths); got != c.want {
			t.Errorf("FirstMeet of %v: %d, want %d", c.paths, got, c.want)
		}
		checkFirstMeet(t, c.paths)
	}
}

// All pairs of lists of up to three cells among three, and all threes of up to two.
func TestFirstMeetOfAllShortLists(t *testing.T) {
	lists := [][]int{{}}
	for from := 0; len(lists) < 1+3+9+27; from++ {
		for at := range 3 {
			lists = append(lists, append(slices.Clip(lists[from]), at-1))
		}
	}
	seen := map[int]int{}
	for _, a := range lists {
		for _, b := range lists {
			checkFirstMeet(t, [][]int{a, b})
			seen[impl.FirstMeet([][]int{a, b})]++
			for _, c := range lists[:1+3+9] {
				if len(a) < 3 && len(b) < 3 {
					checkFirstMeet(t, [][]int{a, b, c})
				}
			}
		}
	}
	if !slices.Equal(seenMost(seen), []int{-1, 0, 1, 2}) {
		t.Errorf("only %v", seen)
	}
}

func TestFirstMeetOfDrawnLists(t *testing.T) {
	r := rand.New(rand.NewSource(324))
	far := append([]int{-1, 256, 1 << 32}, farInts...)
	seen := map[int]int{}
	for range 2000 {
		n, long, among := drawnBetween(r, 2, mostCrowd+1), drawnBetween(r, 0, 12), drawnBetween(r, 2, 40)
		paths := [][]int{}
		for range n {
			p := []int{}
			for range long {
				at := r.Intn(among)
				if r.Intn(6) == 0 {
					at = far[r.Intn(len(far))]
				}
				p = append(p, at)
			}
			paths = append(paths, p)
		}
		if r.Intn(8) == 0 {
			paths[r.Intn(n)] = append(paths[r.Intn(n)], 0)
		}
		checkFirstMeet(t, paths)
		seen[impl.FirstMeet(paths)]++
	}
	if len(seen) < 8 {
		t.Errorf("only %v", seen)
	}
}

// One meeting alone, at any tick, of any two, in either of the two ways.
func TestFirstMeetIsFoundAnywhere(t *testing.T) {
	for _, long := range []int{1, 2, 21, 300} {
		for n := 2; n <= mostCrowd; n++ {
			for i := range n {
				for k := range n {
					for _, tick := range []int{0, 1, long / 2, long - 1} {
						if i == k || tick >= long {
							continue
						}
						for _, swap := range []bool{false, true} {
							paths := [][]int{}
							for one := range n {
								paths = append(paths, slices.Repeat([]int{10 * one}, long))
							}
							if swap && tick == 0 {
								continue
							}
							paths[k][tick] = 10 * i
							if swap {
								paths[i][tick] = 10 * k
							}
							if got := impl.FirstMeet(paths); got != tick {
								t.Errorf("FirstMeet of %d lists of %d, %d and %d at %d (%v): %d", n, long, i, k, tick, swap, got)
							}
						}
					}
				}
			}
		}
	}
}

// Long lists take no longer than it takes to go through them.
func TestFirstMeetOfLongLists(t *testing.T) {
	long := 300000
	paths := make([][]int, mostCrowd)
	for i := range paths {
		for tick := range long {
			paths[i] = append(paths[i], i+mostCrowd*tick)
		}
	}
	if got := impl.FirstMeet(paths); got != -1 {
		t.Errorf("FirstMeet: %d", got)
	}
	paths[1][long-1] = paths[3][long-1]
	if got := impl.FirstMeet(paths); got != long-1 {
		t.Errorf("FirstMeet: %d", got)
	}
}

// What is good, and each of the conditions spoilt by itself.
func TestGoodPathsByHand(t *testing.T) {
	for _, c := range []struct {
		m, l  string
		paths [][]int
		want  bool
	}{
		{"...|...", "", nil, true},
		{"...|...", "", [][]int{}, true},
		{"...|...", "0>2", [][]int{{0, 1, 2}}, true},
		{"...|...", "0>2 3>3", [][]int{{0, 1, 2}, {3, 3, 3}}, true},
		{"...|...", "0>2 3>3", [][]int{{0, 1, 2, 1, 2}, {3, 4, 5, 4, 3}}, true},
		{"...|...", "0>0", [][]int{{0}}, true},
		{"...|...", "0>0 1>1 2>2 3>3 4>4", [][]int{{0}, {1}, {2}, {3}, {4}}, true},
		{"..|..", "0>1 1>3 3>2 2>0", [][]int{{0, 1}, {1, 3}, {3, 2}, {2, 0}}, true},
		// One path too many, and too few.
		{"...|...", "", [][]int{{0}}, false},
		{"...|...", "", [][]int{{}}, false},
		{"...|...", "0>2", nil, false},
		{"...|...", "0>2", [][]int{}, false},
		{"...|...", "0>2", [][]int{{0, 1, 2}, {3, 3, 3}}, false},
		{"...|...", "0>2 3>3", [][]int{{0, 1, 2}}, false},
		{"...|...", "0>2 3>3", [][]int{{0, 1, 2}, {3, 3, 3}, {4, 4, 4}}, false},
		// Unlike lengths.
		{"...|...", "0>2 3>3", [][]int{{0, 1, 2}, {3, 3}}, false},
		{"...|...", "0>2 3>3", [][]int{{0, 1, 2}, {3, 3, 3, 3}}, false},
		{"...|...", "0>2 3>3", [][]int{{0, 1, 2}, {3}}, false},
		// Of no cells.
		{"...|...", "0>2", [][]int{{}}, false},
		{"...|...", "0>2", [][]int{nil}, false},
		{"...|...", "0>0 1>1", [][]int{{}, {}}, false},
		{"...|...", "0>0 1>1", [][]int{{0}, {}}, false},
		// Another beginning, another end, each of the first and of the last one.
		{"...|...", "0>2", [][]int{{1, 1, 2}}, false},
		{"...|...", "0>2", [][]int{{0, 1, 1}}, false},
		{"...|...", "0>2", [][]int{{0, 1}}, false},
		{"...|...", "0>2", [][]int{{1, 2}}, false},
		{"...|...", "0>2 3>3", [][]int{{0, 1, 2}, {4, 3, 3}}, false},
		{"...|...", "0>2 3>3", [][]int{{0, 1, 2}, {3, 3, 4}}, false},
		{"...|...", "0>0", [][]int{{1}}, false},
		{"...|...", "0>1", [][]int{{0}}, false},
		{"...|...", "0>1", [][]int{{1}}, false},
		{"...|...", "0>2 3>3", [][]int{{3, 3, 3}, {0, 1, 2}}, false},
		// Across a corner, into a wall or what is not known, over the edge, of two cells.
		{"...|...", "0>4", [][]int{{0, 4}}, false},
		{"...|...", "0>4", [][]int{{0, 1, 4}}, true},
		{"...|...", "1>3", [][]int{{1, 3}}, false},
		{".#.|...", "0>2", [][]int{{0, 1, 2}}, false},
		{".?.|...", "0>2", [][]int{{0, 1, 2}}, false},
		{"...|...", "2>3", [][]int{{2, 3}}, false},
		{"...|...", "3>2", [][]int{{3, 2}}, false},
		{"...|...", "0>2", [][]int{{0, 2}}, false},
		{".|.|.", "0>2", [][]int{{0, 2}}, false},
		{".|.|.", "0>2", [][]int{{0, 1, 2}}, true},
		{"...|...", "0>0", [][]int{{0, 5, 0}}, false},
		{"...|...", "0>0", [][]int{{0, -1, 0}}, false},
		{"...|...", "0>0", [][]int{{0, -3, 0}}, false},
		{"...|...", "5>5", [][]int{{5, 6, 5}}, false},
		{"...|...", "5>5", [][]int{{5, 8, 5}}, false},
		{"...|...", "0>0", [][]int{{0, math.MaxInt, 0}}, false},
		{"...|...", "0>0", [][]int{{0, math.MinInt, 0}}, false},
		// A meeting, at a cell or by changing places.
		{"...|...", "0>2 2>5", [][]int{{0, 1, 2}, {2, 2, 5}}, true},
		{"...|...", "0>2 4>5", [][]int{{0, 1, 2}, {4, 1, 2}}, false},
		{"...|...", "0>2 4>5", [][]int{{0, 1, 2, 2}, {4, 1, 4, 5}}, false},
		{"...|...", "0>1 1>0", [][]int{{0, 1}, {1, 0}}, false},
		{"...|...", "0>2 2>0", [][]int{{0, 1, 2, 2}, {2, 1, 0, 0}}, false},
		{"...|...", "0>2 2>0", [][]int{{0, 0, 1, 2}, {2, 1, 0, 0}}, false},
		{"...|...", "0>2 2>0", [][]int{{0, 1, 2, 2, 2}, {2, 5, 4, 3, 0}}, true},
		// Trips that are not good, whatever the paths are.
		{"...|...", "0>2 0>3", [][]int{{0, 1, 2, 2}, {0, 3, 3, 3}}, false},
		{"...|...", "0>1 2>1", [][]int{{0, 1}, {2, 1}}, false},
		{".#.|...", "1>1", [][]int{{1}}, false},
		{"...|...", "6>6", [][]int{{6}}, false},
		{"...|...", "0>0 1>1 2>2 3>3 4>4 5>5", [][]int{{0}, {1}, {2}, {3}, {4}, {5}}, false},
	} {
		m, l := cellsOf(c.m), tripsOf(c.l)
		if got := impl.GoodPaths(m, l, c.paths); got != c.want {
			t.Errorf("GoodPaths of %s, %s, %v: %v", c.m, c.l, c.paths, got)
		}
		checkPaths(t, m, l, c.paths)
	}
}

// Plans, with one number, one path or one trip spoilt: whatever comes of it.
func TestSpoiltPaths(t *testing.T) {
	r := rand.New(rand.NewSource(325))
	seen := map[bool]int{}
	for range 300 {
		m := drawnCells(r, drawnBetween(r, 2, 6), drawnBetween(r, 2, 6), 6)
		if len(placesOf(m)) < mostCrowd {
			continue
		}
		l := drawnNear(r, m, drawnBetween(r, 1, mostCrowd), 5)
		paths, ok := impl.PlanCrowd(m, l, 12)
		if !ok {
			continue
		}
		for range 12 {
			other, trips := clonePaths(paths), slices.Clone(l)
			i := r.Intn(len(l))
			near := goesFrom(m)[other[i][0]]
			switch r.Intn(7) {
			case 0:
				other[i][r.Intn(13)] = r.Intn(len(m.Cells)+2) - 1
			case 1:
				// Longer by a stay at the beginning, which may be good by itself, and all others longer at the end.
				for k := range other {
					other[k] = append(other[k], other[k][12])
				}
				other[i] = append([]int{other[i][0]}, other[i][:13]...)
			case 2:
				other[i] = append(other[i], other[i][12])
			case 3:
				other[i] = append([]int{near[r.Intn(len(near))]}, other[i][:12]...)
			case 4:
				trips[i].To = r.Intn(len(m.Cells))
			case 5:
				other = slices.Delete(other, i, i+1)
			case 6:
				k := r.Intn(len(l))
				other[i], other[k] = other[k], other[i]
				trips[i], trips[k] = trips[k], trips[i]
			}
			checkTrips(t, m, trips)
			checkPaths(t, m, trips, other)
			seen[impl.GoodPaths(m, trips, other)]++
		}
	}
	if seen[true] < 100 || seen[false] < 100 {
		t.Errorf("only %v", seen)
	}
}

// Walks that were not planned: some meet.
func TestDrawnPaths(t *testing.T) {
	r := rand.New(rand.NewSource(326))
	seen := map[bool]int{}
	for i := range 400 {
		m := drawnCells(r, drawnBetween(r, 1, 7), drawnBetween(r, 1, 7), drawnBetween(r, 3, 9))
		if i%40 == 0 {
			m = open(mostWide, mostWide)
		}
		paths, l := drawnWalks(r, m, drawnBetween(r, 1, mostCrowd), drawnBetween(r, 0, 9))
		checkTrips(t, m, l)
		checkPaths(t, m, l, paths)
		seen[impl.GoodPaths(m, l, paths)]++
	}
	if seen[true] < 60 || seen[false] < 60 {
		t.Errorf("only %v", seen)
	}
}

// There is no limit to the ticks of a path that is asked about.
func TestGoodPathsOfManyTicks(t *testing.T) {
	m := open(mostWide, mostWide)
	all := snake(mostWide, mostWide)
	l := []impl.Trip{{From: all[1], To: all[255]}, {From: all[0], To: all[254]}}
	paths := [][]int{all[1:], all[:255]}
	if !impl.GoodPaths(m, l, paths) {
		t.Error("GoodPaths of one behind another through all cells is false")
	}
	checkPaths(t, m, l, paths)
	paths[1] = slices.Clone(paths[1])
	paths[1][200] = paths[1][199]
	checkPaths(t, m, l, paths)
	if impl.GoodPaths(m, l, paths) {
		t.Error("GoodPaths with a step of two cells is true")
	}
}
