package tests

import (
	"math/rand"
	"testing"

	"loop.example/g00047/impl"
)

func TestAloneTicksByHand(t *testing.T) {
	for _, c := range []struct {
		m        string
		from, to int
		want     int
	}{
		{".", 0, 0, 0}, {"#", 0, 0, -1}, {"?", 0, 0, -1}, {"..", 0, 1, 1}, {"..", 1, 0, 1}, {"..", 1, 1, 0}, {".|.", 0, 1, 1},
		// Not across corners.
		{"..|..", 0, 3, 2}, {"..|..", 1, 2, 2}, {".#|..", 0, 3, 2}, {".#|#.", 0, 3, -1}, {".?|?.", 0, 3, -1}, {".#|#.", 0, 0, 0}, {".?|..", 0, 3, 2},
		// Not over the edge.
		{"...|...", 2, 3, 3}, {"...|...", 3, 2, 3}, {".#.|.#.", 2, 3, -1}, {"...|...", 0, 5, 3},
		{"...|.#.|...", 0, 8, 4}, {"...|.#.|...", 3, 5, 4}, {"...|##.|...", 0, 6, 6}, {"...|###|...", 0, 8, -1}, {"...|.?.|...", 1, 7, 4},
		{"................", 0, 15, 15}, {".#.", 0, 2, -1}, {".?.", 0, 2, -1},
		// Trips that are not good.
		{"..#", 0, 2, -1}, {"..#", 2, 0, -1}, {"..#", 2, 2, -1}, {"..?", 2, 2, -1}, {"..", 0, 2, -1}, {"..", 2, 0, -1}, {"..", -1, 0, -1}, {"..", 0, -1, -1}, {"..", -1, -1, -1}, {"..", 2, 2, -1},
	} {
		if got := impl.AloneTicks(cellsOf(c.m), impl.Trip{From: c.from, To: c.to}); got != c.want {
			t.Errorf("AloneTicks of %s, %d, %d: %d, want %d", c.m, c.from, c.to, got, c.want)
		}
	}
}

// All maps of up to nine cells, from each number to each.
func TestAloneTicksOfAllSmallMaps(t *testing.T) {
	for _, sides := range [][2]int{{1, 1}, {1, 2}, {2, 1}, {1, 5}, {5, 1}, {2, 2}, {2, 3}, {3, 2}, {2, 4}, {4, 2}, {3, 3}} {
		eachMap(sides[0], sides[1], func(m impl.Cells) {
			for from := -1; from <= len(m.Cells); from++ {
				checkAlone(t, m, from)
			}
		})
	}
}

// All sizes, and mazes in which the way is long: more than 20 ticks, too.
func TestAloneTicksOfGreatMaps(t *testing.T) {
	r := rand.New(rand.NewSource(327))
	for _, m := range []impl.Cells{open(mostWide, mostWide), open(1, mostWide), open(mostWide, 1), winding(mostWide, mostWide), spiral(mostWide), spiral(9),
		drawnCells(r, mostWide, mostWide, 3), drawnCells(r, mostWide, mostWide, 5), drawnCells(r, mostWide, 9, 4), drawnCells(r, 9, mostWide, 4), drawnCells(r, 1, mostWide, 9), drawnCells(r, mostWide, 1, 9)} {
		for _, from := range append(placesIn(len(m.Cells)), placesOf(m)[0]) {
			checkAlone(t, m, from)
		}
	}
	for _, c := range []struct {
		m        impl.Cells
		from, to int
		want     int
	}{
		{open(mostWide, mostWide), 0, 255, 30}, {open(mostWide, mostWide), 15, 240, 30}, {winding(mostWide, mostWide), 0, 240, 135}, {winding(mostWide, mostWide), 240, 0, 135}, {winding(mostWide, mostWide), 0, 255, -1},
	} {
		if got := impl.AloneTicks(c.m, impl.Trip{From: c.from, To: c.to}); got != c.want {
			t.Errorf("AloneTicks of %v, %d, %d: %d, want %d", c.m, c.from, c.to, got, c.want)
		}
	}
}

// One alone is planned just as soon as it has ticks enough.
func TestAloneTicksArePlanned(t *testing.T) {
	r := rand.New(rand.NewSource(328))
	for range 200 {
		m := drawnCells(r, drawnBetween(r, 1, 6), drawnBetween(r, 1, 6), 4)
		for _, one := range drawnTrips(r, m, 1) {
			alone := impl.AloneTicks(m, one)
			for ticks := range mostSoon + 1 {
				if _, ok := impl.PlanCrowd(m, []impl.Trip{one}, ticks); ok != (alone >= 0 && ticks >= alone) {
					t.Errorf("PlanCrowd of %v, %v, %d: %v, alone %d", m, one, ticks, ok, alone)
				}
			}
		}
	}
}

func TestJointTicksByHand(t *testing.T) {
	for _, c := range []struct {
		m, l string
		want int
	}{
		// They do not hinder each other: the greater of both.
		{"..", "0>0 1>1", 0}, {"...|...", "0>2 3>3", 2}, {"...|...", "0>2 3>5", 2}, {"...|...", "0>0 3>5", 2}, {"...", "0>1 1>2", 1}, {"...", "1>2 0>1", 1}, {"...", "1>0 2>1", 1},
		{"..#..", "0>1 4>3", 1}, {"..|..", "0>1 3>2", 1}, {"..|..", "0>3 3>0", 2}, {"......|......|......|......|......|......", "0>35 5>30", 10},
		// Changing places: never in a corridor, round a square, beside a bay.
		{"..", "0>1 1>0", -1}, {"...", "0>2 2>0", -1}, {".|.|.|.|.", "0>4 4>0", -1}, {"................", "3>4 4>3", -1},
		{"..|..", "0>1 1>0", 3}, {"..|..", "0>2 2>0", 3}, {"...|...", "0>1 1>0", 3}, {"...|...", "0>2 2>0", 4},
		{"...|#.#", "0>2 2>0", 4}, {"...|#.#", "0>1 1>0", 3}, {".....|###.#", "0>4 4>0", 7}, {".....|##.##", "0>4 4>0", 6}, {".....|#.###", "0>4 4>0", 7}, {".....|####.", "0>4 4>0", -1}, {"....|#.##", "0>1 1>0", 3},
		// A ring of cells: nobody turns round in it, but they may go round.
		{"...|.#.|...", "0>2 2>0", 6}, {"...|.#.|...", "0>1 1>0", 7}, {"...|.#.|...", "0>8 8>0", 4},
		// The other one stands in the way, and steps aside, if there is where to.
		{"...", "0>2 1>1", -1}, {"...|#.#", "0>2 1>1", 2}, {"....", "0>2 1>3", 2}, {"....", "0>3 1>2", -1},
		// No path of the one, or of the other.
		{".#.", "0>2 2>0", -1}, {"..#.", "0>1 3>3", 1}, {"..#.", "0>3 1>1", -1}, {"..#.", "1>1 0>3", -1}, {".?.", "0>2 2>0", -1},
		// Trips that are not good.
		{"..", "0>0 0>1", -1}, {"..", "0>1 1>1", -1}, {"..", "0>0 0>0", -1}, {"..#", "0>0 2>2", -1}, {"..#", "2>2 0>0", -1}, {"..", "0>0 1>2", -1}, {"..", "-1>0 1>1", -1}, {"..?", "0>2 1>1", -1},
	} {
		m, l := cellsOf(c.m), tripsOf(c.l)
		if got := impl.JointTicks(m, l[0], l[1]); got != c.want {
			t.Errorf("JointTicks of %s, %s: %d, want %d", c.m, c.l, got, c.want)
		}
		checkJoint(t, m, l[0], l[1])
	}
}

// At most 36 cells, whatever their sides are; no sides have just 37.
func TestJointTicksOfManyCells(t *testing.T) {
	for wide := 1; wide <= mostWide; wide++ {
		for high := 1; high <= mostWide; high++ {
			m := open(wide, high)
			last := len(m.Cells) - 1
			if last == 0 {
				continue
			}
			across, stay := wide+high-2, 0
			if len(m.Cells) > 36 {
				across, stay = -1, -1
			}
			if min(wide, high) == 1 {
				// Nobody passes the other one in a corridor.
				across = -1
			}
			if got := impl.JointTicks(m, impl.Trip{From: 0, To: last}, impl.Trip{From: last, To: 0}); got != across {
				t.Errorf("JointTicks from corner to corner of %d, %d: %d, want %d", wide, high, got, across)
			}
			if got := impl.JointTicks(m, impl.Trip{From: 0, To: 0}, impl.Trip{From: last, To: last}); got != stay {
				t.Errorf("JointTicks of two that stay, of %d, %d: %d, want %d", wide, high, got, stay)
			}
		}
	}
	// Walls count as cells do.
	walled := cellsOf("..####|######|######|######|######|######|######")
	if got := impl.JointTicks(walled, impl.Trip{From: 0, To: 0}, impl.Trip{From: 1, To: 1}); got != -1 {
		t.Errorf("JointTicks of 42 cells, two of them free: %d", got)
	}
	if got := impl.JointTicks(impl.Cells{Wide: 37, Cells: make([]int, 37)}, impl.Trip{From: 0, To: 0}, impl.Trip{From: 1, To: 1}); got != -1 {
		t.Errorf("JointTicks of 37 cells: %d", got)
	}
	if got := impl.JointTicks(impl.Cells{Wide: 1, Cells: make([]int, 37)}, impl.Trip{From: 0, To: 0}, impl.Trip{From: 1, To: 1}); got != -1 {
		t.Errorf("JointTicks of 37 cells: %d", got)
	}
}

// All maps of up to six cells, any two trips.
func TestJointTicksOfAllSmallMaps(t *testing.T) {
	for _, sides := range [][2]int{{1, 1}, {1, 2}, {2, 1}, {3, 1}, {1, 3}, {2, 2}, {4, 1}, {1, 4}, {2, 3}, {3, 2}} {
		n := sides[0] * sides[1]
		eachMap(sides[0], sides[1], func(m impl.Cells) {
			for code := range n * n * n * n {
				if a, b := (impl.Trip{From: code % n, To: code / n % n}), (impl.Trip{From: code / n / n % n, To: code / n / n / n}); a.From <= b.From {
					checkJoint(t, m, a, b)
				}
			}
		})
	}
}

// Up to 36 cells, drawn; some can't, some take longer than either does alone.
func TestJointTicksOfDrawnMaps(t *testing.T) {
	r := rand.New(rand.NewSource(329))
	never, longer, same := 0, 0, 0
	for _, sides := range [][2]int{{6, 6}, {4, 9}, {9, 4}, {3, 12}, {12, 3}, {2, 16}, {16, 2}, {5, 7}, {3, 3}, {4, 4}} {
		for range 12 {
			m := drawnCells(r, sides[0], sides[1], drawnBetween(r, 2, 6))
			l := drawnTrips(r, m, 2)
			if len(l) < 2 {
				continue
			}
			if r.Intn(2) == 0 {
				l[1] = impl.Trip{From: l[0].To, To: l[0].From}
			}
			switch got := checkJoint(t, m, l[0], l[1]); {
			case got < 0:
				never++
			case got > max(impl.AloneTicks(m, l[0]), impl.AloneTicks(m, l[1])):
				longer++
			default:
				same++
			}
		}
	}
	if never < 10 || longer < 3 || same < 10 {
		t.Errorf("%d can't, %d take longer than alone, %d do not", never, longer, same)
	}
}

// Mazes in which both have to go a long way to pass each other.
func TestJointTicksOfMazes(t *testing.T) {
	for _, picture := range []string{"......|#####.|......|.#####|......|##.###", "......|.#####|......|#####.|......|.#####", ".........|########.|.........|#.#.#.#.#", "................|#######.########"} {
		m := cellsOf(picture)
		free := placesOf(m)
		a, b := impl.Trip{From: free[0], To: free[len(free)-1]}, impl.Trip{From: free[len(free)-1], To: free[0]}
		checkJoint(t, m, a, b)
		checkJoint(t, m, impl.Trip{From: free[0], To: free[1]}, impl.Trip{From: free[1], To: free[0]})
	}
}
