package tests

import (
	"math/rand"
	"slices"
	"testing"

	"loop.example/g00047/impl"
)

// planCase is told by hand; the empty text where there is no plan. With one tick less there is none where tight is true.
type planCase struct {
	m, l  string
	ticks int
	want  string
	tight bool
}

func (c planCase) check(t *testing.T) {
	t.Helper()
	m, l := cellsOf(c.m), tripsOf(c.l)
	got, ok := impl.PlanCrowd(m, l, c.ticks)
	if ok != (c.want != "") || c.want == "" && len(got) != 0 || c.want != "" && !samePaths(got, pathsOf(c.want)) {
		t.Errorf("PlanCrowd of %s, %s, %d: %v %v, want %s", c.m, c.l, c.ticks, got, ok, c.want)
	}
	checkPlan(t, m, l, c.ticks, bestByLayers)
	if less, ok := impl.PlanCrowd(m, l, c.ticks-1); c.tight && (ok || len(less) != 0) {
		t.Errorf("PlanCrowd of %s, %s, %d: %v %v", c.m, c.l, c.ticks-1, less, ok)
	}
}

func TestPlanCrowdAlone(t *testing.T) {
	for _, c := range []planCase{
		{".", "0>0", 0, "0", true},
		{".", "0>0", 3, "0 0 0 0", false},
		{"...", "1>1", 2, "1 1 1", false},
		{"...", "0>2", 2, "0 1 2", true},
		{"...", "2>0", 2, "2 1 0", true},
		{"...", "0>2", 4, "0 1 2 2 2", false},
		{".|.|.", "0>2", 3, "0 1 2 2", false},
		{".|.|.", "2>0", 2, "2 1 0", true},
		// Of two ways round the least list.
		{"..|..", "0>3", 2, "0 1 3", true},
		{"..|..", "3>0", 2, "3 1 0", true},
		{"..|..", "1>2", 2, "1 0 2", true},
		{"..|..", "2>1", 2, "2 0 1", true},
		{"...|.#.|...", "0>8", 5, "0 1 2 5 8 8", false},
		{"...|.#.|...", "8>0", 4, "8 5 2 1 0", true},
		{"...|...|...", "6>2", 4, "6 3 0 1 2", true},
		{"...|...|...", "2>6", 4, "2 1 0 3 6", true},
		// Not across corners, not through walls or what is not known.
		{".#|..", "0>3", 2, "0 2 3", true},
		{".#|#.", "0>3", 20, "", false},
		{".?|?.", "0>3", 20, "", false},
		{".#.", "0>2", 20, "", false},
		{".?.", "0>2", 20, "", false},
		// Not over the edge: 2 and 3 are next to each other as numbers alone.
		{"...|...", "2>3", 1, "", false},
		{"...|...", "2>3", 3, "2 1 0 3", true},
		{".#.|.#.", "2>3", 20, "", false},
	} {
		c.check(t)
	}
}

func TestPlanCrowdByHand(t *testing.T) {
	for _, c := range []planCase{
		// Side by side, behind one another, and round in a ring.
		{"..", "0>0 1>1", 0, "0|1", true},
		{"..", "0>0 1>1", 2, "0 0 0|1 1 1", false},
		{"...", "1>2 0>1", 1, "1 2|0 1", true},
		{"...", "0>1 1>2", 1, "0 1|1 2", true},
		{"....", "2>3 1>2 0>1", 1, "2 3|1 2|0 1", true},
		{"....", "0>1 1>2 2>3", 1, "0 1|1 2|2 3", true},
		{"..|..", "0>1 1>3 3>2 2>0", 1, "0 1|1 3|3 2|2 0", true},
		{"..|..", "0>2 2>3 3>1 1>0", 1, "0 2|2 3|3 1|1 0", true},
		{"..|..", "0>1 1>3 3>0", 2, "0 1 1|1 3 3|3 2 0", true},
		{"...|.#.|...", "0>1 1>2 2>5 5>8 8>7", 1, "0 1|1 2|2 5|5 8|8 7", true},
		{"...|.#.|...", "0>3 3>6 6>7 7>8 8>5", 2, "0 3 3|3 6 6|6 7 7|7 8 8|8 5 5", false},
		// Changing places: not in a corridor, and beside another row the second one goes round.
		{"..", "0>1 1>0", 20, "", false},
		{"...", "0>2 2>0", 20, "", false},
		{".|.|.", "0>2 2>0", 20, "", false},
		{"................", "0>15 15>0", 20, "", false},
		{"..|..", "0>1 1>0", 3, "0 1 1 1|1 3 2 0", true},
		{"..|..", "0>1 1>0", 4, "0 1 1 1 1|1 3 2 0 0", false},
		{"...|...", "0>2 2>0", 4, "0 1 2 2 2|2 5 4 1 0", false},
		// Beside a bay the second one comes to it, waits there, and goes on behind the first one.
		{".....|###.#", "0>4 4>0", 7, "0 1 2 3 4 4 4 4|4 3 3 8 3 2 1 0", true},
		{"###.#|.....", "5>9 9>5", 7, "5 6 7 8 9 9 9 9|9 8 3 3 8 7 6 5", true},
		{".....|#.###", "4>0 0>4", 7, "4 3 2 1 0 0 0 0|0 0 1 6 1 2 3 4", true},
		// The bay at the first one's end, or out of the second one's reach, helps nothing.
		{".....|####.", "0>4 4>0", 20, "", false},
		{".....|#.###", "0>4 4>0", 20, "", false},
		{"...|#.#", "0>2 2>0", 20, "", false},
		// Who stands in the way of an elder one steps aside, if it can.
		{"...", "0>2 1>1", 20, "", false},
		{"...|#.#", "0>2 1>1", 2, "0 1 2|1 4 1", true},
		{"...|#.#", "0>2 1>4", 2, "0 1 2|1 4 4", true},
		{"#.#|...", "3>5 4>4", 2, "3 4 5|4 1 4", true},
		// An elder one that stays stands in the way for good.
		{"...", "1>1 0>2", 20, "", false},
		{"...|#.#", "1>1 0>2", 20, "", false},
		{"...|...", "1>1 0>2", 4, "1 1 1 1 1|0 3 4 5 2", true},
		{"....", "0>1 2>0", 20, "", false},
		{"...|...", "0>1 2>0", 4, "0 1 1 1 1|2 5 4 3 0", true},
		// But not earlier: who goes ahead of it gets through.
		{".....", "0>3 1>4", 3, "0 1 2 3|1 2 3 4", true},
		{".....", "1>3 0>4", 20, "", false},
		{".....|.....", "9>2 1>3", 4, "9 4 3 2 2|1 2 7 8 3", true},
		{".....|.....", "9>2 0>7", 3, "9 4 3 2|0 1 2 7", true},
		// An elder one crosses where the younger one wants to be: it goes away once more, comes there twice, or comes later, whichever list is least.
		{".....|##.##", "0>4 2>2", 4, "0 1 2 3 4|2 2 7 2 2", true},
		{".....|##.##", "0>4 7>2", 4, "0 1 2 3 4|7 2 7 2 2", true},
		{"##.##|.....", "5>9 2>7", 4, "5 6 7 8 9|2 2 2 7 7", true},
		{"##.##|.....", "5>9 7>7", 4, "5 6 7 8 9|7 2 2 7 7", true},
		{".....", "0>4 2>2", 20, "", false},
		// Two elder ones cross there, at the ticks 2 and 3; between them nobody is there for good.
		{"......|##.###", "1>5 0>4 2>2", 4, "1 2 3 4 5|0 1 2 3 4|2 8 8 2 2", true},
		{"......|##.###", "1>5 0>4 8>2", 4, "1 2 3 4 5|0 1 2 3 4|8 8 8 2 2", true},
		// One that comes there later on makes way for nobody: the elder one is planned as if it were alone.
		{"...|.#.", "0>2 2>5", 2, "0 1 2|2 5 5", true},
		{"...|.#.", "0>2 5>3", 20, "", false},
		{"...|...", "0>2 5>3", 2, "0 1 2|5 4 3", true},
		{"...|...", "0>2 1>1", 2, "0 1 2|1 4 1", true},
		{"...|...", "0>5 1>1", 3, "0 1 2 5|1 4 1 1", true},
	} {
		c.check(t)
	}
}

// From and To may be alike, in each place of the list, and From of one may be To of another.
func TestPlanCrowdOfNobodyAndOfThoseThatStay(t *testing.T) {
	for _, m := range []impl.Cells{cellsOf("."), cellsOf("#"), open(1, mostWide), open(mostWide, 1), open(mostWide, mostWide), cellsOf("..#|?..")} {
		for _, ticks := range []int{0, 1, mostSoon} {
			for _, l := range [][]impl.Trip{nil, {}} {
				if got, ok := impl.PlanCrowd(m, l, ticks); len(got) != 0 || !ok {
					t.Errorf("PlanCrowd of %v, nobody, %d: %v %v", m, ticks, got, ok)
				}
			}
			l := []impl.Trip{}
			for _, at := range placesOf(m)[:min(mostCrowd, len(placesOf(m)))] {
				l = append(l, impl.Trip{From: at, To: at})
			}
			got, ok := checkPlan(t, m, l, ticks, bestByLayers)
			if !ok || len(got) != len(l) {
				t.Errorf("PlanCrowd of %v, %v, %d: %v %v", m, l, ticks, got, ok)
			}
			for i, p := range got {
				if !slices.Equal(p, slices.Repeat([]int{l[i].From}, ticks+1)) {
					t.Errorf("PlanCrowd of %v, %v, %d: %v", m, l, ticks, p)
				}
			}
		}
	}
}

// Just as many ticks as are needed, and one less; 20 are the most.
func TestPlanCrowdOfTicks(t *testing.T) {
	m := open(mostWide, mostWide)
	for _, c := range []struct {
		to, need int
	}{{0, 0}, {1, 1}, {16, 1}, {17, 2}, {15, 15}, {240, 15}, {160, 10}, {169, 19}, {170, 20}, {100, 10}, {255, 30}, {171, 21}, {186, 21}} {
		l := []impl.Trip{{From: 0, To: c.to}}
		if alone := impl.AloneTicks(m, l[0]); alone != c.need {
			t.Fatalf("AloneTicks to %d: %d, want %d", c.to, alone, c.need)
		}
		for ticks := -2; ticks <= mostSoon+2; ticks++ {
			want := ticks >= c.need && ticks <= mostSoon
			got, ok := impl.PlanCrowd(m, l, ticks)
			if ok != want || ok && (len(got) != 1 || len(got[0]) != ticks+1 || there(got[0]) != c.need) || !ok && len(got) != 0 {
				t.Errorf("PlanCrowd to %d, %d ticks: %v %v", c.to, ticks, got, ok)
			}
		}
		checkPlan(t, m, l, min(c.need, mostSoon), bestByLayers)
		checkPlan(t, m, l, mostSoon, bestByLayers)
	}
}

// All maps of up to six cells, any one trip and any two: held against all paths, one by one.
func TestPlanCrowdAgainstAllPaths(t *testing.T) {
	for _, sides := range [][2]int{{1, 1}, {1, 2}, {2, 1}, {3, 1}, {1, 3}, {2, 2}, {4, 1}, {1, 4}, {2, 3}, {3, 2}} {
		n, told := sides[0]*sides[1], 0
		eachMap(sides[0], sides[1], func(m impl.Cells) {
			for code := range n * n * n * n {
				l := []impl.Trip{{From: code % n, To: code / n % n}, {From: code / n / n % n, To: code / n / n / n}}
				if !isTrips(m, l) {
					continue
				}
				if _, ok := checkPlan(t, m, l, 1+code%5, bestOfPaths); ok {
					told++
				}
				if code < n*n {
					checkPlan(t, m, l[:1], code%6, bestOfPaths)
				}
			}
		})
		if n > 1 && told == 0 {
			t.Errorf("nothing was told for %v", sides)
		}
	}
}

// Up to five on small maps, held against all paths.
func TestDrawnCrowdsAgainstAllPaths(t *testing.T) {
	r := rand.New(rand.NewSource(320))
	seen, none := map[int]int{}, 0
	for range 400 {
		m := drawnCells(r, drawnBetween(r, 1, 4), drawnBetween(r, 1, 3), drawnBetween(r, 3, 9))
		l := drawnTrips(r, m, drawnBetween(r, 2, mostCrowd))
		if got, ok := checkPlan(t, m, l, drawnBetween(r, 2, 6), bestOfPaths); ok {
			seen[len(got)]++
		} else {
			none++
		}
	}
	if seen[3] < 10 || seen[5] < 3 || none < 30 {
		t.Errorf("by how many there were: %v, and %d without a plan", seen, none)
	}
}

// The same at more ticks, from cell to cell: one row, one column, all sizes.
func TestDrawnCrowds(t *testing.T) {
	r := rand.New(rand.NewSource(321))
	for _, sides := range [][2]int{{mostWide, 1}, {1, mostWide}, {2, mostWide}, {mostWide, 2}, {3, 3}, {4, 4}, {5, 5}, {7, 6}, {mostWide, mostWide}} {
		seen, none, later := map[int]int{}, 0, 0
		for i := range 60 {
			m := open(sides[0], sides[1])
			if i%2 == 1 {
				m = drawnCells(r, sides[0], sides[1], drawnBetween(r, 4, 9))
			}
			if len(placesOf(m)) < mostCrowd {
				continue
			}
			l := drawnNear(r, m, drawnBetween(r, 1, mostCrowd), drawnBetween(r, 0, 14))
			got, ok := checkPlan(t, m, l, drawnBetween(r, mostSoon/2, mostSoon), bestByLayers)
			if !ok {
				none++
				continue
			}
			seen[len(got)]++
			for i, p := range got {
				if there(p) > impl.AloneTicks(m, l[i]) {
					later++
				}
			}
		}
		if len(seen) < 3 || none < 1 && min(sides[0], sides[1]) < 3 || later < 1 && min(sides[0], sides[1]) > 1 {
			t.Errorf("of %v, by how many there were: %v, %d without a plan, %d later than alone", sides, seen, none, later)
		}
	}
}

// Mazes: there is one way alone, so that whoever comes the other way has to find a bay, or there is none.
func TestCrowdsInMazes(t *testing.T) {
	r := rand.New(rand.NewSource(322))
	for _, m := range []impl.Cells{winding(mostWide, mostWide), winding(5, 9), spiral(mostWide), spiral(9), cellsOf("................|#.#.#.#.#.#.#.#."), cellsOf("#.#.#.#|.......|.#.#.#.")} {
		for range 30 {
			l := drawnNear(r, m, drawnBetween(r, 2, mostCrowd), drawnBetween(r, 1, 30))
			checkPlan(t, m, l, mostSoon, bestByLayers)
		}
	}
}

// Who is named first goes first: the order of the trips counts, and a trip more changes no path ahead of it.
func TestCrowdsGoByTheirOrder(t *testing.T) {
	r := rand.New(rand.NewSource(323))
	other := 0
	for range 100 {
		m := drawnCells(r, 5, 4, 6)
		l := drawnNear(r, m, 4, 5)
		got, ok := impl.PlanCrowd(m, l, 15)
		for n := range l {
			fewer, okToo := impl.PlanCrowd(m, l[:n], 15)
			if ok && (!okToo || !samePaths(fewer, got[:n])) {
				t.Errorf("PlanCrowd of %v, %v: %v, of the first %d alone %v %v", m, l, got, n, fewer, okToo)
			}
		}
		back := slices.Clone(l)
		slices.Reverse(back)
		turned, okToo := impl.PlanCrowd(m, back, 15)
		slices.Reverse(turned)
		if ok != okToo || !samePaths(got, turned) {
			other++
		}
		checkPlan(t, m, back, 15, bestByLayers)
	}
	if other < 10 {
		t.Errorf("only %d plans hang on the order", other)
	}
}
