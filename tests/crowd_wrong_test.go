package tests

import (
	"math"
	"math/rand"
	"slices"
	"sync"
	"testing"

	"loop.example/g00047/impl"
)

// checkNoTrips: cells or trips that are not good have no answer anywhere.
func checkNoTrips(t *testing.T, m impl.Cells, l []impl.Trip) {
	t.Helper()
	if impl.GoodTrips(m, l) {
		t.Errorf("GoodTrips of %v, %v", m, l)
	}
	paths := [][]int{}
	for _, one := range l {
		paths = append(paths, []int{one.From})
	}
	for _, ticks := range []int{-1, 0, 1, mostSoon} {
		if got, ok := impl.PlanCrowd(m, l, ticks); ok || len(got) != 0 {
			t.Errorf("PlanCrowd of %v, %v, %d: %v %v", m, l, ticks, got, ok)
		}
	}
	for _, p := range [][][]int{nil, {}, paths} {
		if impl.GoodPaths(m, l, p) {
			t.Errorf("GoodPaths of %v, %v, %v", m, l, p)
		}
	}
	if len(l) == 1 && impl.AloneTicks(m, l[0]) != -1 {
		t.Errorf("AloneTicks of %v, %v: %d", m, l, impl.AloneTicks(m, l[0]))
	}
	if len(l) == 2 && (impl.JointTicks(m, l[0], l[1]) != -1 || impl.JointTicks(m, l[1], l[0]) != -1) {
		t.Errorf("JointTicks of %v, %v: %d", m, l, impl.JointTicks(m, l[0], l[1]))
	}
}

// checkNoCrowd: cells that are not good have no answer, not even for nobody.
func checkNoCrowd(t *testing.T, m impl.Cells) {
	t.Helper()
	if impl.GoodCells(m) {
		t.Fatalf("%v are good", m)
	}
	checkNoTrips(t, m, nil)
	checkNoTrips(t, m, []impl.Trip{})
	for _, at := range []int{0, 1, len(m.Cells) - 1, len(m.Cells), -1, math.MaxInt, math.MinInt} {
		checkNoTrips(t, m, []impl.Trip{{From: at, To: at}})
		checkNoTrips(t, m, []impl.Trip{{From: at, To: 0}, {From: 0, To: at}})
		checkNoTrips(t, m, []impl.Trip{{From: 0, To: 0}, {From: 1, To: at}})
	}
}

func TestCrowdsOfWrongSides(t *testing.T) {
	for _, m := range manySides() {
		if !isCells(m) {
			checkNoCrowd(t, m)
			continue
		}
		last := len(m.Cells) - 1
		if across := (impl.Trip{From: 0, To: last}); !impl.GoodTrips(m, []impl.Trip{across}) || impl.AloneTicks(m, across) != last%m.Wide+last/m.Wide {
			t.Errorf("GoodTrips or AloneTicks of %d, %d", m.Wide, last+1)
		}
	}
}

func TestCrowdsOfWrongKinds(t *testing.T) {
	for m := range wrongKinds() {
		checkNoCrowd(t, m)
	}
}

// Numbers that are no cells, and cells that are not free, as From and as To of each of up to five trips.
func TestWrongCellsInTrips(t *testing.T) {
	for _, m := range []impl.Cells{cellsOf("..#|?..|..."), open(6, 6), open(mostWide, mostWide), cellsOf("......#")} {
		for _, none := range notFree(m) {
			for many := 1; many <= mostCrowd; many++ {
				for i := range many {
					good := []impl.Trip{}
					for _, at := range placesOf(m)[:many] {
						good = append(good, impl.Trip{From: at, To: at})
					}
					if !impl.GoodTrips(m, good) {
						t.Fatalf("GoodTrips of %v, %v is false", m, good)
					}
					from, to, both := slices.Clone(good), slices.Clone(good), slices.Clone(good)
					from[i].From, to[i].To, both[i] = none, none, impl.Trip{From: none, To: none}
					checkNoTrips(t, m, from)
					checkNoTrips(t, m, to)
					checkNoTrips(t, m, both)
				}
			}
		}
	}
}

// Any two of up to five alike, and one more than five.
func TestTripsThatAreAlike(t *testing.T) {
	for _, m := range []impl.Cells{open(3, 2), open(1, 6), open(mostWide, mostWide)} {
		for many := 2; many <= mostCrowd; many++ {
			for i := range many {
				for k := range many {
					from, to := []impl.Trip{}, []impl.Trip{}
					for at := range many {
						from, to = append(from, impl.Trip{From: at, To: 5 - at}), append(to, impl.Trip{From: at, To: 5 - at})
					}
					checkPlan(t, m, from, 6, bestByLayers)
					if i != k {
						from[i].From, to[i].To = from[k].From, to[k].To
						checkNoTrips(t, m, from)
						checkNoTrips(t, m, to)
					}
				}
			}
		}
		six := []impl.Trip{}
		for at := range mostCrowd + 1 {
			six = append(six, impl.Trip{From: at, To: at})
		}
		checkNoTrips(t, m, six)
		for many := range six {
			if paths, ok := impl.PlanCrowd(m, six[:many], 3); !ok || !impl.GoodPaths(m, six[:many], paths) {
				t.Errorf("PlanCrowd of %d: %v %v", many, paths, ok)
			}
		}
		checkNoTrips(t, m, make([]impl.Trip, 1000))
	}
}

func TestWrongTicks(t *testing.T) {
	for _, m := range []impl.Cells{open(1, 1), open(3, 3), open(mostWide, mostWide)} {
		for _, ticks := range append([]int{-1, -2, mostSoon + 1, mostSoon + 2, 256, 1 << 32, 1<<32 + 1, -1 << 32, 1 << 62, -1 << 62}, farInts...) {
			for _, l := range [][]impl.Trip{nil, {}, {{From: 0, To: 0}}, {{From: 0, To: len(m.Cells) - 1}}} {
				if got, ok := impl.PlanCrowd(m, l, ticks); ok || len(got) != 0 {
					t.Errorf("PlanCrowd of %v, %v, %d: %v %v", m, l, ticks, got, ok)
				}
			}
		}
		for _, ticks := range []int{0, 1, mostSoon - 1, mostSoon} {
			if _, ok := impl.PlanCrowd(m, []impl.Trip{{}}, ticks); !ok {
				t.Errorf("PlanCrowd of %v, one that stays, %d is false", m, ticks)
			}
		}
	}
}

// The least and the greatest int in each place of a path.
func TestWrongCellsInPaths(t *testing.T) {
	m, l := open(3, 3), tripsOf("0>2 8>6 4>4")
	paths, ok := impl.PlanCrowd(m, l, 4)
	if !ok {
		t.Fatal("no plan")
	}
	for i := range paths {
		for tick := range paths[i] {
			for _, wrong := range append([]int{-1, 9, 10, -9, 1 << 32, -1 << 32}, farInts...) {
				other := clonePaths(paths)
				other[i][tick] = wrong
				checkPaths(t, m, l, other)
				if impl.GoodPaths(m, l, other) {
					t.Errorf("GoodPaths of %v", other)
				}
			}
		}
	}
}

// mass is what all functions are asked of at once.
type mass struct {
	m     impl.Cells
	l     []impl.Trip
	ticks int
	paths [][]int
	waits []int
}

func (c mass) check(t *testing.T) {
	t.Helper()
	checkTrips(t, c.m, c.l)
	checkPlan(t, c.m, c.l, c.ticks, bestByLayers)
	checkPaths(t, c.m, c.l, c.paths)
	checkRing(t, c.waits)
	for _, one := range c.l[:min(1, len(c.l))] {
		checkAlone(t, c.m, one.From)
		checkAlone(t, c.m, one.To)
	}
	if len(c.l) > 1 {
		checkJoint(t, c.m, c.l[0], c.l[1])
	}
}

func (c mass) clone() mass {
	return mass{cloneCells(c.m), slices.Clone(c.l), c.ticks, clonePaths(c.paths), slices.Clone(c.waits)}
}

func (c mass) same(d mass) bool {
	return sameCells(c.m, d.m) && slices.Equal(c.l, d.l) && samePaths(c.paths, d.paths) && slices.Equal(c.waits, d.waits)
}

func drawnMass(r *rand.Rand) mass {
	c := mass{m: drawnCells(r, drawnBetween(r, 1, 6), drawnBetween(r, 1, 6), drawnBetween(r, 3, 9)), ticks: drawnBetween(r, 2, mostSoon)}
	c.l = drawnTrips(r, c.m, drawnBetween(r, 1, mostCrowd))
	c.paths, _ = impl.PlanCrowd(c.m, c.l, c.ticks)
	if len(c.paths) == 0 {
		c.paths, c.l = drawnWalks(r, c.m, drawnBetween(r, 1, mostCrowd), 4)
	}
	for range drawnBetween(r, 0, mostCrowd) {
		c.waits = append(c.waits, drawnBetween(r, -1, 2))
	}
	return c
}

func sameTrip(a impl.Trip, b impl.Trip) bool { return a == b }

// What lies behind the lists counts for nothing and stays, as the lists do.
func TestWhatLiesBehindCrowds(t *testing.T) {
	r := rand.New(rand.NewSource(332))
	for range 60 {
		c := drawnMass(r)
		if r.Intn(4) == 0 {
			c.m.Cells = c.m.Cells[:len(c.m.Cells)-1]
		}
		for _, more := range [][]int{make([]int, c.m.Wide), {-1, 3, math.MaxInt}, {1, 2, 0}, {0, 0, 0, 0, 0, 0}} {
			trips := []impl.Trip{{From: more[0], To: more[0]}, {From: 0, To: 0}}
			in := mass{impl.Cells{Wide: c.m.Wide, Cells: behind(c.m.Cells, more...)}, behind(c.l, trips...), c.ticks, nil, behind(c.waits, more...)}
			rows := [][]int{}
			for _, p := range c.paths {
				rows = append(rows, behind(p, more...))
			}
			in.paths = behind(rows, more, nil)
			in.check(t)
			ok := kept(in.m.Cells, c.m.Cells, sameNumber, more...) && kept(in.l, c.l, sameTrip, trips...) && kept(in.waits, c.waits, sameNumber, more...)
			for i, p := range c.paths {
				ok = ok && kept(in.paths[i], p, sameNumber, more...)
			}
			if !ok || !kept(in.paths, c.paths, slices.Equal, more, nil) {
				t.Fatalf("a list was changed: %v, before %v", in, c)
			}
		}
	}
	// The cell, the trip, the path and the tick that would make it otherwise lie behind.
	checkNoCrowd(t, impl.Cells{Wide: 2, Cells: behind([]int{0, 0, 0}, 0)})
	m := open(2, 2)
	if impl.GoodPaths(m, behind([]impl.Trip{}, impl.Trip{}), [][]int{{0}}) || impl.GoodPaths(m, []impl.Trip{{}}, behind([][]int{}, []int{0})) || impl.GoodPaths(m, []impl.Trip{{}}, [][]int{behind([]int{}, 0)}) {
		t.Error("GoodPaths reads behind a list")
	}
	if impl.FirstMeet(behind([][]int{{0}}, []int{0})) != -1 || impl.FirstMeet([][]int{behind([]int{0}, 1), behind([]int{1}, 1)}) != -1 || impl.FirstMeet([][]int{behind([]int{0}, 5), {0, 5}}) != -1 {
		t.Error("FirstMeet reads behind a list")
	}
	if len(impl.WaitRing(behind([]int{1}, 0))) != 0 || !slices.Equal(impl.WaitRing(behind([]int{0}, 7)), []int{0}) {
		t.Error("WaitRing reads behind a list")
	}
}

// spoilPaths writes into each path by itself, and looks whether another one changes.
func spoilPaths(t *testing.T, paths [][]int) {
	t.Helper()
	for i := range paths {
		before := clonePaths(paths)
		spoil(paths[i], -7)
		for k := range paths {
			if k != i && !slices.Equal(paths[k], before[k]) {
				t.Fatalf("paths of one answer share memory: %v, were %v", paths, before)
			}
		}
	}
	spoil(paths, nil)
}

// Whoever writes into an answer changes nothing else: no other path of it, no later answer, no argument.
func TestCrowdAnswersAreNewMemory(t *testing.T) {
	r := rand.New(rand.NewSource(333))
	planned := 0
	for range 100 {
		c := drawnMass(r)
		before := c.clone()
		for range 2 {
			paths, ok := impl.PlanCrowd(c.m, c.l, c.ticks)
			if ok && len(paths) > 1 {
				planned++
			}
			spoilPaths(t, paths)
			spoil(impl.WaitRing(c.waits), -7)
			if !c.same(before) {
				t.Fatalf("an argument was changed: %v, before %v", c, before)
			}
			c.check(t)
		}
	}
	if planned < 30 {
		t.Errorf("only %d plans", planned)
	}
	// The ring may be all that was handed in, and is new memory even then.
	waits := []int{0, 1, 2, 3, 4}
	spoil(impl.WaitRing(waits), -7)
	if !slices.Equal(waits, []int{0, 1, 2, 3, 4}) {
		t.Errorf("the list was changed: %v", waits)
	}
}

// One list as the cells, as paths and as waits: told like any others.
func TestCrowdArgumentsThatShareMemory(t *testing.T) {
	l := make([]int, 4)
	m := impl.Cells{Wide: 2, Cells: l}
	checkPaths(t, m, []impl.Trip{{}}, [][]int{l})
	checkPaths(t, m, []impl.Trip{{}, {From: 1, To: 1}}, [][]int{l, l})
	checkRing(t, l)
	if !impl.GoodPaths(m, []impl.Trip{{}}, [][]int{l}) || impl.FirstMeet([][]int{l, l}) != 0 || !slices.Equal(l, make([]int, 4)) {
		t.Errorf("GoodPaths, FirstMeet or the list: %v", l)
	}
}

// The same call has the same answer every time, many at once too.
func TestCrowdsAreTheSameEveryTime(t *testing.T) {
	r := rand.New(rand.NewSource(334))
	m, small := drawnCells(r, mostWide, mostWide, 5), drawnCells(r, 6, 6, 6)
	l, two := drawnNear(r, m, mostCrowd, 15), drawnTrips(r, small, 2)
	want, ok := impl.PlanCrowd(m, l, mostSoon)
	if !ok {
		t.Fatal("no plan")
	}
	joint, alone := exactJoint(small, two[0], two[1]), exactAlone(m, l[0].From)[l[4].To]
	var all sync.WaitGroup
	for range 8 {
		all.Go(func() {
			for range 10 {
				paths, ok := impl.PlanCrowd(m, l, mostSoon)
				if !ok || !samePaths(paths, want) || impl.FirstMeet(paths) != -1 || !impl.GoodPaths(m, l, paths) || !impl.GoodTrips(m, l) {
					t.Error("another plan:", paths, ok)
				}
				if impl.JointTicks(small, two[0], two[1]) != joint || impl.AloneTicks(m, impl.Trip{From: l[0].From, To: l[4].To}) != alone || !slices.Equal(impl.WaitRing([]int{2, 1, 0, 0}), []int{0, 1, 2}) {
					t.Error("another answer")
				}
			}
		})
	}
	all.Wait()
}

// massOf cuts numbers into trips and into paths of up to five cells, the last of which may be shorter.
func massOf(wide int, kinds []int, trips []int, cells []int, waits []int, ticks int) mass {
	c := mass{m: impl.Cells{Wide: wide, Cells: kinds}, ticks: ticks, waits: waits}
	for two := range slices.Chunk(trips, 2) {
		c.l = append(c.l, impl.Trip{From: two[0], To: two[len(two)-1]})
	}
	for long := leftOf(ticks, 5) + 1; len(cells) > 0; cells = cells[min(long, len(cells)):] {
		c.paths = append(c.paths, cells[:min(long, len(cells))])
	}
	return c
}

// FuzzCrowds asks every function of any numbers.
func FuzzCrowds(f *testing.F) {
	f.Add(2, "\x00\x00\x00\x00", "\x00\x01\x01\x00", "\x00\x01\x01\x03", "\x01\x00\x00", 4)
	f.Add(3, "\x00\x00\x00\x01\x00\x01", "\x00\x02\x01\x01", "\x00\x01\x02\x01\x04\x01", "\x01\x02\x00", 2)
	f.Add(5, "\x00\x00\x00\x00\x00\x01\x01\x01\x00\x01", "\x00\x04\x04\x00", "", "\x00", 7)
	f.Add(1, "\x00", "\x00\x00", "\x00", "", 0)
	f.Add(0, "", "\x7f", "\x00\x00", "\x7f", -1)
	f.Add(math.MinInt, "\x7f\x80", "\x80\x7f", "\x80\x80", "\x80", math.MaxInt)
	f.Fuzz(func(t *testing.T, wide int, cells string, trips string, list string, waits string, ticks int) {
		kinds, l, path, ring := farNumbers(cells), farNumbers(trips), farNumbers(list), farNumbers(waits)
		massOf(wide, kinds, l, path, ring, ticks).check(t)
		// The same with any cells made good, and numbers of them, so that good ones are met often.
		for i := range kinds {
			kinds[i] = max(0, leftOf(kinds[i], 6)-3)
		}
		wide = 1 + leftOf(wide, mostWide)
		massOf(wide, kinds, l, path, ring, ticks).check(t)
		if !isCells(impl.Cells{Wide: wide, Cells: kinds}) {
			return
		}
		for _, numbers := range [][]int{l, path} {
			for i := range numbers {
				numbers[i] = leftOf(numbers[i], len(kinds))
			}
		}
		for i := range ring {
			ring[i] = leftOf(ring[i], len(ring)+1) - 1
		}
		c := massOf(wide, kinds, l, path, ring, leftOf(ticks, mostSoon+1))
		c.check(t)
		if paths, ok := impl.PlanCrowd(c.m, c.l, c.ticks); ok {
			checkPaths(t, c.m, c.l, paths)
		}
	})
}
