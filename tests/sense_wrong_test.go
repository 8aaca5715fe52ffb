package tests

import (
	"math"
	"math/rand"
	"slices"
	"sync"
	"testing"

	"loop.example/g00047/impl"
)

func TestWrongTextsInClocks(t *testing.T) {
	l := ticksOf(0, 1, 1, 3, 2, 5)
	for _, s := range wrongTexts() {
		for _, c := range []impl.Clock{clockOf(s, "1"), clockOf("1", s), clockOf(s, s), clockOf(s, "0"), clockOf("0", s)} {
			for _, here := range []int{0, 1, -7, math.MaxInt, math.MinInt} {
				if got := impl.ThereAt(c, here); got != "" {
					t.Errorf("ThereAt of %.60q, %d: %.60q", c, here, got)
				}
				checkThere(t, c, here)
			}
			for _, ticks := range [][]impl.Tick{nil, {}, l, ticksOf(0, 0), make([]impl.Tick, mostTicks+1)} {
				checkNoMisses(t, ticks, c)
				checkMisses(t, ticks, c)
			}
		}
	}
	checkNoMisses(t, nil, impl.Clock{})
	checkNoMisses(t, l, impl.Clock{})
	if s := impl.ThereAt(impl.Clock{}, 0); s != "" {
		t.Errorf("ThereAt of no clock: %q", s)
	}
}

func TestGoodTextsInClocks(t *testing.T) {
	for _, s := range goodTexts() {
		for _, c := range []impl.Clock{clockOf(s, "1"), clockOf("1", s), clockOf(s, s), clockOf(s, "0"), clockOf("0", s)} {
			for _, here := range []int{0, 1, -7, math.MaxInt, math.MinInt} {
				checkThere(t, c, here)
			}
			for _, ticks := range [][]impl.Tick{nil, ticksOf(0, 0), ticksOf(0, 1, 1, 3, 2, 5)} {
				checkMisses(t, ticks, c)
			}
		}
	}
}

func checkGoodWalls(t *testing.T, l []impl.Wall, want bool) {
	t.Helper()
	if got := impl.GoodWalls(l); got != want || want != areWalls(l) {
		t.Errorf("GoodWalls of %v: %v", l, got)
	}
	if want {
		return
	}
	if s, i, ok := impl.RayHit(l, 0, 0, 1, 0); s != "" || i != 0 || ok {
		t.Errorf("RayHit of %v: %q %d %v", l, s, i, ok)
	}
	checkNoScan(t, l, 0, 0, [][]int{{1, 0}})
	checkNoScan(t, l, 0, 0, nil)
}

// withNumber is a wall with another number in one of its four places.
func withNumber(w impl.Wall, place int, n int) impl.Wall {
	*[]*int{&w.X1, &w.Y1, &w.X2, &w.Y2}[place] = n
	return w
}

func TestGoodWalls(t *testing.T) {
	checkGoodWalls(t, nil, true)
	checkGoodWalls(t, []impl.Wall{}, true)
	checkGoodWalls(t, []impl.Wall{{}}, false)
	good := wallOf(3, -1, 3, 1)
	for n := 1; n <= mostWalls; n++ {
		checkGoodWalls(t, slices.Repeat([]impl.Wall{good}, n), true)
		for at := range n {
			l := slices.Repeat([]impl.Wall{good}, n)
			for _, one := range []impl.Wall{{}, wallOf(1, 1, 1, 1), wallOf(3, -1, 3, -1), wallOf(mostPlace, -mostPlace, mostPlace, -mostPlace)} {
				l[at] = one
				checkGoodWalls(t, l, false)
			}
			for place := range 4 {
				for _, edge := range []int{mostPlace, -mostPlace, 0} {
					l[at] = withNumber(wallOf(7, 8, 9, 10), place, edge)
					checkGoodWalls(t, l, true)
					checkHit(t, l, 0, 0, 1, 1)
				}
				for _, beyond := range []int{mostPlace + 1, -mostPlace - 1, math.MaxInt, math.MinInt} {
					l[at] = withNumber(good, place, beyond)
					checkGoodWalls(t, l, false)
				}
			}
		}
	}
	for _, n := range []int{mostWalls + 1, mostWalls + 2, 1000} {
		checkGoodWalls(t, slices.Repeat([]impl.Wall{good}, n), false)
	}
	for _, one := range []impl.Wall{wallOf(1, 1, 1, 2), wallOf(1, 1, 2, 1), wallOf(1, 2, 2, 1), wallOf(1, -1, -1, 1)} {
		checkGoodWalls(t, []impl.Wall{one}, true)
	}
}

func TestWrongRays(t *testing.T) {
	beyond := []int{mostPlace + 1, -mostPlace - 1, math.MaxInt, math.MinInt}
	for _, l := range [][]impl.Wall{nil, {wallOf(-1000, -1000, 1000, 1000)}, {wallOf(3, -1, 3, 1), wallOf(0, 5, 1, 5)}} {
		for _, n := range beyond {
			for _, c := range [][4]int{{n, 0, 1, 0}, {0, n, 1, 0}, {0, 0, n, 0}, {0, 0, 0, n}, {0, 0, n, 1}, {0, 0, 1, n}, {n, n, n, n}} {
				checkNoRay(t, l, c)
			}
		}
		for _, c := range [][4]int{{0, 0, 0, 0}, {3, 0, 0, 0}, {5, 5, 0, 0}, {-1000, 1000, 0, 0}} {
			checkNoRay(t, l, c)
		}
		for _, x := range []int{-mostPlace, mostPlace} {
			for _, d := range []int{-mostPlace, mostPlace, 1, -1} {
				for _, c := range [][4]int{{x, x, d, d}, {x, -x, d, -d}, {x, 0, d, 0}, {0, x, 0, d}, {-x, x, 0, d}, {x, -x, d, 0}} {
					checkHit(t, l, c[0], c[1], c[2], c[3])
					checkScan(t, l, c[0], c[1], [][]int{{c[2], c[3]}})
				}
			}
		}
	}
}

func checkNoRay(t *testing.T, l []impl.Wall, c [4]int) {
	t.Helper()
	if s, i, ok := impl.RayHit(l, c[0], c[1], c[2], c[3]); s != "" || i != 0 || ok {
		t.Errorf("RayHit of %v, %v: %q %d %v", l, c, s, i, ok)
	}
	checkNoScan(t, l, c[0], c[1], [][]int{{c[2], c[3]}})
	for _, n := range []int{2, mostCounts} {
		for _, at := range []int{0, 1, n - 1} {
			rays := slices.Repeat([][]int{{1, 0}}, n)
			rays[at] = c[2:]
			checkNoScan(t, l, c[0], c[1], rays)
		}
	}
}

func TestRaysOfOtherLengths(t *testing.T) {
	l := []impl.Wall{wallOf(3, -1, 3, 1)}
	for _, way := range [][]int{nil, {}, {1}, {0}, {1, 0, 0}, {1, 1, 1}, {0, 0, 1}, make([]int, 100)} {
		for n := 1; n <= 5; n++ {
			for at := range n {
				rays := slices.Repeat([][]int{{1, 0}}, n)
				rays[at] = way
				checkNoScan(t, l, 0, 0, rays)
				checkNoScan(t, nil, 0, 0, rays)
			}
		}
	}
}

func sameNumber(a int, b int) bool { return a == b }

func sameTick(a impl.Tick, b impl.Tick) bool { return a == b }

func sameWall(a impl.Wall, b impl.Wall) bool { return a == b }

// What lies behind the lists counts for nothing and stays, as the lists do.
func TestWhatLiesBehindCountsAndTicks(t *testing.T) {
	r := rand.New(rand.NewSource(120))
	moreCounts, moreTicks := []int{-1, 10, 3, math.MinInt}, ticksOf(0, mostTick+1, 7, 7, 8, 9)
	for n := range mostCounts + 2 {
		counts, ticks := make([]int, n), drawnTicks(r, n, 100)
		for i := range counts {
			counts[i] = r.Intn(10)
		}
		inCounts, inTicks := behind(counts, moreCounts...), behind(ticks, moreTicks...)
		for range 3 {
			checkUnwrap(t, inCounts, 10)
			checkClock(t, inTicks)
			checkMisses(t, inTicks, clockOf("1/2", "3"))
			if !kept(inCounts, counts, sameNumber, moreCounts...) || !kept(inTicks, ticks, sameTick, moreTicks...) {
				t.Fatalf("a list was changed: %v, %v", inCounts[:n+4], inTicks[:n+3])
			}
		}
	}
}

func TestWhatLiesBehindWallsAndRays(t *testing.T) {
	r := rand.New(rand.NewSource(121))
	moreWalls, moreRays := []impl.Wall{wallOf(-1, -9, 1, 9), {}, wallOf(0, 0, 0, 1001)}, [][]int{nil, {0, 0}, {1, 2, 3}}
	for n := range mostWalls + 2 {
		walls, rays, ways := drawnWalls(r, n, 9), [][]int{}, [][]int{}
		for range n {
			ways = append(ways, drawnWay(r, 9))
			rays = append(rays, behind(ways[len(ways)-1], 5, -1001))
		}
		inWalls, inRays := behind(walls, moreWalls...), behind(rays, moreRays...)
		for range 3 {
			if impl.GoodWalls(inWalls) != (n <= mostWalls) {
				t.Errorf("GoodWalls of %v", inWalls)
			}
			checkScan(t, inWalls, 1, 2, inRays)
			checkHit(t, inWalls, 1, 2, 3, -4)
			if !kept(inWalls, walls, sameWall, moreWalls...) || !kept(inRays, ways, slices.Equal, moreRays...) {
				t.Fatalf("a list was changed: %v, %v", inWalls[:n+3], inRays[:n+3])
			}
			for i, way := range inRays {
				if !kept(way, ways[i], sameNumber, 5, -1001) {
					t.Fatalf("a ray was changed behind its end: %v", way[:4])
				}
			}
		}
		for i := range inRays {
			rows := slices.Clone(inRays)
			rows[i] = rows[i][:1]
			checkNoScan(t, inWalls, 1, 2, rows)
			rows[i] = rows[i][:3]
			checkNoScan(t, inWalls, 1, 2, rows)
		}
	}
}

// Whoever writes into an answer changes nothing else: no later answer, no argument.
func TestSenseAnswersAreNewMemory(t *testing.T) {
	for n := 1; n <= mostCounts; n++ {
		counts, rays := slices.Repeat([]int{3}, n), slices.Repeat([][]int{{1, 0}}, n)
		numbers, ok := impl.UnwrapCounts(counts, 10)
		spoil(numbers, -5)
		told, okToo := impl.ScanOf(nil, 0, 0, rays)
		spoil(told, "x")
		if !ok || !okToo || !slices.Equal(counts, slices.Repeat([]int{3}, n)) || !slices.EqualFunc(rays, slices.Repeat([][]int{{1, 0}}, n), slices.Equal) {
			t.Fatalf("an argument was changed: %v, %v", counts, rays)
		}
		checkUnwrap(t, counts, 10)
		checkScan(t, nil, 0, 0, rays)
	}
}

// The same call has the same answer every time, many at once too.
func TestSenseAnswersAreTheSameEveryTime(t *testing.T) {
	r := rand.New(rand.NewSource(122))
	walls, ticks, counts, rays := drawnWalls(r, mostWalls, mostPlace), drawnTicks(r, mostTicks, mostTick), make([]int, mostCounts), [][]int{}
	for i := range counts {
		counts[i] = r.Intn(360)
		rays = append(rays, drawnWay(r, mostPlace))
	}
	numbers, _ := impl.UnwrapCounts(counts, 360)
	clock, _ := impl.ClockOf(ticks)
	misses, _ := impl.Misses(ticks, clock)
	scan, _ := impl.ScanOf(walls, 1, 2, rays)
	at, wall, _ := impl.RayHit(walls, 1, 2, 3, 4)
	var all sync.WaitGroup
	for range 8 {
		all.Go(func() {
			for range 50 {
				gotNumbers, _ := impl.UnwrapCounts(counts, 360)
				gotClock, _ := impl.ClockOf(ticks)
				gotMisses, _ := impl.Misses(ticks, clock)
				gotScan, _ := impl.ScanOf(walls, 1, 2, rays)
				gotAt, gotWall, _ := impl.RayHit(walls, 1, 2, 3, 4)
				if !slices.Equal(gotNumbers, numbers) || gotClock != clock || gotMisses != misses || !slices.Equal(gotScan, scan) || gotAt != at || gotWall != wall {
					t.Error("another answer")
				}
			}
		})
	}
	all.Wait()
}

// numbersOf are the bytes of a text, some of them far off, in pieces of n; the rest that fills no piece is a piece too.
func numbersOf(s string, n int) [][]int {
	rows := [][]int{}
	for i := range len(s) {
		if i%n == 0 {
			rows = append(rows, nil)
		}
		number := int(int8(s[i]))
		switch number {
		case 127:
			number = math.MaxInt
		case -128:
			number = math.MinInt
		case 126, -126:
			number *= mostPlace / 126
		case 125, -125:
			number *= 8 * 1000001
		case 124, -124:
			number = number / 124 * mostPlace
		}
		rows[len(rows)-1] = append(rows[len(rows)-1], number)
	}
	return rows
}

// FuzzSenses asks every function of any numbers and texts.
func FuzzSenses(f *testing.F) {
	f.Add("\x09\x00\x01\x09", "\x00\x01\x01\x03\x02\x05", "\x05\xff\x05\x01\x02\xff\x03\x01", "\x01\x00\x00\x01", "2", "1", 10, 0, 0)
	for i, s := range append(goodTexts(), "", "-0", "1/0", "2/4") {
		f.Add("\x01\x02\x03", "\x7f\x80\x7e\x7d", "\x7c\x84\x84\x7c\x01\x02\x03", "\x01\x02\x7c\x84", s, s, i, 1000, -1000)
	}
	f.Fuzz(func(t *testing.T, counts string, ticks string, walls string, rays string, rate string, ahead string, size int, x int, y int) {
		list := []int{}
		for _, row := range numbersOf(counts, 1) {
			list = append(list, row[0])
			checkWrap(t, row[0], size)
		}
		checkUnwrap(t, list, size)
		checkWrap(t, x, size)
		pairs := []impl.Tick{}
		for _, row := range numbersOf(ticks, 2) {
			pairs = append(pairs, impl.Tick{Here: row[0], There: row[len(row)-1]})
			checkThere(t, clockOf(rate, ahead), row[0])
		}
		checkClock(t, pairs)
		checkMisses(t, pairs, clockOf(rate, ahead))
		built := []impl.Wall{}
		for _, row := range numbersOf(walls, 4) {
			if len(row) == 4 {
				built = append(built, wallOf(row[0], row[1], row[2], row[3]))
			}
		}
		if impl.GoodWalls(built) != areWalls(built) {
			t.Errorf("GoodWalls of %v", built)
		}
		ways := numbersOf(rays, 2)
		checkScan(t, built, x, y, ways)
		for _, way := range ways {
			checkHit(t, built, x, y, way[0], way[len(way)-1])
		}
	})
}
