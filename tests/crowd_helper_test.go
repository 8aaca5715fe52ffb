package tests

import (
	"maps"
	"math/rand"
	"slices"
	"strconv"
	"strings"
	"testing"

	"loop.example/g00047/impl"
)

const (
	mostCrowd  = 5
	mostSoon   = 20
	mostCouple = 36
)

// tripsOf has spaces between the trips, and > between From and To.
func tripsOf(s string) []impl.Trip {
	l := []impl.Trip{}
	for _, one := range strings.Fields(s) {
		from, to, _ := strings.Cut(one, ">")
		l = append(l, impl.Trip{From: numberOf(from), To: numberOf(to)})
	}
	return l
}

func numberOf(s string) int {
	n, err := strconv.Atoi(s)
	if err != nil {
		panic(err)
	}
	return n
}

// listOf has spaces between the numbers.
func listOf(s string) []int {
	l := []int{}
	for _, one := range strings.Fields(s) {
		l = append(l, numberOf(one))
	}
	return l
}

// pathsOf has bars between the paths, and spaces between the cells.
func pathsOf(s string) [][]int {
	paths := [][]int{}
	for path := range strings.SplitSeq(s, "|") {
		paths = append(paths, listOf(path))
	}
	return paths
}

func clonePaths(paths [][]int) [][]int {
	all := [][]int{}
	for _, p := range paths {
		all = append(all, slices.Clone(p))
	}
	return all
}

func samePaths(a [][]int, b [][]int) bool { return slices.EqualFunc(a, b, slices.Equal) }

// isTrips says by the test's own word whether l is good: each list of its own is as long without doubles.
func isTrips(m impl.Cells, l []impl.Trip) bool {
	from, to := map[int]int{}, map[int]int{}
	for _, one := range l {
		if !isFree(m, one.From) || !isFree(m, one.To) {
			return false
		}
		from[one.From]++
		to[one.To]++
	}
	return isCells(m) && len(l) <= mostCrowd && len(from) == len(l) && len(to) == len(l)
}

// mayGo: from the one cell to the other within a tick.
func mayGo(m impl.Cells, from int, to int) bool {
	if !isFree(m, from) || !isFree(m, to) {
		return false
	}
	dx, dy := from%m.Wide-to%m.Wide, from/m.Wide-to/m.Wide
	return dx*dx+dy*dy <= 1
}

// goesFrom are for each cell all to which one may go, rising.
func goesFrom(m impl.Cells) [][]int {
	all := make([][]int, len(m.Cells))
	for from := range m.Cells {
		for to := max(0, from-m.Wide); to <= min(len(m.Cells)-1, from+m.Wide); to++ {
			if mayGo(m, from, to) {
				all[from] = append(all[from], to)
			}
		}
	}
	return all
}

// doMeet goes by the words of the document.
func doMeet(one []int, two []int, tick int) bool {
	if one[tick] == two[tick] {
		return true
	}
	return tick > 0 && one[tick] == two[tick-1] && two[tick] == one[tick-1]
}

func exactFirstMeet(paths [][]int) int {
	first := -1
	for i := range paths {
		if len(paths[i]) != len(paths[0]) || len(paths) > mostCrowd {
			return -1
		}
	}
	for i := range paths {
		for k := i + 1; k < len(paths); k++ {
			for tick := range paths[i] {
				if doMeet(paths[i], paths[k], tick) && (first == -1 || tick < first) {
					first = tick
				}
			}
		}
	}
	return first
}

// checkFirstMeet asks FirstMeet of anything, in both orders.
func checkFirstMeet(t *testing.T, paths [][]int) {
	t.Helper()
	want := exactFirstMeet(paths)
	back := slices.Clone(paths)
	slices.Reverse(back)
	if got, too := impl.FirstMeet(paths), impl.FirstMeet(back); got != want || too != want {
		t.Errorf("FirstMeet of %v: %d, the other way round %d, want %d", paths, got, too, want)
	}
}

func exactGoodPaths(m impl.Cells, l []impl.Trip, paths [][]int) bool {
	if !isTrips(m, l) || len(paths) != len(l) {
		return false
	}
	for i, p := range paths {
		if len(p) == 0 || len(p) != len(paths[0]) || p[0] != l[i].From || p[len(p)-1] != l[i].To {
			return false
		}
		for k := range len(p) - 1 {
			if !mayGo(m, p[k], p[k+1]) {
				return false
			}
		}
	}
	return exactFirstMeet(paths) == -1
}

// checkPaths asks of any paths what takes them.
func checkPaths(t *testing.T, m impl.Cells, l []impl.Trip, paths [][]int) {
	t.Helper()
	checkFirstMeet(t, paths)
	if got, want := impl.GoodPaths(m, l, paths), exactGoodPaths(m, l, paths); got != want {
		t.Errorf("GoodPaths of %v, %v, %v: %v", m, l, paths, got)
	}
}

// there is the tick from which on a path is at its last cell for good.
func there(path []int) int {
	tick := len(path) - 1
	for tick > 0 && path[tick-1] == path[tick] {
		tick--
	}
	return tick
}

// meetsNone: neither at its last tick, nor on the way there; the path may be shorter than the elder ones.
func meetsNone(elder [][]int, path []int) bool {
	return !slices.ContainsFunc(elder, func(e []int) bool {
		for tick := range path {
			if doMeet(e, path, tick) {
				return true
			}
		}
		return false
	})
}

// eachPath shows all paths of so many ticks that begin like this one, one by one.
func eachPath(goes [][]int, path []int, ticks int, see func([]int)) {
	if len(path) == ticks+1 {
		see(path)
		return
	}
	for _, next := range goes[path[len(path)-1]] {
		eachPath(goes, append(slices.Clip(path), next), ticks, see)
	}
}

// planner is a way to find the best path of a trip beside elder ones; none where there is none.
type planner func(m impl.Cells, elder [][]int, one impl.Trip, ticks int) []int

// bestOfPaths looks at all paths that there are.
func bestOfPaths(m impl.Cells, elder [][]int, one impl.Trip, ticks int) []int {
	var best []int
	eachPath(goesFrom(m), []int{one.From}, ticks, func(p []int) {
		if p[ticks] != one.To || !meetsNone(elder, p) {
			return
		}
		if best == nil || there(p) < there(best) || there(p) == there(best) && slices.Compare(p, best) < 0 {
			best = p
		}
	})
	return best
}

// bestByLayers goes from tick to tick, and keeps for each cell the least list that leads there; the first tick from which on one can stay at To is the best.
func bestByLayers(m impl.Cells, elder [][]int, one impl.Trip, ticks int) []int {
	goes := goesFrom(m)
	layer := map[int][]int{one.From: {one.From}}
	for tick := range ticks + 1 {
		if p, ok := layer[one.To]; ok {
			stays := append(slices.Clip(p), slices.Repeat([]int{one.To}, ticks-tick)...)
			if meetsNone(elder, stays) {
				return stays
			}
		}
		layer = nextLayer(goes, elder, layer)
	}
	return nil
}

func nextLayer(goes [][]int, elder [][]int, layer map[int][]int) map[int][]int {
	next := map[int][]int{}
	for at, p := range layer {
		for _, to := range goes[at] {
			longer := append(slices.Clip(p), to)
			if len(elder) > 0 && len(longer) > len(elder[0]) {
				continue
			}
			clash := func(e []int) bool { return doMeet(e, longer, len(p)) }
			if was, ok := next[to]; !slices.ContainsFunc(elder, clash) && (!ok || slices.Compare(longer, was) < 0) {
				next[to] = longer
			}
		}
	}
	return next
}

// exactPlan is what PlanCrowd is to answer, each path found by best.
func exactPlan(m impl.Cells, l []impl.Trip, ticks int, best planner) ([][]int, bool) {
	if !isTrips(m, l) || ticks < 0 || ticks > mostSoon {
		return nil, false
	}
	paths := [][]int{}
	for _, one := range l {
		p := best(m, paths, one, ticks)
		if p == nil {
			return nil, false
		}
		paths = append(paths, p)
	}
	return paths, true
}

// checkPlan asks PlanCrowd of anything, and whether what it tells is good by what the program itself says.
func checkPlan(t *testing.T, m impl.Cells, l []impl.Trip, ticks int, best planner) ([][]int, bool) {
	t.Helper()
	want, good := exactPlan(m, l, ticks, best)
	got, ok := impl.PlanCrowd(m, l, ticks)
	if ok != good || !samePaths(got, want) {
		t.Errorf("PlanCrowd of %v, %v, %d: %v %v, want %v %v", m, l, ticks, got, ok, want, good)
	}
	if ok {
		checkPlanned(t, m, l, ticks, got)
	}
	return got, ok
}

// checkPlanned: no two meet, each is on its way, and with one tick more nothing is otherwise but that all stay.
func checkPlanned(t *testing.T, m impl.Cells, l []impl.Trip, ticks int, paths [][]int) {
	t.Helper()
	if impl.FirstMeet(paths) != -1 || !impl.GoodPaths(m, l, paths) || !exactGoodPaths(m, l, paths) {
		t.Errorf("PlanCrowd of %v, %v, %d: %v are not good", m, l, ticks, paths)
	}
	longer := clonePaths(paths)
	for i, p := range paths {
		alone := impl.AloneTicks(m, l[i])
		if len(p) != ticks+1 || alone < 0 || there(p) < alone || i == 0 && there(p) != alone {
			t.Errorf("PlanCrowd of %v, %v, %d: %v is there at %d, alone at %d", m, l, ticks, p, there(p), alone)
		}
		longer[i] = append(longer[i], l[i].To)
	}
	if got, ok := impl.PlanCrowd(m, l, ticks+1); ticks < mostSoon && (!ok || !samePaths(got, longer)) {
		t.Errorf("PlanCrowd of %v, %v, %d: %v %v, with one tick less %v", m, l, ticks+1, got, ok, paths)
	}
	if joint := -1; len(l) == 2 && len(m.Cells) <= mostCouple {
		joint = impl.JointTicks(m, l[0], l[1])
		if joint < 0 || joint > max(there(paths[0]), there(paths[1])) {
			t.Errorf("JointTicks of %v, %v: %d, planned as %v", m, l, joint, paths)
		}
	}
}

// exactAlone are the ticks to all cells, made less round by round; -1 where there is no path.
func exactAlone(m impl.Cells, from int) []int {
	ticks, goes := slices.Repeat([]int{-1}, len(m.Cells)), goesFrom(m)
	if isFree(m, from) {
		ticks[from] = 0
	}
	for again := true; again; {
		again = false
		for at, n := range ticks {
			for _, to := range goes[at] {
				if n >= 0 && (ticks[to] < 0 || ticks[to] > n+1) {
					ticks[to], again = n+1, true
				}
			}
		}
	}
	return ticks
}

// checkAlone asks AloneTicks from a number to each number that may be a cell.
func checkAlone(t *testing.T, m impl.Cells, from int) {
	t.Helper()
	ticks := slices.Repeat([]int{-1}, len(m.Cells))
	if isCells(m) {
		ticks = exactAlone(m, from)
	}
	for to := -2; to < len(m.Cells)+2; to++ {
		want := -1
		if to >= 0 && to < len(ticks) {
			want = ticks[to]
		}
		if got := impl.AloneTicks(m, impl.Trip{From: from, To: to}); got != want {
			t.Errorf("AloneTicks of %v, %d, %d: %d, want %d", m, from, to, got, want)
		}
	}
}

// pairsFrom are where two may be a tick later without meeting, from any of the pairs.
func pairsFrom(goes [][]int, now map[[2]int]int) map[[2]int]int {
	later := map[[2]int]int{}
	for p := range now {
		for _, a := range goes[p[0]] {
			for _, b := range goes[p[1]] {
				if !doMeet([]int{p[0], a}, []int{p[1], b}, 1) {
					later[[2]int{a, b}]++
				}
			}
		}
	}
	return later
}

// exactJoint goes from tick to tick, and asks for all pairs of places at which the two may be then.
func exactJoint(m impl.Cells, a impl.Trip, b impl.Trip) int {
	if !isTrips(m, []impl.Trip{a, b}) || len(m.Cells) > mostCouple {
		return -1
	}
	goes, now := goesFrom(m), map[[2]int]int{{a.From, b.From}: 1}
	for tick := 0; ; tick++ {
		if now[[2]int{a.To, b.To}] > 0 {
			return tick
		}
		later := pairsFrom(goes, now)
		if len(later) == len(now) {
			return -1
		}
		now = later
	}
}

// checkJoint asks JointTicks of anything, in both orders, there and back.
func checkJoint(t *testing.T, m impl.Cells, a impl.Trip, b impl.Trip) int {
	t.Helper()
	want := exactJoint(m, a, b)
	back := func(one impl.Trip) impl.Trip { return impl.Trip{From: one.To, To: one.From} }
	for i, got := range []int{impl.JointTicks(m, a, b), impl.JointTicks(m, b, a), impl.JointTicks(m, back(a), back(b)), impl.JointTicks(m, back(b), back(a))} {
		if got != want {
			t.Errorf("JointTicks of %v, %v, %v (%d): %d, want %d", m, a, b, i, got, want)
		}
	}
	if alone := []int{impl.AloneTicks(m, a), impl.AloneTicks(m, b)}; want >= 0 && (want < slices.Max(alone) || slices.Min(alone) < 0) {
		t.Errorf("JointTicks of %v, %v, %v: %d, alone %v", m, a, b, want, alone)
	}
	return want
}

// exactRing: who waits for itself, over any number of others between, is in a ring.
func exactRing(waits []int) []int {
	ring, n := []int{}, len(waits)
	if n > mostCrowd || slices.ContainsFunc(waits, func(w int) bool { return w < -1 || w >= n }) {
		return ring
	}
	over := [mostCrowd][mostCrowd]int{}
	for i, w := range waits {
		if w >= 0 {
			over[i][w] = 1
		}
	}
	for k := range n {
		for i := range n {
			for j := range n {
				over[i][j] |= over[i][k] & over[k][j]
			}
		}
	}
	for i := range n {
		if over[i][i] == 1 {
			ring = append(ring, i)
		}
	}
	return ring
}

// checkRing asks WaitRing of anything.
func checkRing(t *testing.T, waits []int) {
	t.Helper()
	if got, want := impl.WaitRing(waits), exactRing(waits); !slices.Equal(got, want) {
		t.Errorf("WaitRing of %v: %v, want %v", waits, got, want)
	}
}

// checkTrips asks GoodTrips of anything.
func checkTrips(t *testing.T, m impl.Cells, l []impl.Trip) {
	t.Helper()
	if got, want := impl.GoodTrips(m, l), isTrips(m, l); got != want {
		t.Errorf("GoodTrips of %v, %v: %v", m, l, got)
	}
}

// drawnTrips are so many good trips, fewer where there are not as many free cells.
func drawnTrips(r *rand.Rand, m impl.Cells, n int) []impl.Trip {
	from, to := placesOf(m), placesOf(m)
	r.Shuffle(len(from), func(i int, k int) { from[i], from[k] = from[k], from[i] })
	r.Shuffle(len(to), func(i int, k int) { to[i], to[k] = to[k], to[i] })
	l := []impl.Trip{}
	for i := range min(n, len(from)) {
		l = append(l, impl.Trip{From: from[i], To: to[i]})
	}
	return l
}

// drawnNear are trips whose To is not far: so many steps from From at most.
func drawnNear(r *rand.Rand, m impl.Cells, n int, steps int) []impl.Trip {
	l := drawnTrips(r, m, n)
	goes, taken := goesFrom(m), map[int]int{}
	for i := range l {
		at := l[i].From
		for range steps {
			at = goes[at][r.Intn(len(goes[at]))]
		}
		l[i].To = at
		taken[at]++
	}
	if len(taken) < len(l) {
		return drawnNear(r, m, n, steps)
	}
	return l
}

// drawnWalks are paths that may meet, each on its way from cell to cell, and the trips that they would be.
func drawnWalks(r *rand.Rand, m impl.Cells, n int, ticks int) ([][]int, []impl.Trip) {
	goes, paths, l := goesFrom(m), [][]int{}, []impl.Trip{}
	for _, one := range drawnTrips(r, m, n) {
		p := []int{one.From}
		for range ticks {
			near := goes[p[len(p)-1]]
			p = append(p, near[r.Intn(len(near))])
		}
		paths, l = append(paths, p), append(l, impl.Trip{From: p[0], To: p[ticks]})
	}
	return paths, l
}

// seenMost are the kinds of a count that came up, told in order.
func seenMost(seen map[int]int) []int { return slices.Sorted(maps.Keys(seen)) }
