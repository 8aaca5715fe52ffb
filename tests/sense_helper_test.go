package tests

import (
	"fmt"
	"math"
	"math/big"
	"math/rand"
	"slices"
	"testing"

	"loop.example/g00047/impl"
)

const (
	mostCounts  = 60
	mostTicks   = 20
	mostWalls   = 12
	mostPlace   = 1000
	mostSize    = 1000000
	mostWrapped = 1000000000000
	mostTick    = 1000000000
)

func isSize(size int) bool { return size >= 2 && size <= mostSize }

func upTo(most int, l ...int) bool {
	return !slices.ContainsFunc(l, func(n int) bool { return n < -most || n > most })
}

// leftOf is n less the multiple of size that is next below it.
func leftOf(n int, size int) int {
	return int(new(big.Int).Mod(big.NewInt(int64(n)), big.NewInt(int64(size))).Int64())
}

// checkWrap asks WrapCount of anything.
func checkWrap(t *testing.T, n int, size int) {
	t.Helper()
	want := 0
	if isSize(size) && upTo(mostWrapped, n) {
		want = leftOf(n, size)
	}
	if got := impl.WrapCount(n, size); got != want {
		t.Errorf("WrapCount of %d, %d: %d, want %d", n, size, got, want)
	}
}

func areCounts(l []int, size int) bool {
	return isSize(size) && len(l) >= 1 && len(l) <= mostCounts && !slices.ContainsFunc(l, func(n int) bool { return n < 0 || n >= size })
}

// nearNumber tries the numbers that wrap to count, from well below from to well above it, the greater ones later.
func nearNumber(from int, count int, size int) int {
	best := math.MaxInt
	for n := from - leftOf(from, size) - 3*size + count; n <= from+3*size; n += size {
		if best == math.MaxInt || max(n-from, from-n) <= max(best-from, from-best) {
			best = n
		}
	}
	return best
}

// checkUnwrap asks UnwrapCounts of anything.
func checkUnwrap(t *testing.T, l []int, size int) {
	t.Helper()
	var want []int
	good := areCounts(l, size)
	for i := range l {
		if good && i == 0 {
			want = append(want, l[0])
		} else if good {
			want = append(want, nearNumber(want[i-1], l[i], size))
		}
	}
	got, ok := impl.UnwrapCounts(l, size)
	if !slices.Equal(got, want) || ok != good {
		t.Errorf("UnwrapCounts of %.200v, %d: %v %v, want %v %v", l, size, got, ok, want, good)
	}
	for i, n := range got {
		if impl.WrapCount(n, size) != l[i] || i > 0 && 2*max(n-got[i-1], got[i-1]-n) > size {
			t.Errorf("UnwrapCounts of %.200v, %d: %d of %v does not wrap to its count, or is far", l, size, n, got)
		}
	}
}

func areTicks(l []impl.Tick) bool {
	return len(l) <= mostTicks && !slices.ContainsFunc(l, func(k impl.Tick) bool { return !upTo(mostTick, k.Here, k.There) })
}

func isClock(c impl.Clock) bool { return isFrac(c.Rate) && isFrac(c.Ahead) }

func unlikeHere(l []impl.Tick) bool {
	return slices.ContainsFunc(l, func(k impl.Tick) bool { return k.Here != l[0].Here })
}

func thereBy(t *testing.T, c impl.Clock, here int) *big.Rat {
	t.Helper()
	return plus(times(rat(t, c.Rate), whole(int64(here))), rat(t, c.Ahead))
}

// checkThere asks ThereAt of anything.
func checkThere(t *testing.T, c impl.Clock, here int) {
	t.Helper()
	if isClock(c) {
		checkFrac(t, fmt.Sprintf("ThereAt of %.60q, %d", c, here), impl.ThereAt(c, here), thereBy(t, c, here))
	} else if got := impl.ThereAt(c, here); got != "" {
		t.Errorf("ThereAt of %.60q, %d: %.60q", c, here, got)
	}
}

// checkMisses asks Misses of anything.
func checkMisses(t *testing.T, l []impl.Tick, c impl.Clock) {
	t.Helper()
	want := ""
	if areTicks(l) && isClock(c) {
		sum := new(big.Rat)
		for _, k := range l {
			miss := minus(whole(int64(k.There)), thereBy(t, c, k.Here))
			sum = plus(sum, times(miss, miss))
		}
		want = textOf(sum)
	}
	if got, ok := impl.Misses(l, c); got != want || ok != (want != "") {
		t.Errorf("Misses of %.200v, %.60q: %.60q %v, want %.60q", l, c, got, ok, want)
	}
}

// checkClock asks ClockOf of anything, and by the numbers of both how much more each other clock misses.
func checkClock(t *testing.T, l []impl.Tick) {
	t.Helper()
	c, ok := impl.ClockOf(l)
	if good := areTicks(l) && unlikeHere(l); ok != good || !good && c != (impl.Clock{}) || good && !isClock(c) {
		t.Errorf("ClockOf of %.200v: %q %v, want %v", l, c, ok, good)
		return
	} else if !good {
		return
	}
	checkLeast(t, l, c)
	checkMisses(t, l, c)
}

// checkLeast: what is missed neither adds up to more or less than 0, nor does it times Here; so any other clock misses by the squares more by which it is another one.
func checkLeast(t *testing.T, l []impl.Tick, c impl.Clock) {
	t.Helper()
	sum, sumByHere := new(big.Rat), new(big.Rat)
	for _, k := range l {
		miss := minus(whole(int64(k.There)), thereBy(t, c, k.Here))
		sum, sumByHere = plus(sum, miss), plus(sumByHere, times(miss, whole(int64(k.Here))))
	}
	if sum.Sign() != 0 || sumByHere.Sign() != 0 {
		t.Errorf("ClockOf of %v: %q does not miss least", l, c)
	}
}

// when is a t, exactly: num / den, den above 0.
type when struct {
	num int
	den int
}

func (w when) less(other when) bool { return w.num*other.den < other.num*w.den }

func (w when) text() string { return big.NewRat(int64(w.num), int64(w.den)).RatString() }

// lies says whether the ray is on the wall then: in line with its ends, and no farther left, right, up or down than they are.
func lies(w impl.Wall, x int, y int, dx int, dy int, at when) bool {
	px, py := x*at.den+at.num*dx, y*at.den+at.num*dy
	ax, ay, bx, by := w.X1*at.den, w.Y1*at.den, w.X2*at.den, w.Y2*at.den
	inLine := (w.X2-w.X1)*(py-ay) == (w.Y2-w.Y1)*(px-ax)
	return inLine && px >= min(ax, bx) && px <= max(ax, bx) && py >= min(ay, by) && py <= max(ay, by)
}

// whenAt are the times at which a ray may come to a wall: at once, at one of its ends, or where both lines cross.
func whenAt(w impl.Wall, x int, y int, dx int, dy int) []when {
	l := []when{{0, 1}}
	quotient := func(num int, den int) {
		if den < 0 {
			num, den = -num, -den
		}
		if den > 0 && num >= 0 {
			l = append(l, when{num, den})
		}
	}
	quotient(w.X1-x, dx)
	quotient(w.X2-x, dx)
	quotient(w.Y1-y, dy)
	quotient(w.Y2-y, dy)
	ex, ey := w.X2-w.X1, w.Y2-w.Y1
	quotient((w.X1-x)*ey-(w.Y1-y)*ex, dx*ey-dy*ex)
	return l
}

// hitOne is when a ray is on the wall for the first time, by trying.
func hitOne(w impl.Wall, x int, y int, dx int, dy int) (when, bool) {
	best, found := when{}, false
	for _, at := range whenAt(w, x, y, dx, dy) {
		if lies(w, x, y, dx, dy, at) && (!found || at.less(best)) {
			best, found = at, true
		}
	}
	return best, found
}

func isWall(w impl.Wall) bool {
	return upTo(mostPlace, w.X1, w.Y1, w.X2, w.Y2) && (w.X1 != w.X2 || w.Y1 != w.Y2)
}

func areWalls(l []impl.Wall) bool {
	return len(l) <= mostWalls && !slices.ContainsFunc(l, func(w impl.Wall) bool { return !isWall(w) })
}

func isRay(x int, y int, way []int) bool {
	return len(way) == 2 && upTo(mostPlace, x, y, way[0], way[1]) && (way[0] != 0 || way[1] != 0)
}

// exactHit is what RayHit is to answer of anything.
func exactHit(l []impl.Wall, x int, y int, dx int, dy int) (string, int, bool) {
	if !areWalls(l) || !isRay(x, y, []int{dx, dy}) {
		return "", 0, false
	}
	best, first, found := when{}, 0, false
	for i, w := range l {
		if at, hit := hitOne(w, x, y, dx, dy); hit && (!found || at.less(best)) {
			best, first, found = at, i, true
		}
	}
	if !found {
		return "", 0, false
	}
	return best.text(), first, true
}

// checkHit asks RayHit of anything, and the same of each wall by itself.
func checkHit(t *testing.T, l []impl.Wall, x int, y int, dx int, dy int) {
	t.Helper()
	want, first, fine := exactHit(l, x, y, dx, dy)
	if got, i, ok := impl.RayHit(l, x, y, dx, dy); got != want || i != first || ok != fine {
		t.Errorf("RayHit of %v from %d, %d along %d, %d: %q %d %v, want %q %d %v", l, x, y, dx, dy, got, i, ok, want, first, fine)
	}
	if !areWalls(l) || len(l) == 1 {
		return
	}
	for i := range l {
		s, _, ok := impl.RayHit(l[i:i+1], x, y, dx, dy)
		if c, _ := impl.CmpFrac(s, want); ok && (!fine || c < 0 || c == 0 && i < first) || i == first && fine && c != 0 {
			t.Errorf("RayHit of %v from %d, %d along %d, %d: %q %d, but the wall %d by itself %q", l, x, y, dx, dy, want, first, i, s)
		}
	}
}

// checkScan asks ScanOf of anything, and RayHit of each of its rays.
func checkScan(t *testing.T, l []impl.Wall, x int, y int, rays [][]int) {
	t.Helper()
	fine := areWalls(l) && len(rays) <= mostCounts && !slices.ContainsFunc(rays, func(way []int) bool { return !isRay(x, y, way) })
	var want []string
	for i := range rays {
		if fine {
			s, _, _ := exactHit(l, x, y, rays[i][0], rays[i][1])
			told, _, _ := impl.RayHit(l, x, y, rays[i][0], rays[i][1])
			if want = append(want, s); s != told {
				t.Errorf("RayHit of %v from %d, %d along %v: %q, want %q", l, x, y, rays[i], told, s)
			}
		}
	}
	if got, ok := impl.ScanOf(l, x, y, rays); !slices.Equal(got, want) || ok != fine {
		t.Errorf("ScanOf of %v from %d, %d along %.200v: %q %v, want %q %v", l, x, y, rays, got, ok, want, fine)
	}
}

func drawnBetween(r *rand.Rand, lo int, hi int) int { return lo + r.Intn(hi-lo+1) }

func drawnTicks(r *rand.Rand, n int, most int) []impl.Tick {
	l := make([]impl.Tick, n)
	for i := range l {
		l[i] = impl.Tick{Here: drawnBetween(r, -most, most), There: drawnBetween(r, -most, most)}
	}
	return l
}

func drawnWall(r *rand.Rand, most int) impl.Wall {
	for {
		w := impl.Wall{X1: drawnBetween(r, -most, most), Y1: drawnBetween(r, -most, most), X2: drawnBetween(r, -most, most), Y2: drawnBetween(r, -most, most)}
		if isWall(w) {
			return w
		}
	}
}

func drawnWalls(r *rand.Rand, n int, most int) []impl.Wall {
	l := make([]impl.Wall, n)
	for i := range l {
		l[i] = drawnWall(r, most)
	}
	return l
}

func drawnWay(r *rand.Rand, most int) []int {
	for {
		if way := []int{drawnBetween(r, -most, most), drawnBetween(r, -most, most)}; way[0] != 0 || way[1] != 0 {
			return way
		}
	}
}
