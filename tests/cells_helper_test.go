package tests

import (
	"iter"
	"math/rand"
	"slices"
	"strings"
	"testing"

	"loop.example/g00047/impl"
)

const (
	mostWide = 16
	mostEnd  = 1000
	mostSeen = 1000000
)

// cellsOf are cells by a picture: rows with bars between, . for a free cell, # for a wall, ? for one that is not known.
func cellsOf(picture string) impl.Cells {
	rows := strings.Split(picture, "|")
	kinds := []int{}
	for _, sign := range strings.Join(rows, "") {
		kinds = append(kinds, strings.IndexRune(".#?", sign))
	}
	return impl.Cells{Wide: len(rows[0]), Cells: kinds}
}

// countsOf are counts whose Hits and Misses stand behind one another.
func countsOf(wide int, numbers ...int) impl.Counts {
	return impl.Counts{Wide: wide, Hits: slices.Clone(numbers[:len(numbers)/2]), Misses: slices.Clone(numbers[len(numbers)/2:])}
}

func open(wide int, high int) impl.Cells {
	return impl.Cells{Wide: wide, Cells: make([]int, wide*high)}
}

// isWhole: so many numbers are 1 to 16 rows of 1 to 16.
func isWhole(wide int, numbers int) bool {
	for high := 1; high <= mostWide; high++ {
		if wide >= 1 && wide <= mostWide && numbers == wide*high {
			return true
		}
	}
	return false
}

func isCells(m impl.Cells) bool {
	return isWhole(m.Wide, len(m.Cells)) && !slices.ContainsFunc(m.Cells, func(kind int) bool { return kind < 0 || kind > 2 })
}

func isSeen(c impl.Counts) bool {
	wrong := func(n int) bool { return n < 0 || n > mostSeen }
	return isWhole(c.Wide, len(c.Hits)) && len(c.Misses) == len(c.Hits) && !slices.ContainsFunc(c.Hits, wrong) && !slices.ContainsFunc(c.Misses, wrong)
}

func sameCells(a impl.Cells, b impl.Cells) bool {
	return a.Wide == b.Wide && slices.Equal(a.Cells, b.Cells)
}

func sameCounts(a impl.Counts, b impl.Counts) bool {
	return a.Wide == b.Wide && slices.Equal(a.Hits, b.Hits) && slices.Equal(a.Misses, b.Misses)
}

// manySides are cells that are all free, most of them no whole rows, too few, too many or too wide.
func manySides() []impl.Cells {
	all := []impl.Cells{{}, {Wide: 1}, {Wide: 1, Cells: []int{}}}
	wides := append([]int{-16, -256, 256, 1 << 32, -1 << 32, 1<<62 + 1}, farInts...)
	for wide := -2; wide <= mostWide+3; wide++ {
		wides = append(wides, wide)
	}
	for _, wide := range wides {
		for _, n := range []int{0, 1, 2, 3, 4, 15, 16, 17, 31, 32, 33, 34, 36, 37, 255, 256, 257, 272, 288, 289} {
			all = append(all, impl.Cells{Wide: wide, Cells: make([]int, n)})
		}
	}
	return all
}

// wrongKinds have a number that is no kind of cell, at the first, a middle and the last place.
func wrongKinds() iter.Seq[impl.Cells] {
	return func(yield func(impl.Cells) bool) {
		for _, sides := range [][]int{{1, 1}, {3, 2}, {1, mostWide}, {mostWide, 1}, {6, 6}, {mostWide, mostWide}} {
			for _, at := range placesIn(sides[0] * sides[1]) {
				for _, kind := range append([]int{-1, 3, 4, 256, -2, 1 << 32, -1 << 32}, farInts...) {
					m := open(sides[0], sides[1])
					m.Cells[at] = kind
					if !yield(m) {
						return
					}
				}
			}
		}
	}
}

func cloneCells(m impl.Cells) impl.Cells {
	return impl.Cells{Wide: m.Wide, Cells: slices.Clone(m.Cells)}
}

func cloneCounts(c impl.Counts) impl.Counts {
	return impl.Counts{Wide: c.Wide, Hits: slices.Clone(c.Hits), Misses: slices.Clone(c.Misses)}
}

// nearShare is the whole number that is nearest to n k / long, of two as near the one nearer to 0.
func nearShare(n int, k int, long int) int {
	if n < 0 {
		return -nearShare(-n, k, long)
	}
	return (2*n*k + long - 1) / (2 * long)
}

// nearLine has at each place of its longer side the cell that is nearest to the straight line, of two as near the one that is nearer to the first end.
func nearLine(x1 int, y1 int, x2 int, y2 int) [][]int {
	dx, dy := x2-x1, y2-y1
	long := max(dx, -dx, dy, -dy)
	line := [][]int{}
	for k := range long + 1 {
		line = append(line, []int{x1 + nearShare(dx, k, max(1, long)), y1 + nearShare(dy, k, max(1, long))})
	}
	return line
}

// ties are how often f was just -ay, how often it was just ax, and how often it was between them.
type ties struct {
	ay   int
	ax   int
	both int
}

// ruledLine goes by the words of the document.
func ruledLine(x1 int, y1 int, x2 int, y2 int) ([][]int, ties) {
	sx, sy, met := 1, 1, ties{}
	if x2 < x1 {
		sx = -1
	}
	if y2 < y1 {
		sy = -1
	}
	ax, ay := sx*(x2-x1), sy*(y2-y1)
	line, e := [][]int{{x1, y1}}, ax-ay
	for x, y := x1, y1; x != x2 || y != y2; line = append(line, []int{x, y}) {
		f := 2 * e
		switch {
		case f == -ay:
			met.ay++
		case f == ax:
			met.ax++
		case f > -ay && f < ax:
			met.both++
		}
		if f > -ay {
			e, x = e-ay, x+sx
		}
		if f < ax {
			e, y = e+ax, y+sy
		}
	}
	return line, met
}

// checkLine asks LineCells of anything.
func checkLine(t *testing.T, x1 int, y1 int, x2 int, y2 int) {
	t.Helper()
	got, want := impl.LineCells(x1, y1, x2, y2), [][]int{}
	if upTo(mostEnd, x1, y1, x2, y2) {
		want, _ = ruledLine(x1, y1, x2, y2)
		if !slices.EqualFunc(want, nearLine(x1, y1, x2, y2), slices.Equal) {
			t.Fatalf("the line from %d, %d to %d, %d has two answers", x1, y1, x2, y2)
		}
	}
	if !slices.EqualFunc(got, want, slices.Equal) {
		t.Errorf("LineCells of %d, %d, %d, %d: %v, want %v", x1, y1, x2, y2, got, want)
	}
}

// beam is a ray that may be added.
type beam struct {
	x1, y1, x2, y2 int
	hit            bool
}

// meets: both its ends are cells of the counts, which are good.
func (b beam) meets(c impl.Counts) bool {
	if !isSeen(c) {
		return false
	}
	high := len(c.Hits) / c.Wide
	return min(b.x1, b.y1, b.x2, b.y2) >= 0 && max(b.x1, b.x2) < c.Wide && max(b.y1, b.y2) < high
}

// seenBy are the counts with the beam added, with no look at their limit.
func (b beam) seenBy(c impl.Counts) impl.Counts {
	c = cloneCounts(c)
	line := nearLine(b.x1, b.y1, b.x2, b.y2)
	for i, cell := range line {
		at := cell[1]*c.Wide + cell[0]
		if b.hit && i == len(line)-1 {
			c.Hits[at]++
		} else {
			c.Misses[at]++
		}
	}
	return c
}

func (b beam) addTo(c impl.Counts) (impl.Counts, bool) {
	return impl.AddRay(c, b.x1, b.y1, b.x2, b.y2, b.hit)
}

// checkBeam asks AddRay of anything.
func checkBeam(t *testing.T, c impl.Counts, b beam) {
	t.Helper()
	want, good := impl.Counts{}, b.meets(c)
	if good {
		want = b.seenBy(c)
		good = isSeen(want)
	}
	if !good {
		want = impl.Counts{}
	}
	if got, ok := b.addTo(c); ok != good || !sameCounts(got, want) {
		t.Errorf("AddRay of %v, %v: %v %v, want %v %v", c, b, got, ok, want, good)
	}
}

// checkSeen asks of anything what takes counts alone.
func checkSeen(t *testing.T, c impl.Counts) {
	t.Helper()
	if got := impl.GoodCounts(c); got != isSeen(c) {
		t.Errorf("GoodCounts of %v: %v", c, got)
	}
	want := impl.Cells{}
	if isSeen(c) {
		want.Wide = c.Wide
		for i := range c.Hits {
			kind := impl.CellOpen
			if c.Hits[i] > c.Misses[i] {
				kind = impl.CellWall
			} else if c.Hits[i] < c.Misses[i] {
				kind = impl.CellFree
			}
			want.Cells = append(want.Cells, kind)
		}
	}
	if got := impl.CellsOf(c); !sameCells(got, want) {
		t.Errorf("CellsOf of %v: %v, want %v", c, got, want)
	}
}

// kindsAlong are the kinds of all cells along a way, from the next one on up to the edge.
func kindsAlong(m impl.Cells, at int, way int) []int {
	x, y := at%m.Wide, at/m.Wide
	row, column := m.Cells[y*m.Wide:(y+1)*m.Wide], []int{}
	for i := x; i < len(m.Cells); i += m.Wide {
		column = append(column, m.Cells[i])
	}
	line, here := row, x
	if way == 1 || way == 3 {
		line, here = column, y
	}
	if way < 2 {
		return line[here+1:]
	}
	back := slices.Clone(line[:here])
	slices.Reverse(back)
	return back
}

func isFree(m impl.Cells, at int) bool {
	return isCells(m) && at >= 0 && at < len(m.Cells) && m.Cells[at] == 0
}

func exactFar(m impl.Cells, at int, way int) int {
	if !isFree(m, at) || way < 0 || way > 3 {
		return -1
	}
	kinds := kindsAlong(m, at, way)
	far := slices.IndexFunc(kinds, func(kind int) bool { return kind != 0 })
	if far < 0 {
		return len(kinds)
	}
	return far
}

func exactStep(m impl.Cells, at int, way int) int {
	if exactFar(m, at, way) == 0 {
		return at
	}
	return at + []int{1, m.Wide, -1, -m.Wide}[way]
}

func checkFar(t *testing.T, m impl.Cells, at int, way int) {
	t.Helper()
	if got, want := impl.FarOf(m, at, way), exactFar(m, at, way); got != want {
		t.Errorf("FarOf of %v, %d, %d: %d, want %d", m, at, way, got, want)
	}
}

func placesOf(m impl.Cells) []int {
	places := []int{}
	for at := range m.Cells {
		if isFree(m, at) {
			places = append(places, at)
		}
	}
	return places
}

// notFree are cells that are not free, and numbers that are no cells.
func notFree(m impl.Cells) []int {
	n := len(m.Cells)
	wrong := append([]int{-1, n, n + 1, -n, n + m.Wide, 1 << 32, -1 << 32}, farInts...)
	for at := range m.Cells {
		if !isFree(m, at) {
			wrong = append(wrong, at)
		}
	}
	return wrong
}

// isPlaces: of good cells, rising, no two alike, and each free.
func isPlaces(m impl.Cells, l []int) bool {
	rising := slices.IsSorted(l) && len(slices.Compact(slices.Clone(l))) == len(l)
	return isCells(m) && rising && !slices.ContainsFunc(l, func(at int) bool { return !isFree(m, at) })
}

// checkCells asks of anything what takes cells alone, and FarOf of every number that they may have.
func checkCells(t *testing.T, m impl.Cells) {
	t.Helper()
	if got := impl.GoodCells(m); got != isCells(m) {
		t.Errorf("GoodCells of %v: %v", m, got)
	}
	if got := impl.AllPlaces(m); !slices.Equal(got, placesOf(m)) {
		t.Errorf("AllPlaces of %v: %v, want %v", m, got, placesOf(m))
	}
	for at := -2; at < min(len(m.Cells), mostWide*mostWide)+2; at++ {
		for way := -1; way <= 4; way++ {
			checkFar(t, m, at, way)
		}
	}
}

// checkSight asks SeePlaces of anything.
func checkSight(t *testing.T, m impl.Cells, l []int, way int, far int) {
	t.Helper()
	want, good := []int{}, isPlaces(m, l) && way >= 0 && way <= 3
	for _, at := range l {
		if good && exactFar(m, at, way) == far {
			want = append(want, at)
		}
	}
	if got, ok := impl.SeePlaces(m, l, way, far); ok != good || !slices.Equal(got, want) {
		t.Errorf("SeePlaces of %v, %v, %d, %d: %v %v, want %v %v", m, l, way, far, got, ok, want, good)
	}
}

// checkSteps asks StepPlaces of anything.
func checkSteps(t *testing.T, m impl.Cells, l []int, way int) {
	t.Helper()
	want, good := []int{}, isPlaces(m, l) && way >= 0 && way <= 3
	for at := range m.Cells {
		if good && slices.ContainsFunc(l, func(from int) bool { return exactStep(m, from, way) == at }) {
			want = append(want, at)
		}
	}
	got, ok := impl.StepPlaces(m, l, way)
	if ok != good || !slices.Equal(got, want) {
		t.Errorf("StepPlaces of %v, %v, %d: %v %v, want %v %v", m, l, way, got, ok, want, good)
	}
	if ok && (!isPlaces(m, got) || len(got) > len(l)) {
		t.Errorf("StepPlaces of %v, %v, %d: %v is no places list, or too long", m, l, way, got)
	}
}

// checkApart: over all distances each place of a list is seen once.
func checkApart(t *testing.T, m impl.Cells, l []int, way int) {
	t.Helper()
	often := make([]int, len(m.Cells))
	for far := -1; far <= mostWide; far++ {
		seen, ok := impl.SeePlaces(m, l, way, far)
		if !ok || !isPlaces(m, seen) {
			t.Errorf("SeePlaces of %v, %v, %d, %d: %v %v", m, l, way, far, seen, ok)
		}
		for _, at := range seen {
			often[at]++
		}
	}
	for at, n := range often {
		if (n == 1) != slices.Contains(l, at) || n > 1 {
			t.Errorf("SeePlaces of %v, %v, %d: %d is seen %d times", m, l, way, at, n)
		}
	}
}

// checkPlaces asks of a places list all that may be asked.
func checkPlaces(t *testing.T, m impl.Cells, l []int) {
	t.Helper()
	for way := -1; way <= 4; way++ {
		for far := -1; far <= mostWide; far++ {
			checkSight(t, m, l, way, far)
		}
		checkSteps(t, m, l, way)
		if isPlaces(m, l) && way >= 0 && way <= 3 {
			checkApart(t, m, l, way)
		}
	}
}

// drawnCells have one that is not free among so many.
func drawnCells(r *rand.Rand, wide int, high int, among int) impl.Cells {
	m := open(wide, high)
	for i := range m.Cells {
		if r.Intn(among) == 0 {
			m.Cells[i] = 1 + r.Intn(2)
		}
	}
	return m
}

func drawnCounts(r *rand.Rand, wide int, high int, most int) impl.Counts {
	c := impl.Counts{Wide: wide}
	for range wide * high {
		c.Hits, c.Misses = append(c.Hits, r.Intn(most+1)), append(c.Misses, r.Intn(most+1))
	}
	return c
}

func drawnBeam(r *rand.Rand, wide int, high int) beam {
	return beam{r.Intn(wide), r.Intn(high), r.Intn(wide), r.Intn(high), r.Intn(2) == 0}
}

// drawnPlaces are some of the free cells.
func drawnPlaces(r *rand.Rand, m impl.Cells) []int {
	return slices.DeleteFunc(placesOf(m), func(int) bool { return r.Intn(2) == 0 })
}
