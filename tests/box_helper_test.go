package tests

import (
	"fmt"
	"math"
	"math/big"
	"math/rand"
	"slices"
	"testing"

	"loop.example/g00047/impl"
)

const mostRun = 8

// under is the greatest float that is not above an exact number; infinite where there is none.
func under(r *big.Rat) float64 {
	x := rounded(r) + 0
	if math.IsInf(x, 1) {
		return greatest
	}
	if !math.IsInf(x, -1) && exact(x).Cmp(r) > 0 {
		return stepDown(x)
	}
	return x
}

// over is the least float that is not below an exact number; infinite where there is none.
func over(r *big.Rat) float64 { return -under(negative(r)) + 0 }

func boxOf(lo []float64, hi []float64) impl.Box { return impl.Box{Lo: lo, Hi: hi} }

func reals(l ...float64) []float64 { return l }

// evenReals are n floats of the same value.
func evenReals(n int, x float64) []float64 { return slices.Repeat([]float64{x}, n) }

// oneReals has the ones of a matrix that changes nothing.
func oneReals(n int, x float64) [][]float64 {
	m := [][]float64{}
	for i := range n {
		row := make([]float64, n)
		row[i] = x
		m = append(m, row)
	}
	return m
}

func sameReals(a []float64, b []float64) bool { return slices.EqualFunc(a, b, same) }

func sameBox(a impl.Box, b impl.Box) bool { return sameReals(a.Lo, b.Lo) && sameReals(a.Hi, b.Hi) }

func areReals(l []float64) bool {
	return !slices.ContainsFunc(l, func(x float64) bool { return !isReal(x) })
}

func isBox(b impl.Box) bool {
	if len(b.Lo) != len(b.Hi) || len(b.Lo) < 1 || len(b.Lo) > mostState || !areReals(b.Lo) || !areReals(b.Hi) {
		return false
	}
	for i := range b.Lo {
		if b.Lo[i] > b.Hi[i] {
			return false
		}
	}
	return true
}

// ride is whatever the functions of the chapter are asked.
type ride struct {
	m     [][]float64
	b     impl.Box
	w     []float64
	keep  impl.Box
	x     []string
	steps int
}

func cloneBox(b impl.Box) impl.Box {
	return impl.Box{Lo: slices.Clone(b.Lo), Hi: slices.Clone(b.Hi)}
}

func cloneReals(m [][]float64) [][]float64 {
	rows := slices.Clone(m)
	for i := range rows {
		rows[i] = slices.Clone(rows[i])
	}
	return rows
}

func (a ride) clone() ride {
	return ride{cloneReals(a.m), cloneBox(a.b), slices.Clone(a.w), cloneBox(a.keep), slices.Clone(a.x), a.steps}
}

func (a ride) same(b ride) bool {
	return slices.EqualFunc(a.m, b.m, sameReals) && sameBox(a.b, b.b) && sameReals(a.w, b.w) && sameBox(a.keep, b.keep) && slices.Equal(a.x, b.x) && a.steps == b.steps
}

// isMove says whether m, b and w are as said.
func (a ride) isMove() bool {
	n := len(a.b.Lo)
	if !isBox(a.b) || len(a.m) != n || len(a.w) != n || !areReals(a.w) || slices.Min(a.w) < 0 {
		return false
	}
	for _, row := range a.m {
		if len(row) != n || !areReals(row) {
			return false
		}
	}
	return true
}

// edges are what one row makes of a box by exact sums and products, each one rounded out: which end of the box a number picks is told by its sign. NaN where a float does not exist.
func edges(row []float64, b impl.Box, w float64) (float64, float64) {
	lo, hi := 0.0, 0.0
	for k, by := range row {
		least, most := b.Lo[k], b.Hi[k]
		if by < 0 {
			least, most = most, least
		}
		lo = out(under, lo, out(under, by, least, times), plus)
		hi = out(over, hi, out(over, by, most, times), plus)
	}
	return out(under, lo, w, minus), out(over, hi, w, plus)
}

// out is one exact operation, rounded.
func out(round func(*big.Rat) float64, a float64, b float64, do func(*big.Rat, *big.Rat) *big.Rat) float64 {
	if math.IsNaN(a) || math.IsNaN(b) {
		return math.NaN()
	}
	x := round(do(exact(a), exact(b)))
	if math.IsInf(x, 0) {
		return math.NaN()
	}
	return x
}

// step is what BoxStep is to answer.
func (a ride) step() (impl.Box, bool) {
	if !a.isMove() {
		return impl.Box{}, false
	}
	next := impl.Box{}
	for r, row := range a.m {
		lo, hi := edges(row, a.b, a.w[r])
		if math.IsNaN(lo) || math.IsNaN(hi) {
			return impl.Box{}, false
		}
		next.Lo, next.Hi = append(next.Lo, lo), append(next.Hi, hi)
	}
	return next, true
}

// run is what BoxRun is to answer.
func (a ride) run() ([]impl.Box, bool) {
	if !a.isMove() || a.steps < 0 || a.steps > mostRun {
		return nil, false
	}
	l, at := []impl.Box{a.b}, a
	for range a.steps {
		next, ok := at.step()
		if !ok {
			return nil, false
		}
		l, at.b = append(l, next), next
	}
	return l, true
}

// within holds each edge against the other as exact numbers.
func within(a impl.Box, b impl.Box) bool {
	if !isBox(a) || !isBox(b) || len(a.Lo) != len(b.Lo) {
		return false
	}
	for i := range a.Lo {
		if exact(a.Lo[i]).Cmp(exact(b.Lo[i])) < 0 || exact(a.Hi[i]).Cmp(exact(b.Hi[i])) > 0 {
			return false
		}
	}
	return true
}

// firstOut is what FirstOut is to answer.
func (a ride) firstOut() (int, bool) {
	l, ok := a.run()
	if !ok || !isBox(a.keep) || len(a.keep.Lo) != len(a.b.Lo) {
		return 0, false
	}
	for i, b := range l {
		if !within(b, a.keep) {
			return i, true
		}
	}
	return -1, true
}

func hasBox(t *testing.T, b impl.Box, x []string) bool {
	t.Helper()
	if !isBox(b) || !areFracs(x, len(b.Lo)) {
		return false
	}
	for i, at := range ratList(t, x) {
		if at.Cmp(exact(b.Lo[i])) < 0 || at.Cmp(exact(b.Hi[i])) > 0 {
			return false
		}
	}
	return true
}

// meetAndHull are made by putting the ends of both in order: where they meet, the two in the middle are the meet.
func meetAndHull(a impl.Box, b impl.Box) (meet impl.Box, met bool, hull impl.Box, ok bool) {
	if !isBox(a) || !isBox(b) || len(a.Lo) != len(b.Lo) {
		return
	}
	met, ok = true, true
	for i := range a.Lo {
		ends := slices.Sorted(slices.Values([]float64{a.Lo[i], a.Hi[i], b.Lo[i], b.Hi[i]}))
		met = met && a.Lo[i] <= b.Hi[i] && b.Lo[i] <= a.Hi[i]
		meet.Lo, meet.Hi = append(meet.Lo, ends[1]), append(meet.Hi, ends[2])
		hull.Lo, hull.Hi = append(hull.Lo, ends[0]), append(hull.Hi, ends[3])
	}
	if !met {
		meet = impl.Box{}
	}
	return
}

// checkBox holds an answer against what is wanted, bit by bit; an answer that is told is a good box.
func checkBox(t *testing.T, what string, got impl.Box, ok bool, want impl.Box, wantOk bool) {
	t.Helper()
	if !sameBox(got, want) || ok != wantOk || ok && !impl.GoodBox(got) {
		t.Errorf("%.900s: got %x %v, want %x %v", what, got, ok, want, wantOk)
	}
}

func checkBoxes(t *testing.T, what string, got []impl.Box, ok bool, want []impl.Box, wantOk bool) {
	t.Helper()
	if !slices.EqualFunc(got, want, sameBox) || ok != wantOk {
		t.Errorf("%.900s: got %x %v, want %x %v", what, got, ok, want, wantOk)
	}
}

func checkTwoBoxes(t *testing.T, a impl.Box, b impl.Box) {
	t.Helper()
	what := fmt.Sprintf("%x and %x", a, b)
	if got := impl.BoxWithin(a, b); got != within(a, b) {
		t.Errorf("BoxWithin of %s: %v", what, got)
	}
	wantMeet, wantMet, wantHull, wantOk := meetAndHull(a, b)
	meet, met := impl.BoxMeet(a, b)
	checkBox(t, "BoxMeet of "+what, meet, met, wantMeet, wantMet)
	hull, ok := impl.BoxHull(a, b)
	checkBox(t, "BoxHull of "+what, hull, ok, wantHull, wantOk)
}

// check asks every function of boxes, of good and of wrong ones, and looks whether an argument was changed.
func (a ride) check(t *testing.T) {
	t.Helper()
	before := a.clone()
	what := fmt.Sprintf("%x", a)
	if got := impl.GoodBox(a.b); got != isBox(a.b) {
		t.Errorf("GoodBox of %x: %v", a.b, got)
	}
	if got := impl.GoodBox(a.keep); got != isBox(a.keep) {
		t.Errorf("GoodBox of %x: %v", a.keep, got)
	}
	if got := impl.BoxHas(a.b, a.x); got != hasBox(t, a.b, a.x) {
		t.Errorf("BoxHas of %x and %.300v: %v", a.b, a.x, got)
	}
	checkTwoBoxes(t, a.b, a.keep)
	checkTwoBoxes(t, a.keep, a.b)
	checkTwoBoxes(t, a.b, a.b)
	wantBox, wantOk := a.step()
	box, ok := impl.BoxStep(a.m, a.b, a.w)
	checkBox(t, "BoxStep of "+what, box, ok, wantBox, wantOk)
	wantRun, wantOk := a.run()
	run, ok := impl.BoxRun(a.m, a.b, a.w, a.steps)
	checkBoxes(t, "BoxRun of "+what, run, ok, wantRun, wantOk)
	wantOut, wantOk := a.firstOut()
	number, ok := impl.FirstOut(a.m, a.b, a.w, a.keep, a.steps)
	if number != wantOut || ok != wantOk {
		t.Errorf("FirstOut of %s: %d %v, want %d %v", what, number, ok, wantOut, wantOk)
	}
	if !a.same(before) {
		t.Errorf("an argument was changed: %x, before %x", a, before)
	}
}

// checkNoMove: there is neither a step nor a run nor a first box that is out.
func (a ride) checkNoMove(t *testing.T) {
	t.Helper()
	box, ok := impl.BoxStep(a.m, a.b, a.w)
	checkBox(t, fmt.Sprintf("BoxStep of %x", a), box, ok, impl.Box{}, false)
	for steps := range mostRun + 1 {
		run, ok := impl.BoxRun(a.m, a.b, a.w, steps)
		checkBoxes(t, fmt.Sprintf("BoxRun of %x, %d steps", a, steps), run, ok, nil, false)
		number, ok := impl.FirstOut(a.m, a.b, a.w, a.keep, steps)
		if number != 0 || ok {
			t.Errorf("FirstOut of %x, %d steps: %d %v", a, steps, number, ok)
		}
	}
	a.check(t)
}

// checkNoBox: b is no good box, so no function has an answer of it.
func (a ride) checkNoBox(t *testing.T) {
	t.Helper()
	if impl.GoodBox(a.b) || impl.BoxHas(a.b, a.x) || impl.BoxWithin(a.b, a.keep) || impl.BoxWithin(a.keep, a.b) || impl.BoxWithin(a.b, a.b) {
		t.Errorf("%x is good, or has something, or lies somewhere", a.b)
	}
	a.checkNoMove(t)
	// The same as a keep it is no better.
	if n, ok := impl.FirstOut(a.m, a.keep, a.w, a.b, a.steps); n != 0 || ok {
		t.Errorf("FirstOut of %x as a keep: %d %v", a.b, n, ok)
	}
}

// drawnBox has edges of one kind of float; now and then an edge is a point.
func drawnBox(r *rand.Rand, n int, one func(*rand.Rand) float64) impl.Box {
	b := boxOf(realList(r, n, one), realList(r, n, one))
	for i := range b.Lo {
		if r.Intn(8) == 0 {
			b.Hi[i] = b.Lo[i]
		}
		b.Lo[i], b.Hi[i] = min(b.Lo[i], b.Hi[i]), max(b.Lo[i], b.Hi[i])
	}
	return b
}

func drawnMatrix(r *rand.Rand, n int, one func(*rand.Rand) float64) [][]float64 {
	m := [][]float64{}
	for range n {
		m = append(m, realList(r, n, one))
	}
	return m
}

func drawnNoise(r *rand.Rand, n int, one func(*rand.Rand) float64) []float64 {
	w := realList(r, n, one)
	for i := range w {
		w[i] = math.Abs(w[i])
	}
	return w
}

func drawnRide(r *rand.Rand, n int, one func(*rand.Rand) float64) ride {
	return ride{drawnMatrix(r, n, one), drawnBox(r, n, one), drawnNoise(r, n, one), drawnBox(r, n, one), drawnTexts(r, n, 3), r.Intn(mostRun + 1)}
}

// goodRide has whatever is as said, for n numbers; nothing leaves keep.
func goodRide(n int) ride {
	a := ride{b: boxOf(evenReals(n, -1), evenReals(n, 2)), w: evenReals(n, 0.5), keep: boxOf(evenReals(n, -100), evenReals(n, 100)), x: slices.Repeat([]string{"1/3"}, n), steps: 2}
	for i := range n {
		row := evenReals(n, 0.25)
		row[i] = -0.5
		a.m = append(a.m, row)
	}
	return a
}

// nearSum is a float near 1, or one that is that far from it in its last bits alone.
func nearSum(r *rand.Rand) float64 { return float64(1-2*r.Intn(2)) * (1 + float64(r.Intn(9))*0x1p-52) }

// smallReal has few bits, so that sums and products of it are exact.
func smallReal(r *rand.Rand) float64 { return float64(r.Intn(17)-8) / 4 }

// leastReal is one of the least floats.
func leastReal(r *rand.Rand) float64 { return float64(r.Intn(9)-4)*least + 0 }

// edgeReal is one of the floats at which something begins or ends.
func edgeReal(r *rand.Rand) float64 {
	l := edgeReals()
	return l[r.Intn(len(l))] + 0
}

// realKinds are ways to draw a good float.
func realKinds() []func(*rand.Rand) float64 {
	return []func(*rand.Rand) float64{nearReal, smallReal, nearSum, anyReal, edgeReal, leastReal}
}
