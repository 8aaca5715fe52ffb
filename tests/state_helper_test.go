package tests

import (
	"fmt"
	"math/big"
	"math/rand"
	"slices"
	"strings"
	"testing"

	"loop.example/g00047/impl"
)

const (
	mostState  = 3
	mostSettle = 4
	// mostBytes is for each number of a coefficient that Settles is asked of.
	mostBytes = 40
)

// system are arguments of all functions of the chapter but Settles.
type system struct {
	a    [][]string
	b    []string
	c    []string
	k    []string
	x    []string
	goal []string
	u    []string
}

func isStateSquare(a [][]string) bool {
	return len(a) >= 1 && len(a) <= mostState && !slices.ContainsFunc(a, func(l []string) bool { return !areFracs(l, len(a)) })
}

// isStateWith: a matrix, and lists of as many good fractions.
func isStateWith(a [][]string, lists ...[]string) bool {
	return isStateSquare(a) && !slices.ContainsFunc(lists, func(l []string) bool { return !areFracs(l, len(a)) })
}

func isGoal(poly []string, n int) bool { return areFracs(poly, n+1) && poly[n] == "1" }

// polySum is asked for polynomials of any degrees.
func polySum(a []*big.Rat, b []*big.Rat) []*big.Rat {
	sum := rats(make([]int64, max(len(a), len(b)))...)
	for i := range a {
		sum[i] = plus(sum[i], a[i])
	}
	for i := range b {
		sum[i] = plus(sum[i], b[i])
	}
	return sum
}

// expandedPoly is the determinant of rows of polynomials, along the first one.
func expandedPoly(m [][][]*big.Rat) []*big.Rat {
	if len(m) == 0 {
		return rats(1)
	}
	sum := rats(0)
	for c, n := range m[0] {
		rest := [][][]*big.Rat{}
		for _, l := range m[1:] {
			rest = append(rest, slices.Delete(slices.Clone(l), c, c+1))
		}
		sum = polySum(sum, polyProduct(rats(int64(1-c%2*2)), polyProduct(n, expandedPoly(rest))))
	}
	return sum
}

// exactChar has n + 1 coefficients, whatever the matrix is.
func exactChar(a [][]*big.Rat) []*big.Rat {
	m := make([][][]*big.Rat, len(a))
	for i, row := range a {
		for k, n := range row {
			entry := []*big.Rat{negative(n)}
			if i == k {
				entry = append(entry, whole(1))
			}
			m[i] = append(m[i], entry)
		}
	}
	return expandedPoly(m)[:len(a)+1]
}

// carriedOn are b, a b and so on: as many as there are rows.
func carriedOn(a [][]*big.Rat, b []*big.Rat) [][]*big.Rat {
	columns := [][]*big.Rat{}
	for range a {
		columns = append(columns, b)
		b = column(rowsByColumns(a, upright(b)), 0)
	}
	return columns
}

// exactRank goes by the words: a column counts if with those that count already it has a determinant that is not 0, in some of the rows.
func exactRank(columns [][]*big.Rat) int {
	counted := [][]*big.Rat{}
	for _, l := range columns {
		if more := append(slices.Clone(counted), l); anyMinor(more) {
			counted = more
		}
	}
	return len(counted)
}

func anyMinor(lists [][]*big.Rat) bool {
	for mask := range 1 << len(lists[0]) {
		rows := [][]*big.Rat{}
		for _, l := range lists {
			row := []*big.Rat{}
			for _, i := range among(mask) {
				row = append(row, l[i])
			}
			rows = append(rows, row)
		}
		if len(rows[0]) == len(rows) && expanded(rows).Sign() != 0 {
			return true
		}
	}
	return false
}

// exactLess is a less a column times a row.
func exactLess(a [][]*big.Rat, upward []*big.Rat, row []*big.Rat) [][]*big.Rat {
	return sumOfRows(a, rowsByColumns(upright(upward), [][]*big.Rat{rowTimes(row, whole(-1))}))
}

func rowTimes(l []*big.Rat, by *big.Rat) []*big.Rat {
	out := []*big.Rat{}
	for _, n := range l {
		out = append(out, times(n, by))
	}
	return out
}

// exactGain is the list for which the matrix that closed makes of it has the goal. Each coefficient rises evenly with each number of the list: so the list is the answer of as many equations, by Cramer's rule.
func exactGain(goal []*big.Rat, closed func([]*big.Rat) [][]*big.Rat) ([]*big.Rat, bool) {
	n := len(goal) - 1
	from := exactChar(closed(rats(make([]int64, n)...)))
	rise, right := [][]*big.Rat{}, []*big.Rat{}
	for i := range n {
		one := rats(make([]int64, n)...)
		one[i] = whole(1)
		by := exactChar(closed(one))
		rise, right = append(rise, nil), append(right, minus(goal[i], from[i]))
		for k := range n {
			rise[i] = append(rise[i], minus(by[k], from[k]))
		}
	}
	below := expanded(rise)
	if below.Sign() == 0 {
		return nil, false
	}
	found := []*big.Rat{}
	for i := range n {
		above := slices.Clone(rise)
		above[i] = right
		found = append(found, quotient(expanded(above), below))
	}
	return found, true
}

// checkChar asks CharPoly of anything, and says what it is to answer.
func checkChar(t *testing.T, a [][]string) {
	t.Helper()
	var want []string
	fine := false
	if isStateSquare(a) {
		want, fine = tellRats(exactChar(ratRows(t, a)))
	}
	got, ok := impl.CharPoly(a)
	checkNumbers(t, fmt.Sprintf("CharPoly of %.400q", a), got, ok, want, fine)
	if ok && !isGoal(got, len(a)) {
		t.Errorf("CharPoly of %.300q is no goal: %.300q", a, got)
	}
}

// checkNumbers: beside false there is no number at all.
func checkNumbers(t *testing.T, what string, got []string, ok bool, want []string, fine bool) {
	t.Helper()
	if !fine {
		want = nil
	}
	if !slices.Equal(got, want) || ok != fine {
		t.Errorf("%.900s: got %.300q %v, want %.300q %v", what, got, ok, want, fine)
	}
}

func checkRank(t *testing.T, a [][]string, b []string) {
	t.Helper()
	want, fine := 0, isStateWith(a, b)
	if fine {
		want = exactRank(carriedOn(ratRows(t, a), ratList(t, b)))
	}
	if got, ok := impl.ControlRank(a, b); got != want || ok != fine {
		t.Errorf("ControlRank of %.400q, %.300q: got %d %v, want %d %v", a, b, got, ok, want, fine)
	}
}

func checkClosed(t *testing.T, a [][]string, b []string, k []string) {
	t.Helper()
	var want [][]string
	fine := isStateWith(a, b, k)
	if fine {
		for _, row := range exactLess(ratRows(t, a), ratList(t, b), ratList(t, k)) {
			l, fits := tellRats(row)
			want, fine = append(want, l), fine && fits
		}
	}
	if !fine {
		want = nil
	}
	if got, ok := impl.ClosedBy(a, b, k); !sameRows(got, want) || ok != fine {
		t.Errorf("ClosedBy of %.300q, %.200q, %.200q: got %.300q %v, want %.300q %v", a, b, k, got, ok, want, fine)
	}
}

// toldGain is exactGain in texts. Whether there is one is to be the same as that the rank is n.
func toldGain(t *testing.T, goal []string, columns [][]*big.Rat, closed func([]*big.Rat) [][]*big.Rat) ([]string, bool) {
	t.Helper()
	gain, found := exactGain(ratList(t, goal), closed)
	if rank := exactRank(columns); found != (rank == len(columns)) {
		t.Errorf("%.500v have the rank %d, but a gain: %v", columns, rank, found)
	}
	told, fits := tellRats(gain)
	return told, fits && found
}

// checkPoles: column by row taken off a, the goal is there, where all can be told.
func checkPoles(t *testing.T, a [][]string, upward []string, row []string, goal []string) {
	t.Helper()
	if closed, told := impl.ClosedBy(a, upward, row); told {
		poly, told := impl.CharPoly(closed)
		checkNumbers(t, fmt.Sprintf("CharPoly of %.300q closed by %.200q, %.200q", closed, upward, row), poly, told, goal, true)
	}
}

// checkPlaced asks PlaceGain of anything, and where there is an answer, for the poles.
func checkPlaced(t *testing.T, a [][]string, b []string, goal []string) {
	t.Helper()
	var want []string
	fine := isStateWith(a, b) && isGoal(goal, len(a))
	if fine {
		m, upward := ratRows(t, a), ratList(t, b)
		want, fine = toldGain(t, goal, carriedOn(m, upward), func(k []*big.Rat) [][]*big.Rat { return exactLess(m, upward, k) })
	}
	got, ok := impl.PlaceGain(a, b, goal)
	checkNumbers(t, fmt.Sprintf("PlaceGain of %.300q, %.200q, %.200q", a, b, goal), got, ok, want, fine)
	if ok {
		checkPoles(t, a, b, got, goal)
	}
}

// checkWatched asks WatchGain of anything, and where there is an answer, for the poles.
func checkWatched(t *testing.T, a [][]string, c []string, goal []string) {
	t.Helper()
	var want []string
	fine := isStateWith(a, c) && isGoal(goal, len(a))
	if fine {
		m, row := ratRows(t, a), ratList(t, c)
		want, fine = toldGain(t, goal, carriedOn(mirrored(m), row), func(l []*big.Rat) [][]*big.Rat { return exactLess(m, l, row) })
	}
	got, ok := impl.WatchGain(a, c, goal)
	checkNumbers(t, fmt.Sprintf("WatchGain of %.300q, %.200q, %.200q", a, c, goal), got, ok, want, fine)
	if ok {
		checkPoles(t, a, got, c, goal)
	}
}

// exactStates are the states behind each u, where all can be told.
func exactStates(t *testing.T, s system) ([][]string, bool) {
	t.Helper()
	if !isStateWith(s.a, s.b, s.x) || len(s.u) > mostSteps || !areFracs(s.u, len(s.u)) {
		return nil, false
	}
	states, now := [][]string{}, ratList(t, s.x)
	for _, u := range s.u {
		pushed := rowTimes(ratList(t, s.b), rat(t, u))
		now = column(sumOfRows(rowsByColumns(ratRows(t, s.a), upright(now)), upright(pushed)), 0)
		l, fits := tellRats(now)
		if !fits {
			return nil, false
		}
		states = append(states, l)
	}
	return states, true
}

// checkStates asks RunState and StateStep of anything, and says what they are to answer.
func checkStates(t *testing.T, s system) {
	t.Helper()
	want, fine := exactStates(t, s)
	got, ok := impl.RunState(s.a, s.b, s.x, s.u)
	if !sameRows(got, want) || ok != fine {
		t.Errorf("RunState of %.300q, %.200q, %.200q, %.200q: got %.300q %v, want %.300q %v", s.a, s.b, s.x, s.u, got, ok, want, fine)
	}
	now := s.x
	for i, u := range s.u[:min(len(s.u), mostSteps)] {
		one, told := exactStates(t, system{a: s.a, b: s.b, x: now, u: []string{u}})
		next, ok := impl.StateStep(s.a, s.b, now, u)
		checkNumbers(t, fmt.Sprintf("StateStep of %.300q, %.200q, %.200q, %.200q", s.a, s.b, now, u), next, ok, append(one, nil)[0], told)
		if !ok {
			return
		}
		if fine && !slices.Equal(got[i], next) {
			t.Errorf("RunState of %.300q, %.200q, %.200q, %.200q: %.200q behind number %d, StateStep %.200q", s.a, s.b, s.x, s.u, got[i], i, next)
		}
		now = next
	}
}

func isSettled(poly []string) bool {
	if len(poly) < 1 || len(poly) > mostSettle+1 || !areFracs(poly, len(poly)) || poly[len(poly)-1] == "0" {
		return false
	}
	return !slices.ContainsFunc(poly, func(s string) bool {
		above, below, _ := strings.Cut(s, "/")
		return len(above) > mostBytes || len(below) > mostBytes
	})
}

// exactSettles brings the circle to the left half of the plane, by x = (1 + w) / (1 - w), and looks at Hurwitz's determinants there.
func exactSettles(poly []*big.Rat) bool {
	n := len(poly) - 1
	turned := rats(0)
	for i, coef := range poly {
		term := []*big.Rat{coef}
		for range i {
			term = polyProduct(term, rats(1, 1))
		}
		for range n - i {
			term = polyProduct(term, rats(1, -1))
		}
		turned = polySum(turned, term)
	}
	// Where a root is -1 one of these is missing.
	if turned[n].Sign() == 0 {
		return false
	}
	turned = polyProduct(turned, []*big.Rat{quotient(whole(1), turned[n])})
	for size := 1; size <= n; size++ {
		rows := make([][]*big.Rat, size)
		for i := range size {
			for k := range size {
				at := n - 1 + i - 2*k
				if at < 0 || at > n {
					rows[i] = append(rows[i], whole(0))
				} else {
					rows[i] = append(rows[i], turned[at])
				}
			}
		}
		if expanded(rows).Sign() <= 0 {
			return false
		}
	}
	return true
}

func checkSettles(t *testing.T, poly []string) {
	t.Helper()
	want, fine := false, isSettled(poly)
	if fine {
		want = exactSettles(ratList(t, poly))
	}
	if is, ok := impl.Settles(poly); is != want || ok != fine {
		t.Errorf("Settles of %.400q: got %v %v, want %v %v", poly, is, ok, want, fine)
	}
}

// check asks every function of anything, and that the lists stay as they are.
func (s system) check(t *testing.T) {
	t.Helper()
	before := s.clone()
	checkChar(t, s.a)
	checkRank(t, s.a, s.b)
	checkClosed(t, s.a, s.b, s.k)
	checkPlaced(t, s.a, s.b, s.goal)
	checkWatched(t, s.a, s.c, s.goal)
	checkStates(t, s)
	checkSettles(t, s.goal)
	checkSettles(t, s.k)
	if !s.is(before) {
		t.Errorf("an argument was changed: %.300q, before %.300q", s, before)
	}
}

func (s system) clone() system {
	return system{cloneRows(s.a), slices.Clone(s.b), slices.Clone(s.c), slices.Clone(s.k), slices.Clone(s.x), slices.Clone(s.goal), slices.Clone(s.u)}
}

func (s *system) lists() []*[]string {
	return []*[]string{&s.b, &s.c, &s.k, &s.x, &s.goal, &s.u}
}

func (s system) is(other system) bool {
	l := other.lists()
	for i, list := range s.lists() {
		if !slices.Equal(*list, *l[i]) {
			return false
		}
	}
	return sameRows(s.a, other.a)
}

// goodSystem has n numbers, steps of u, and the rank n, mirrored too.
func goodSystem(n int, steps int) system {
	s := system{a: identity(n, "1/2")}
	for i := range n {
		s.a[i][n-1] = impl.FracOf(i+1, 3)
		if i > 0 {
			s.a[i][i-1] = "-1"
		}
		s.b = append(s.b, impl.FracOf(i+1, 1))
		s.c = append(s.c, impl.FracOf(2-i, 1))
		s.k = append(s.k, impl.FracOf(1, i+2))
		s.x = append(s.x, impl.FracOf(i-2, 5))
		s.goal = append(s.goal, impl.FracOf(1-i, 4))
	}
	s.goal = append(s.goal, "1")
	for i := range steps {
		s.u = append(s.u, impl.FracOf(i*i-2, 3))
	}
	return s
}

func drawnGoal(r *rand.Rand, n int, digits int) []string {
	return append(drawnTexts(r, n, digits), "1")
}

func drawnSystem(r *rand.Rand, n int, digits int) system {
	return system{a: drawnSquare(r, n, digits), b: drawnTexts(r, n, digits), c: drawnTexts(r, n, digits), k: drawnTexts(r, n, digits),
		x: drawnTexts(r, n, digits), goal: drawnGoal(r, n, digits), u: drawnTexts(r, r.Intn(mostSteps+1), digits)}
}

// smallSystem has few numbers to choose from, so that columns are often sums of others.
func smallSystem(r *rand.Rand, n int) system {
	return system{a: smallSquare(r, n, -1, 1), b: smallTexts(r, n, -1, 1), c: smallTexts(r, n, -1, 1), k: smallTexts(r, n, -2, 2),
		x: smallTexts(r, n, -2, 2), goal: append(smallTexts(r, n, -2, 2), "1"), u: smallTexts(r, r.Intn(mostSteps+1), -2, 2)}
}
