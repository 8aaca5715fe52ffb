package tests

import (
	"fmt"
	"math/big"
	"math/rand"
	"slices"
	"strings"
	"testing"

	"loop.example/g00047/impl"
)

const (
	mostDim   = 3
	mostSteps = 5
	mostWalk  = 8
)

// guess is a belief, exactly.
type guess struct {
	mean []*big.Rat
	cov  [][]*big.Rat
}

func beliefOf(mean string, cov string) impl.Belief {
	return impl.Belief{Mean: strings.Fields(mean), Cov: square(cov)}
}

func moveOf(f string, u string, q string) impl.Move {
	return impl.Move{F: square(f), U: strings.Fields(u), Q: square(q)}
}

func seeOf(h string, r string, z string) impl.See {
	return impl.See{H: strings.Fields(h), R: r, Z: z}
}

// walkOf has the four texts in their order; a dot stands for what was not seen.
func walkOf(four string, seen string) impl.Walk {
	l := strings.Fields(four)
	w := impl.Walk{First: l[0], Spread: l[1], Drift: l[2], Noise: l[3]}
	for s := range strings.FieldsSeq(seen) {
		w.Seen = append(w.Seen, strings.TrimPrefix(s, "."))
	}
	return w
}

func isBelief(t *testing.T, b impl.Belief) bool {
	t.Helper()
	n := len(b.Mean)
	return n >= 1 && n <= mostDim && areFracs(b.Mean, n) && len(b.Cov) == n && isHalfSure(t, b.Cov)
}

func isMove(t *testing.T, m impl.Move, n int) bool {
	t.Helper()
	return len(m.F) == n && !slices.ContainsFunc(m.F, func(l []string) bool { return !areFracs(l, n) }) &&
		areFracs(m.U, n) && len(m.Q) == n && isHalfSure(t, m.Q)
}

func isSee(s impl.See, n int) bool { return areFracs(s.H, n) && isLength(s.R) && isFrac(s.Z) }

func isWalk(w impl.Walk) bool {
	return isFrac(w.First) && isLength(w.Spread) && isLength(w.Drift) && isLength(w.Noise) && len(w.Seen) >= 1 && len(w.Seen) <= mostWalk &&
		!slices.ContainsFunc(w.Seen, func(s string) bool { return s != "" && !isFrac(s) })
}

func guessOf(t *testing.T, b impl.Belief) guess {
	t.Helper()
	return guess{ratList(t, b.Mean), ratRows(t, b.Cov)}
}

func (g guess) tell() (impl.Belief, bool) {
	b := impl.Belief{}
	mean, fits := tellRats(g.mean)
	if !fits {
		return b, false
	}
	for _, row := range g.cov {
		l, fits := tellRats(row)
		if !fits {
			return impl.Belief{}, false
		}
		b.Cov = append(b.Cov, l)
	}
	b.Mean = mean
	return b, true
}

// rowsByColumns is the product of two matrices.
func rowsByColumns(a [][]*big.Rat, b [][]*big.Rat) [][]*big.Rat {
	out := make([][]*big.Rat, len(a))
	for i, row := range a {
		for c := range b[0] {
			out[i] = append(out[i], product(row, column(b, c)))
		}
	}
	return out
}

func mirrored(m [][]*big.Rat) [][]*big.Rat {
	out := [][]*big.Rat{}
	for c := range m[0] {
		out = append(out, column(m, c))
	}
	return out
}

func sumOfRows(a [][]*big.Rat, b [][]*big.Rat) [][]*big.Rat {
	out := make([][]*big.Rat, len(a))
	for i, row := range a {
		for k := range row {
			out[i] = append(out[i], plus(row[k], b[i][k]))
		}
	}
	return out
}

// upright is a list as rows of one number.
func upright(l []*big.Rat) [][]*big.Rat {
	return mirrored([][]*big.Rat{l})
}

// moved is what MoveBelief is to make of what is good, by whole matrices.
func (g guess) moved(t *testing.T, m impl.Move) guess {
	t.Helper()
	f := ratRows(t, m.F)
	mean := sumOfRows(rowsByColumns(f, upright(g.mean)), upright(ratList(t, m.U)))
	return guess{column(mean, 0), sumOfRows(rowsByColumns(rowsByColumns(f, g.cov), mirrored(f)), ratRows(t, m.Q))}
}

// spread is S.
func (g guess) spread(t *testing.T, s impl.See) *big.Rat {
	t.Helper()
	h := [][]*big.Rat{ratList(t, s.H)}
	return plus(rowsByColumns(rowsByColumns(h, g.cov), mirrored(h))[0][0], rat(t, s.R))
}

// saw is what SeeBelief is to make of what is good. What is left of the belief is it without K H of it, and K of what was seen; so the spreads add up, as those of two that know nothing of one another.
func (g guess) saw(t *testing.T, s impl.See) guess {
	t.Helper()
	h, n := [][]*big.Rat{ratList(t, s.H)}, len(g.mean)
	k := rowsByColumns(g.cov, mirrored(h))
	for i := range k {
		k[i][0] = quotient(k[i][0], g.spread(t, s))
	}
	left := ratRows(t, identity(n, "1"))
	for i := range n {
		for c := range n {
			left[i][c] = minus(left[i][c], times(k[i][0], h[0][c]))
		}
	}
	with := func(by *big.Rat) [][]*big.Rat { return rowsByColumns(k, [][]*big.Rat{{by}}) }
	mean := sumOfRows(rowsByColumns(left, upright(g.mean)), with(rat(t, s.Z)))
	cov := rowsByColumns(rowsByColumns(left, g.cov), mirrored(left))
	return guess{column(mean, 0), sumOfRows(cov, rowsByColumns(with(rat(t, s.R)), mirrored(k)))}
}

func (g guess) surprise(t *testing.T, s impl.See) *big.Rat {
	t.Helper()
	off := minus(rat(t, s.Z), product(ratList(t, s.H), g.mean))
	return quotient(times(off, off), g.spread(t, s))
}

func sameBelief(a impl.Belief, b impl.Belief) bool {
	return slices.Equal(a.Mean, b.Mean) && sameRows(a.Cov, b.Cov)
}

func checkBelief(t *testing.T, what string, got impl.Belief, ok bool, want impl.Belief, fine bool) {
	t.Helper()
	if !sameBelief(got, want) || ok != fine {
		t.Errorf("%.600s: got %.300q %v, want %.300q %v", what, got, ok, want, fine)
	}
	if ok && !impl.GoodBelief(got) {
		t.Errorf("%.600s is not good: %.300q", what, got)
	}
}

func checkGood(t *testing.T, b impl.Belief) {
	t.Helper()
	if good := isBelief(t, b); impl.GoodBelief(b) != good {
		t.Errorf("GoodBelief of %.300q: %v", b, !good)
	}
}

// checkMove asks MoveBelief of anything, and says what it is to answer.
func checkMove(t *testing.T, b impl.Belief, m impl.Move) {
	t.Helper()
	want, fine := impl.Belief{}, false
	if isBelief(t, b) && isMove(t, m, len(b.Mean)) {
		want, fine = guessOf(t, b).moved(t, m).tell()
	}
	got, ok := impl.MoveBelief(b, m)
	checkBelief(t, fmt.Sprintf("MoveBelief of %.200q, %.300q", b, m), got, ok, want, fine)
}

// checkSee asks SeeBelief and Surprise of anything, and says what they are to answer.
func checkSee(t *testing.T, b impl.Belief, s impl.See) {
	t.Helper()
	want, fine, surprise := impl.Belief{}, false, ""
	if isBelief(t, b) && isSee(s, len(b.Mean)) {
		want, fine = guessOf(t, b).saw(t, s).tell()
		surprise = textOf(guessOf(t, b).surprise(t, s))
	}
	what := fmt.Sprintf(" of %.200q, %.200q", b, s)
	got, ok := impl.SeeBelief(b, s)
	checkBelief(t, "SeeBelief"+what, got, ok, want, fine)
	if text, told := impl.Surprise(b, s); text != surprise || told != (surprise != "") {
		t.Errorf("Surprise%s: got %.100q %v, want %.100q", what, text, told, surprise)
	}
	if !ok {
		return
	}
	for i := range got.Mean {
		if rat(t, got.Cov[i][i]).Cmp(rat(t, b.Cov[i][i])) > 0 {
			t.Errorf("SeeBelief%s is less sure of number %d: %.200q", what, i, got)
		}
	}
}

func checkNoMove(t *testing.T, b impl.Belief, m impl.Move) {
	t.Helper()
	got, ok := impl.MoveBelief(b, m)
	checkBelief(t, fmt.Sprintf("MoveBelief of %.200q, %.300q", b, m), got, ok, impl.Belief{}, false)
	got, ok = impl.RunBelief(b, []impl.Move{m}, [][]impl.See{nil})
	checkBelief(t, fmt.Sprintf("RunBelief of %.200q, %.300q", b, m), got, ok, impl.Belief{}, false)
}

func checkNoSee(t *testing.T, b impl.Belief, s impl.See) {
	t.Helper()
	what := fmt.Sprintf(" of %.200q, %.200q", b, s)
	got, ok := impl.SeeBelief(b, s)
	checkBelief(t, "SeeBelief"+what, got, ok, impl.Belief{}, false)
	if text, told := impl.Surprise(b, s); text != "" || told {
		t.Errorf("Surprise%s: %.100q %v", what, text, told)
	}
	if n := len(b.Mean); n <= mostDim {
		got, ok = impl.RunBelief(b, []impl.Move{stay(n)}, [][]impl.See{{s}})
		checkBelief(t, "RunBelief"+what, got, ok, impl.Belief{}, false)
	}
}

// checkNoBelief: what is not good, by the test's own word, beside moves and sees that are as said.
func checkNoBelief(t *testing.T, b impl.Belief) {
	t.Helper()
	if impl.GoodBelief(b) {
		t.Errorf("GoodBelief of %.300q", b)
	}
	for n := range mostDim + 2 {
		checkNoMove(t, b, stay(n))
		checkNoSee(t, b, glance(n))
	}
	got, ok := impl.RunBelief(b, nil, nil)
	checkBelief(t, fmt.Sprintf("RunBelief of %.300q", b), got, ok, impl.Belief{}, false)
}

// stay is the move that changes nothing.
func stay(n int) impl.Move {
	return impl.Move{F: identity(n, "1"), U: slices.Repeat([]string{"0"}, n), Q: identity(n, "0")}
}

// forget is the move behind which nothing of the belief ahead is left.
func forget(n int) impl.Move {
	return impl.Move{F: identity(n, "0"), U: slices.Repeat([]string{"1"}, n), Q: identity(n, "1")}
}

// glance sees all numbers added.
func glance(n int) impl.See {
	return impl.See{H: slices.Repeat([]string{"1"}, n), R: "1/2", Z: "3"}
}

func goodBelief(n int) impl.Belief {
	i := goodInfo(n)
	return impl.Belief{Mean: i.V, Cov: i.M}
}

// goodMove has a matrix that is not the same mirrored.
func goodMove(n int) impl.Move {
	m := impl.Move{F: identity(n, "1"), U: slices.Repeat([]string{"1/3"}, n), Q: goodInfo(n).M}
	for i := range n {
		m.F[0][i] = impl.FracOf(i+2, 1)
	}
	return m
}

// goodWalk has nothing seen at each third moment, the second one first.
func goodWalk(n int) impl.Walk {
	w := walkOf("1/2 2 1/3 3/2", "")
	for i := range n {
		w.Seen = append(w.Seen, impl.FracOf(i*i-3, 1))
		if i%3 == 1 {
			w.Seen[i] = ""
		}
	}
	return w
}

// exactBeliefs is what RunBelief is to answer: each belief on the way has to be told.
func exactBeliefs(t *testing.T, b impl.Belief, moves []impl.Move, sees [][]impl.See) (impl.Belief, bool) {
	t.Helper()
	if !isBelief(t, b) || len(moves) > mostSteps || len(sees) != len(moves) {
		return impl.Belief{}, false
	}
	fine := true
	for i, m := range moves {
		if !isMove(t, m, len(b.Mean)) || len(sees[i]) > mostSteps {
			return impl.Belief{}, false
		}
		if b, fine = guessOf(t, b).moved(t, m).tell(); !fine {
			return b, false
		}
		for _, s := range sees[i] {
			if !isSee(s, len(b.Mean)) {
				return impl.Belief{}, false
			}
			if b, fine = guessOf(t, b).saw(t, s).tell(); !fine {
				return b, false
			}
		}
	}
	return b, true
}

// oneByOne asks MoveBelief and SeeBelief in their order.
func oneByOne(b impl.Belief, moves []impl.Move, sees [][]impl.See) (impl.Belief, bool) {
	ok := impl.GoodBelief(b) && len(sees) == len(moves)
	for i := 0; ok && i < len(moves); i++ {
		b, ok = impl.MoveBelief(b, moves[i])
		for k := 0; ok && k < len(sees[i]); k++ {
			b, ok = impl.SeeBelief(b, sees[i][k])
		}
	}
	if !ok {
		return impl.Belief{}, false
	}
	return b, true
}

// checkBeliefRun asks RunBelief of anything, and says what it is to answer.
func checkBeliefRun(t *testing.T, b impl.Belief, moves []impl.Move, sees [][]impl.See) {
	t.Helper()
	what := fmt.Sprintf("RunBelief of %.200q, %.200q, %.200q", b, moves, sees)
	want, fine := exactBeliefs(t, b, moves, sees)
	got, ok := impl.RunBelief(b, moves, sees)
	checkBelief(t, what, got, ok, want, fine)
	long := slices.ContainsFunc(sees, func(l []impl.See) bool { return len(l) > mostSteps })
	if len(moves) <= mostSteps && !long {
		want, fine = oneByOne(b, moves, sees)
		checkBelief(t, "one by one, "+what, got, ok, want, fine)
	}
}

// exactFilter goes moment by moment as the document tells it.
func exactFilter(t *testing.T, w impl.Walk) ([]*big.Rat, []*big.Rat) {
	t.Helper()
	m, p, noise := rat(t, w.First), rat(t, w.Spread), rat(t, w.Noise)
	means, spreads := []*big.Rat{}, []*big.Rat{}
	for i, s := range w.Seen {
		if i > 0 {
			p = plus(p, rat(t, w.Drift))
		}
		if s != "" {
			both := plus(p, noise)
			m = plus(m, quotient(times(p, minus(rat(t, s), m)), both))
			p = quotient(times(p, noise), both)
		}
		means, spreads = append(means, m), append(spreads, p)
	}
	return means, spreads
}

// exactSmooth is where the loss does not change any more, whichever x is moved a little: an equation a moment, with the x ahead and the x behind in it. They are cleared from the last one to the first.
func exactSmooth(t *testing.T, w impl.Walk) []*big.Rat {
	t.Helper()
	last := len(w.Seen) - 1
	per := func(s string) *big.Rat { return quotient(whole(1), rat(t, s)) }
	own, right := rats(make([]int64, last+1)...), rats(make([]int64, last+1)...)
	own[0], right[0] = per(w.Spread), times(per(w.Spread), rat(t, w.First))
	for i, s := range w.Seen {
		if s != "" {
			own[i], right[i] = plus(own[i], per(w.Noise)), plus(right[i], times(per(w.Noise), rat(t, s)))
		}
		if i > 0 {
			own[i], own[i-1] = plus(own[i], per(w.Drift)), plus(own[i-1], per(w.Drift))
		}
	}
	for i := last; i > 0; i-- {
		share := quotient(per(w.Drift), own[i])
		own[i-1], right[i-1] = minus(own[i-1], times(share, per(w.Drift))), plus(right[i-1], times(share, right[i]))
	}
	x := []*big.Rat{quotient(right[0], own[0])}
	for i := 1; i <= last; i++ {
		x = append(x, quotient(plus(right[i], times(per(w.Drift), x[i-1])), own[i]))
	}
	return x
}

func exactWalkLoss(t *testing.T, w impl.Walk, x []*big.Rat) *big.Rat {
	t.Helper()
	over := func(a *big.Rat, b *big.Rat, by string) *big.Rat {
		return quotient(times(minus(a, b), minus(a, b)), rat(t, by))
	}
	sum := over(x[0], rat(t, w.First), w.Spread)
	for i := range x[1:] {
		sum = plus(sum, over(x[i+1], x[i], w.Drift))
	}
	for i, s := range w.Seen {
		if s != "" {
			sum = plus(sum, over(rat(t, s), x[i], w.Noise))
		}
	}
	return sum
}

// checkWalkLoss asks WalkLoss of anything, and says what it is to answer.
func checkWalkLoss(t *testing.T, w impl.Walk, x []string) {
	t.Helper()
	want := ""
	if isWalk(w) && areFracs(x, len(w.Seen)) {
		want = textOf(exactWalkLoss(t, w, ratList(t, x)))
	}
	if got, ok := impl.WalkLoss(w, x); got != want || ok != (want != "") {
		t.Errorf("WalkLoss of %.300q, %.200q: got %.100q %v, want %.100q", w, x, got, ok, want)
	}
}

// checkWalk asks FilterWalk and SmoothWalk of anything, and says what they are to answer.
func checkWalk(t *testing.T, w impl.Walk) {
	t.Helper()
	var wantM, wantP, wantX []string
	filtered, smoothed := false, false
	if isWalk(w) {
		means, spreads := exactFilter(t, w)
		m, fits := tellRats(means)
		p, fitsToo := tellRats(spreads)
		if fits && fitsToo {
			wantM, wantP, filtered = m, p, true
		}
		if x, fits := tellRats(exactSmooth(t, w)); fits {
			wantX, smoothed = x, true
		}
	}
	m, p, ok := impl.FilterWalk(w)
	if !slices.Equal(m, wantM) || !slices.Equal(p, wantP) || ok != filtered {
		t.Errorf("FilterWalk of %.300q: got %.200q %.200q %v, want %.200q %.200q %v", w, m, p, ok, wantM, wantP, filtered)
	}
	x, okToo := impl.SmoothWalk(w)
	if !slices.Equal(x, wantX) || okToo != smoothed {
		t.Errorf("SmoothWalk of %.300q: got %.200q %v, want %.200q %v", w, x, okToo, wantX, smoothed)
	}
	if last := len(w.Seen) - 1; ok && okToo && x[last] != m[last] {
		t.Errorf("SmoothWalk of %.300q ends at %.100q, FilterWalk at %.100q", w, x[last], m[last])
	}
	if okToo {
		checkLeastWalk(t, w, x)
	}
}

// checkLeastWalk: what other numbers lose is more, by WalkLoss, in whichever way they are other ones.
func checkLeastWalk(t *testing.T, w impl.Walk, x []string) {
	t.Helper()
	loss, ok := impl.WalkLoss(w, x)
	if !ok {
		checkWalkLoss(t, w, x)
		return
	}
	r := rand.New(rand.NewSource(137))
	for i := range 2 * len(x) {
		y := slices.Clone(x)
		for k := range y {
			if k == i/2 || i%2 == 1 {
				y[k] = impl.AddFrac(y[k], []string{"1", "-1", "1/100", "-1/100"}[r.Intn(4)])
			}
		}
		more, ok := impl.WalkLoss(w, y)
		if sign, _ := impl.CmpFrac(loss, more); ok && sign >= 0 {
			t.Errorf("SmoothWalk of %.300q loses %.100q, but %.200q loses %.100q", w, loss, y, more)
		}
		checkWalkLoss(t, w, y)
	}
}

// checkNoWalk: what is not good, by the test's own word.
func checkNoWalk(t *testing.T, w impl.Walk) {
	t.Helper()
	m, p, ok := impl.FilterWalk(w)
	if len(m) != 0 || len(p) != 0 || ok {
		t.Errorf("FilterWalk of %.300q: %.100q %.100q %v", w, m, p, ok)
	}
	if x, ok := impl.SmoothWalk(w); len(x) != 0 || ok {
		t.Errorf("SmoothWalk of %.300q: %.100q %v", w, x, ok)
	}
	checkNoWalkLoss(t, w, slices.Repeat([]string{"1"}, len(w.Seen)))
}

func checkNoWalkLoss(t *testing.T, w impl.Walk, x []string) {
	t.Helper()
	if s, ok := impl.WalkLoss(w, x); s != "" || ok {
		t.Errorf("WalkLoss of %.300q, %.200q: %.100q %v", w, x, s, ok)
	}
}

// drawnSpread adds up squares of that many lists: with less of them than n the spread is 0 in some direction.
func drawnSpread(t *testing.T, r *rand.Rand, n int, lists int, digits int) [][]string {
	t.Helper()
	m := ratRows(t, identity(n, "0"))
	for range lists {
		l := ratList(t, drawnTexts(r, n, digits))
		for i := range n {
			for k := range n {
				m[i][k] = plus(m[i][k], times(l[i], l[k]))
			}
		}
	}
	rows := [][]string{}
	for _, l := range m {
		rows = append(rows, texts(t, l))
	}
	return rows
}

func drawnBelief(t *testing.T, r *rand.Rand, n int, digits int) impl.Belief {
	t.Helper()
	return impl.Belief{Mean: drawnTexts(r, n, digits), Cov: drawnSpread(t, r, n, r.Intn(n+2), digits)}
}

func drawnMove(t *testing.T, r *rand.Rand, n int, digits int) impl.Move {
	t.Helper()
	return impl.Move{F: drawnSquare(r, n, digits), U: drawnTexts(r, n, digits), Q: drawnSpread(t, r, n, r.Intn(n+2), digits)}
}

func drawnSee(r *rand.Rand, n int, digits int) impl.See {
	return impl.See{H: drawnTexts(r, n, digits), R: drawnLength(r, digits), Z: randomFrac(r, digits)}
}

func drawnSees(r *rand.Rand, n int, count int, digits int) []impl.See {
	l := []impl.See{}
	for range count {
		l = append(l, drawnSee(r, n, digits))
	}
	return l
}

func drawnWalk(r *rand.Rand, n int, digits int) impl.Walk {
	w := impl.Walk{First: randomFrac(r, digits), Spread: drawnLength(r, digits), Drift: drawnLength(r, digits), Noise: drawnLength(r, digits)}
	for range n {
		w.Seen = append(w.Seen, randomFrac(r, digits))
		if r.Intn(3) == 0 {
			w.Seen[len(w.Seen)-1] = ""
		}
	}
	return w
}
