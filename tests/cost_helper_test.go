package tests

import (
	"fmt"
	"math/big"
	"math/rand"
	"slices"
	"strings"
	"testing"

	"loop.example/g00047/impl"
)

const mostRounds = 40

// costOf has its rows as square has them.
func costOf(a string, b string, q string, r string, last string, steps int) impl.Cost {
	return impl.Cost{A: square(a), B: strings.Fields(b), Q: square(q), R: r, Last: square(last), Steps: steps}
}

// isCost says by the test's own word whether c is good.
func isCost(t *testing.T, c impl.Cost) bool {
	t.Helper()
	n := len(c.A)
	return isStateWith(c.A, c.B) && len(c.Q) == n && isHalfSure(t, c.Q) && isLength(c.R) && len(c.Last) == n && isHalfSure(t, c.Last) &&
		c.Steps >= 1 && c.Steps <= mostSteps
}

// bill is a cost, exactly.
type bill struct {
	a, q, last [][]*big.Rat
	b          []*big.Rat
	r          *big.Rat
	steps      int
}

func billOf(t *testing.T, c impl.Cost) bill {
	t.Helper()
	return bill{ratRows(t, c.A), ratRows(t, c.Q), ratRows(t, c.Last), ratList(t, c.B), rat(t, c.R), c.Steps}
}

// bracket is l times m, times l again.
func bracket(l []*big.Rat, m [][]*big.Rat) *big.Rat {
	return product(l, column(rowsByColumns(m, upright(l)), 0))
}

// moved is a x + b u.
func (k bill) moved(x []*big.Rat, u *big.Rat) []*big.Rat {
	return column(sumOfRows(rowsByColumns(k.a, upright(x)), upright(rowTimes(k.b, u))), 0)
}

// total goes by the words: at each step x Q x + R u u, and x Last x in the end.
func (k bill) total(x []*big.Rat, u []*big.Rat) *big.Rat {
	sum := new(big.Rat)
	for _, push := range u {
		sum = plus(sum, plus(bracket(x, k.q), times(k.r, times(push, push))))
		x = k.moved(x, push)
	}
	return plus(sum, bracket(x, k.last))
}

// share is s where p is the cost to go behind the step.
func (k bill) share(p [][]*big.Rat) *big.Rat { return plus(k.r, bracket(k.b, p)) }

// back are K of each step and P ahead of each step, and Last, in order. P is what the step itself costs by K, and what is behind it then: another way than the document's, which comes to the same where K is the best one alone.
func (k bill) back() ([][]*big.Rat, [][][]*big.Rat) {
	p, gains, toGo := k.last, [][]*big.Rat{}, [][][]*big.Rat{k.last}
	for range k.steps {
		gain := rowTimes(rowsByColumns(rowsByColumns([][]*big.Rat{k.b}, p), k.a)[0], quotient(whole(1), k.share(p)))
		closed := exactLess(k.a, k.b, gain)
		behind := rowsByColumns(rowsByColumns(mirrored(closed), p), closed)
		p = sumOfRows(sumOfRows(k.q, behind), rowsByColumns(upright(rowTimes(gain, k.r)), [][]*big.Rat{gain}))
		gains, toGo = append(gains, gain), append(toGo, p)
	}
	slices.Reverse(gains)
	slices.Reverse(toGo)
	return gains, toGo
}

// best are u = -K x of each step.
func (k bill) best(x []*big.Rat) []*big.Rat {
	gains, _ := k.back()
	controls := []*big.Rat{}
	for _, gain := range gains {
		u := negative(product(gain, x))
		controls, x = append(controls, u), k.moved(x, u)
	}
	return controls
}

// least are the controls that cost least by the costs alone: how much more each one costs, by itself and with each other one, makes equations, which Cramer's rule answers.
func (k bill) least(x []*big.Rat) []*big.Rat {
	at := func(on ...int) *big.Rat {
		u := rats(make([]int64, k.steps)...)
		for _, i := range on {
			u[i] = plus(u[i], whole(1))
		}
		return k.total(x, u)
	}
	rows, right := make([][]*big.Rat, k.steps), []*big.Rat{}
	for i := range k.steps {
		for j := range k.steps {
			rows[i] = append(rows[i], plus(minus(minus(at(i, j), at(i)), at(j)), at()))
		}
		right = append(right, minus(half(rows[i][i]), minus(at(i), at())))
	}
	below, found := expanded(rows), []*big.Rat{}
	for i := range k.steps {
		above := mirrored(rows)
		above[i] = right
		found = append(found, quotient(expanded(above), below))
	}
	return found
}

// tellRatRows is tellRats row by row.
func tellRatRows(m [][]*big.Rat) ([][]string, bool) {
	out, all := [][]string{}, true
	for _, row := range m {
		l, fits := tellRats(row)
		out, all = append(out, l), all && fits
	}
	return out, all
}

func sameSquares(a [][][]string, b [][][]string) bool { return slices.EqualFunc(a, b, sameRows) }

// exactBack is what CostGains and CostToGo are to answer, each with its truth.
func exactBack(t *testing.T, c impl.Cost) (gains [][]string, gained bool, toGo [][][]string, went bool) {
	t.Helper()
	if !isCost(t, c) {
		return nil, false, nil, false
	}
	k, p := billOf(t, c).back()
	if gains, gained = tellRatRows(k); !gained {
		gains = nil
	}
	went = true
	for _, m := range p {
		rows, fits := tellRatRows(m)
		toGo, went = append(toGo, rows), went && fits
	}
	if !went {
		toGo = nil
	}
	return gains, gained, toGo, went
}

// checkCost asks GoodCost, CostGains and CostToGo of anything, and says what they are to answer.
func checkCost(t *testing.T, c impl.Cost) {
	t.Helper()
	if good := isCost(t, c); impl.GoodCost(c) != good {
		t.Errorf("GoodCost of %.400v: %v", c, !good)
	}
	gains, gained, toGo, went := exactBack(t, c)
	if got, ok := impl.CostGains(c); !sameRows(got, gains) || ok != gained {
		t.Errorf("CostGains of %.400v: got %.300q %v, want %.300q %v", c, got, ok, gains, gained)
	}
	got, ok := impl.CostToGo(c)
	if !sameSquares(got, toGo) || ok != went {
		t.Errorf("CostToGo of %.400v: got %.300q %v, want %.300q %v", c, got, ok, toGo, went)
	}
	for i, p := range got {
		if len(p) != len(c.A) || !isHalfSure(t, p) {
			t.Errorf("CostToGo of %.400v: %.300q, number %d, is not half sure", c, p, i)
		}
	}
}

// checkTotal asks CostOf of anything, and says what it is to answer.
func checkTotal(t *testing.T, c impl.Cost, x []string, u []string) {
	t.Helper()
	want := ""
	if isCost(t, c) && areFracs(x, len(c.A)) && areFracs(u, c.Steps) {
		want = textOf(billOf(t, c).total(ratList(t, x), ratList(t, u)))
	}
	if got, ok := impl.CostOf(c, x, u); got != want || ok != (want != "") {
		t.Errorf("CostOf of %.400v, %.200q, %.200q: got %.200q %v, want %.200q", c, x, u, got, ok, want)
	}
}

// checkBest asks BestControls of anything, and says what it is to answer.
func checkBest(t *testing.T, c impl.Cost, x []string) {
	t.Helper()
	var want []string
	total := ""
	if isCost(t, c) && areFracs(x, len(c.A)) {
		k, from := billOf(t, c), ratList(t, x)
		best := k.best(from)
		l, fits := tellRats(best)
		if s := textOf(k.total(from, best)); fits && s != "" {
			want, total = l, s
		}
	}
	got, cost, ok := impl.BestControls(c, x)
	if !slices.Equal(got, want) || cost != total || ok != (total != "") {
		t.Errorf("BestControls of %.400v, %.200q: got %.300q %.100q %v, want %.300q %.100q", c, x, got, cost, ok, want, total)
	}
	if ok {
		checkLeastCost(t, c, x, got, cost)
	}
}

// otherControls are u with each one a little greater and a little less, all of them moved at once, and drawn ones.
func otherControls(r *rand.Rand, u []string) [][]string {
	all := [][]string{}
	for i := range u {
		for _, more := range []string{"1", "-1", "1/1000", "-1/1000"} {
			y := slices.Clone(u)
			y[i] = impl.AddFrac(y[i], more)
			all = append(all, y)
		}
	}
	for range 3 {
		y := slices.Clone(u)
		for i := range y {
			y[i] = impl.AddFrac(y[i], impl.FracOf(r.Intn(2001)-1000, 1000))
		}
		all = append(all, y, drawnTexts(r, len(u), 2))
	}
	return slices.DeleteFunc(all, func(l []string) bool { return slices.Equal(l, u) || slices.Contains(l, "") })
}

// checkLeastCost: the controls cost what is told, what the first P says of x, and all others cost more.
func checkLeastCost(t *testing.T, c impl.Cost, x []string, u []string, cost string) {
	t.Helper()
	if got, ok := impl.CostOf(c, x, u); got != cost || !ok {
		t.Errorf("BestControls of %.300v, %.200q: %.200q cost %.100q, CostOf %.100q %v", c, x, u, cost, got, ok)
	}
	if toGo, ok := impl.CostToGo(c); ok {
		if first := textOf(bracket(ratList(t, x), ratRows(t, toGo[0]))); first != cost {
			t.Errorf("BestControls of %.300v, %.200q: %.100q, by the first P %.100q", c, x, cost, first)
		}
	}
	r := rand.New(rand.NewSource(214))
	for _, y := range otherControls(r, u) {
		more, ok := impl.CostOf(c, x, y)
		if sign, _ := impl.CmpFrac(cost, more); ok && sign >= 0 {
			t.Errorf("BestControls of %.300v, %.200q cost %.100q, but %.200q cost %.100q", c, x, cost, y, more)
		}
	}
}

// checkMore: what any controls cost above the least is, step by step, s times the square of how far u is from -K x, by what CostGains and CostToGo tell.
func checkMore(t *testing.T, c impl.Cost, x []string, u []string) {
	t.Helper()
	gains, gained := impl.CostGains(c)
	toGo, went := impl.CostToGo(c)
	got, ok := impl.CostOf(c, x, u)
	if !gained || !went || !ok {
		t.Fatalf("no answer for %.300v, %.200q, %.200q", c, x, u)
	}
	k, at := billOf(t, c), ratList(t, x)
	sum := bracket(at, ratRows(t, toGo[0]))
	for i, push := range ratList(t, u) {
		off := plus(push, product(ratList(t, gains[i]), at))
		sum = plus(sum, times(k.share(ratRows(t, toGo[i+1])), times(off, off)))
		at = k.moved(at, push)
	}
	if want := textOf(sum); got != want {
		t.Errorf("CostOf of %.300v, %.200q, %.200q: %.100q, by gains and costs to go %.100q", c, x, u, got, want)
	}
}

// checkNoCost: nothing is answered of a cost that is not good, whatever stands beside it.
func checkNoCost(t *testing.T, c impl.Cost, x []string, u []string) {
	t.Helper()
	if impl.GoodCost(c) {
		t.Errorf("GoodCost of %.300v", c)
	}
	if got, ok := impl.CostGains(c); len(got) != 0 || ok {
		t.Errorf("CostGains of %.300v: %.200q %v", c, got, ok)
	}
	if got, ok := impl.CostToGo(c); len(got) != 0 || ok {
		t.Errorf("CostToGo of %.300v: %.200q %v", c, got, ok)
	}
	checkNoBest(t, c, x)
	checkNoTotal(t, c, x, u)
}

func checkNoBest(t *testing.T, c impl.Cost, x []string) {
	t.Helper()
	if u, s, ok := impl.BestControls(c, x); len(u) != 0 || s != "" || ok {
		t.Errorf("BestControls of %.300v, %.200q: %.200q %.100q %v", c, x, u, s, ok)
	}
}

func checkNoTotal(t *testing.T, c impl.Cost, x []string, u []string) {
	t.Helper()
	if s, ok := impl.CostOf(c, x, u); s != "" || ok {
		t.Errorf("CostOf of %.300v, %.200q, %.200q: %.100q %v", c, x, u, s, ok)
	}
}

// errand is all that the functions in fractions take.
type errand struct {
	c impl.Cost
	x []string
	u []string
}

func (e errand) check(t *testing.T) {
	t.Helper()
	before := e.clone()
	checkCost(t, e.c)
	checkBest(t, e.c, e.x)
	checkTotal(t, e.c, e.x, e.u)
	if !e.is(before) {
		t.Errorf("an argument was changed: %.300v, before %.300v", e, before)
	}
}

func (e *errand) squares() []*[][]string { return []*[][]string{&e.c.A, &e.c.Q, &e.c.Last} }

func (e *errand) lists() []*[]string { return []*[]string{&e.c.B, &e.x, &e.u} }

func (e errand) clone() errand {
	out := errand{c: impl.Cost{R: strings.Clone(e.c.R), Steps: e.c.Steps}}
	for i, m := range out.squares() {
		*m = cloneRows(*e.squares()[i])
	}
	for i, l := range out.lists() {
		*l = slices.Clone(*e.lists()[i])
	}
	return out
}

func (e errand) is(other errand) bool {
	for i, m := range e.squares() {
		if !sameRows(*m, *other.squares()[i]) {
			return false
		}
	}
	for i, l := range e.lists() {
		if !slices.Equal(*l, *other.lists()[i]) {
			return false
		}
	}
	return e.c.R == other.c.R && e.c.Steps == other.c.Steps
}

// goodErrand has no two squares alike, and nothing in it is 0 for good.
func goodErrand(n int, steps int) errand {
	s := goodSystem(n, steps)
	e := errand{c: impl.Cost{A: s.a, B: s.b, Q: goodInfo(n).M, R: "3/2", Last: identity(n, "1/3"), Steps: steps}, x: s.x, u: s.u}
	e.c.Q[0][0] = "5/2"
	e.c.Last[n-1][n-1] = "4"
	return e
}

// drawnErrand has squares that are half sure, with 0 in some direction often.
func drawnErrand(t *testing.T, r *rand.Rand, n int, digits int) errand {
	t.Helper()
	steps := 1 + r.Intn(mostSteps)
	return errand{impl.Cost{A: drawnSquare(r, n, digits), B: drawnTexts(r, n, digits), Q: drawnSpread(t, r, n, r.Intn(n+2), digits), R: drawnLength(r, digits),
		Last: drawnSpread(t, r, n, r.Intn(n+2), digits), Steps: steps}, drawnTexts(r, n, digits), drawnTexts(r, steps, digits)}
}

// smallErrand has few whole numbers, so that much is 0 or the same.
func smallErrand(t *testing.T, r *rand.Rand, n int) errand {
	t.Helper()
	steps := 1 + r.Intn(mostSteps)
	spread := func() [][]string {
		l := identity(n, "0")
		for range r.Intn(3) {
			by := ratList(t, smallTexts(r, n, -1, 1))
			for i := range n {
				for k := range n {
					l[i][k] = textOf(plus(rat(t, l[i][k]), times(by[i], by[k])))
				}
			}
		}
		return l
	}
	return errand{impl.Cost{A: smallSquare(r, n, -1, 1), B: smallTexts(r, n, -1, 1), Q: spread(), R: fmt.Sprint(1 + r.Intn(2)), Last: spread(), Steps: steps},
		smallTexts(r, n, -2, 2), smallTexts(r, steps, -2, 2)}
}
