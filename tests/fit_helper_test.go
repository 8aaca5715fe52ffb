package tests

import (
	"fmt"
	"math/big"
	"math/bits"
	"math/rand"
	"slices"
	"strings"
	"testing"

	"loop.example/g00047/impl"
)

const (
	mostRows = 10
	mostVars = 4
)

// gram is an info, exactly.
type gram struct {
	m [][]*big.Rat
	v []*big.Rat
	c *big.Rat
}

// fitOf has its rows as square has them; of no text there are no rows.
func fitOf(rows string, right string, weights string) impl.Fit {
	f := impl.Fit{Right: strings.Fields(right), Weights: strings.Fields(weights)}
	if rows != "" {
		f.Rows = square(rows)
	}
	return f
}

func infoOf(m string, v string, c string) impl.Info {
	return impl.Info{M: square(m), V: strings.Fields(v), C: c}
}

// isFit says by the test's own word whether f is good.
func isFit(f impl.Fit, vars int) bool {
	if vars < 1 || vars > mostVars || len(f.Rows) > mostRows || !areFracs(f.Right, len(f.Rows)) || len(f.Weights) != len(f.Rows) {
		return false
	}
	return !slices.ContainsFunc(f.Rows, func(l []string) bool { return !areFracs(l, vars) }) &&
		!slices.ContainsFunc(f.Weights, func(s string) bool { return !isLength(s) })
}

// belowSets are the sets of variables whose determinant is below 0.
func belowSets(m [][]*big.Rat) []int {
	l := []int{}
	for mask := range 1 << len(m) {
		if expanded(chosen(m, among(mask))).Sign() < 0 {
			l = append(l, mask)
		}
	}
	return l
}

func isInfo(t *testing.T, i impl.Info) bool {
	t.Helper()
	return len(i.M) <= mostVars && isHalfSure(t, i.M) && areFracs(i.V, len(i.M)) && isFrac(i.C)
}

// isHalfSure is asked for few rows, as it tries all sets of them.
func isHalfSure(t *testing.T, m [][]string) bool {
	t.Helper()
	n := len(m)
	if n < 1 || slices.ContainsFunc(m, func(l []string) bool { return !areFracs(l, n) }) {
		return false
	}
	for r := range n {
		for c := range n {
			if m[r][c] != m[c][r] {
				return false
			}
		}
	}
	return len(belowSets(ratRows(t, m))) == 0
}

func gramOf(t *testing.T, i impl.Info) gram {
	t.Helper()
	return gram{ratRows(t, i.M), ratList(t, i.V), rat(t, i.C)}
}

func (g gram) tell() (impl.Info, bool) {
	i := impl.Info{}
	for _, row := range g.m {
		l, fits := tellRats(row)
		if !fits {
			return impl.Info{}, false
		}
		i.M = append(i.M, l)
	}
	v, fits := tellRats(g.v)
	i.V, i.C = v, textOf(g.c)
	if !fits || i.C == "" {
		return impl.Info{}, false
	}
	return i, true
}

// product is the sum of one list's numbers times the other's.
func product(a []*big.Rat, b []*big.Rat) *big.Rat {
	sum := new(big.Rat)
	for i := range a {
		sum = plus(sum, times(a[i], b[i]))
	}
	return sum
}

func column(m [][]*big.Rat, c int) []*big.Rat {
	l := []*big.Rat{}
	for _, row := range m {
		l = append(l, row[c])
	}
	return l
}

func exactLoss(t *testing.T, f impl.Fit, x []*big.Rat) *big.Rat {
	t.Helper()
	sum := new(big.Rat)
	for i, row := range ratRows(t, f.Rows) {
		off := minus(product(row, x), rat(t, f.Right[i]))
		sum = plus(sum, times(rat(t, f.Weights[i]), times(off, off)))
	}
	return sum
}

// exactGram goes column by column through the whole fit: the weights times one column, times the other.
func exactGram(t *testing.T, f impl.Fit, vars int) gram {
	t.Helper()
	rows, right, weights := ratRows(t, f.Rows), ratList(t, f.Right), ratList(t, f.Weights)
	weighed := func(l []*big.Rat) []*big.Rat {
		out := []*big.Rat{}
		for i := range l {
			out = append(out, times(weights[i], l[i]))
		}
		return out
	}
	g := gram{c: product(weighed(right), right)}
	for i := range vars {
		g.m = append(g.m, nil)
		for k := range vars {
			g.m[i] = append(g.m[i], product(weighed(column(rows, i)), column(rows, k)))
		}
		g.v = append(g.v, product(weighed(column(rows, i)), right))
	}
	return g
}

// at is what the info says of the loss of any numbers.
func (g gram) at(y []*big.Rat) *big.Rat {
	return plus(minus(g.c, times(whole(2), product(g.v, y))), g.turned(y))
}

// turned is y times M times y: what y would lose if it were the way from the best numbers.
func (g gram) turned(y []*big.Rat) *big.Rat {
	l := []*big.Rat{}
	for _, row := range g.m {
		l = append(l, product(row, y))
	}
	return product(l, y)
}

// minorAt is the determinant of those rows of the columns, as many as there are columns.
func minorAt(columns [][]*big.Rat, rows int) *big.Rat {
	m := [][]*big.Rat{}
	for _, r := range among(rows) {
		m = append(m, column(columns, r))
	}
	return expanded(m)
}

// standing is a set of rows by which no column is a sum of multiples of the others: their determinant is not 0. It is -1 where there is none, and then one column is such a sum.
func standing(columns [][]*big.Rat, rows int) int {
	for mask := range 1 << rows {
		if bits.OnesCount(uint(mask)) == len(columns) && minorAt(columns, mask).Sign() != 0 {
			return mask
		}
	}
	return -1
}

// best says which variables are not loose, and the X of M X = V; false where V is no sum of multiples of the columns.
func (g gram) best() ([]*big.Rat, []int, bool) {
	columns, firm, loose := [][]*big.Rat{}, []int{}, []int(nil)
	for i := range g.m {
		if standing(append(slices.Clone(columns), column(g.m, i)), len(g.m)) < 0 {
			loose = append(loose, i)
			continue
		}
		columns, firm = append(columns, column(g.m, i)), append(firm, i)
	}
	if standing(append(slices.Clone(columns), g.v), len(g.m)) >= 0 {
		return nil, nil, false
	}
	rows, x := standing(columns, len(g.m)), rats(make([]int64, len(g.m))...)
	for i, at := range firm {
		above := slices.Clone(columns)
		above[i] = g.v
		x[at] = quotient(minorAt(above, rows), minorAt(columns, rows))
	}
	return x, loose, true
}

// exactAnswer is what SolveInfo is to tell of what is good.
func (g gram) exactAnswer() (impl.Answer, bool) {
	x, loose, found := g.best()
	if !found {
		return impl.Answer{}, false
	}
	told, fits := tellRats(x)
	a := impl.Answer{Kind: impl.FitOne, X: told, Loss: textOf(minus(g.c, product(g.v, x))), Loose: loose}
	if len(loose) > 0 {
		a.Kind = impl.FitMany
	}
	if !fits || a.Loss == "" {
		return impl.Answer{}, false
	}
	return a, true
}

// exactDrop is what DropLast is to tell of what is good: each number is a determinant of two, divided by d.
func (g gram) exactDrop() (impl.Info, bool) {
	n := len(g.m) - 1
	if n < 1 || g.m[n][n].Sign() <= 0 {
		return impl.Info{}, false
	}
	d := g.m[n][n]
	less := func(number *big.Rat, a *big.Rat, b *big.Rat) *big.Rat {
		return quotient(minus(times(number, d), times(a, b)), d)
	}
	out := gram{c: less(g.c, g.v[n], g.v[n])}
	for i := range n {
		out.m = append(out.m, nil)
		for k := range n {
			out.m[i] = append(out.m[i], less(g.m[i][k], g.m[i][n], g.m[n][k]))
		}
		out.v = append(out.v, less(g.v[i], g.v[n], g.m[i][n]))
	}
	return out.tell()
}

func sameInfo(a impl.Info, b impl.Info) bool {
	return sameRows(a.M, b.M) && slices.Equal(a.V, b.V) && a.C == b.C
}

func sameAnswer(a impl.Answer, b impl.Answer) bool {
	return a.Kind == b.Kind && slices.Equal(a.X, b.X) && a.Loss == b.Loss && slices.Equal(a.Loose, b.Loose)
}

func checkInfo(t *testing.T, what string, got impl.Info, ok bool, want impl.Info, fine bool) {
	t.Helper()
	if !sameInfo(got, want) || ok != fine {
		t.Errorf("%.600s: got %.300q %v, want %.300q %v", what, got, ok, want, fine)
	}
}

func checkAnswer(t *testing.T, what string, got impl.Answer, ok bool, want impl.Answer, fine bool) {
	t.Helper()
	if !sameAnswer(got, want) || ok != fine {
		t.Errorf("%.600s: got %.300s %v, want %.300s %v", what, fmt.Sprint(got), ok, fmt.Sprint(want), fine)
	}
}

// checkFit asks GoodFit, InfoOf and SolveFit of anything, and says what they are to answer.
func checkFit(t *testing.T, f impl.Fit, vars int) {
	t.Helper()
	what, good := fmt.Sprintf(" of %.300q, %d", f, vars), isFit(f, vars)
	if impl.GoodFit(f, vars) != good {
		t.Errorf("GoodFit%s: %v", what, !good)
	}
	wantInfo, fine, wantAnswer, solved := impl.Info{}, false, impl.Answer{}, false
	if good {
		g := exactGram(t, f, vars)
		wantInfo, fine = g.tell()
		if fine {
			wantAnswer, solved = g.exactAnswer()
		}
	}
	i, ok := impl.InfoOf(f, vars)
	checkInfo(t, "InfoOf"+what, i, ok, wantInfo, fine)
	a, ok := impl.SolveFit(f, vars)
	checkAnswer(t, "SolveFit"+what, a, ok, wantAnswer, solved)
	again, okToo := impl.SolveInfo(i)
	checkAnswer(t, "SolveFit, not SolveInfo of InfoOf,"+what, a, ok, again, okToo)
	if ok {
		checkLeastLoss(t, f, a)
	}
}

// checkLeastLoss: Loss is what X loses, and no numbers near by lose less; those that are the best but for a loose variable lose as much.
func checkLeastLoss(t *testing.T, f impl.Fit, a impl.Answer) {
	t.Helper()
	least := rat(t, a.Loss)
	if loss, ok := impl.LossOf(f, a.X); loss != a.Loss || !ok {
		t.Errorf("LossOf of %.300q, %.200q: %.100q %v, but Loss is %.100q", f, a.X, loss, ok, a.Loss)
	}
	if least.Sign() < 0 {
		t.Errorf("SolveFit of %.300q loses less than 0: %.200s", f, fmt.Sprint(a))
	}
	for i := range a.X {
		for _, by := range []*big.Rat{whole(1), whole(-1), big.NewRat(1, 1000), big.NewRat(-1, 1000)} {
			y := ratList(t, a.X)
			y[i] = plus(y[i], by)
			loss := exactLoss(t, f, y)
			if loss.Cmp(least) < 0 {
				t.Errorf("SolveFit of %.300q: %.200s, but %.200q loses less", f, fmt.Sprint(a), y)
			}
			if a.Kind == impl.FitOne && loss.Cmp(least) == 0 {
				t.Errorf("SolveFit of %.300q: %.200s, but %.200q loses as little", f, fmt.Sprint(a), y)
			}
		}
	}
}

// checkLoss asks LossOf of anything, and says what it is to answer.
func checkLoss(t *testing.T, f impl.Fit, x []string) {
	t.Helper()
	want := ""
	if isFit(f, len(x)) && areFracs(x, len(x)) {
		want = textOf(exactLoss(t, f, ratList(t, x)))
	}
	if got, ok := impl.LossOf(f, x); got != want || ok != (want != "") {
		t.Errorf("LossOf of %.300q, %.200q: got %.100q %v, want %.100q", f, x, got, ok, want)
	}
}

// checkSolving asks SolveInfo and DropLast of anything, and says what they are to answer.
func checkSolving(t *testing.T, i impl.Info) {
	t.Helper()
	what := fmt.Sprintf(" of %.300q", i)
	wantAnswer, solved, wantInfo, dropped := impl.Answer{}, false, impl.Info{}, false
	good := isInfo(t, i)
	if good {
		wantAnswer, solved = gramOf(t, i).exactAnswer()
		wantInfo, dropped = gramOf(t, i).exactDrop()
	}
	a, ok := impl.SolveInfo(i)
	checkAnswer(t, "SolveInfo"+what, a, ok, wantAnswer, solved)
	if ok {
		checkCertificate(t, i, a)
	}
	less, ok := impl.DropLast(i)
	checkInfo(t, "DropLast"+what, less, ok, wantInfo, dropped)
	if ok && good {
		checkDropped(t, i, less)
	}
}

// checkCertificate: M X = V, and what any numbers lose is Loss and what lies between.
func checkCertificate(t *testing.T, i impl.Info, a impl.Answer) {
	t.Helper()
	g, x := gramOf(t, i), ratList(t, a.X)
	for k, row := range g.m {
		if product(row, x).Cmp(g.v[k]) != 0 {
			t.Errorf("SolveInfo of %.300q: %.200s, but M X is not V at %d", i, fmt.Sprint(a), k)
		}
	}
	for _, k := range a.Loose {
		if a.X[k] != "0" {
			t.Errorf("SolveInfo of %.300q: %.200s, but %d is loose", i, fmt.Sprint(a), k)
		}
	}
	r := rand.New(rand.NewSource(123))
	for range 3 {
		y, way := ratList(t, drawnTexts(r, len(x), 2)), []*big.Rat{}
		for k := range y {
			way = append(way, minus(y[k], x[k]))
		}
		if g.turned(way).Sign() < 0 || g.at(y).Cmp(plus(rat(t, a.Loss), g.turned(way))) != 0 {
			t.Errorf("SolveInfo of %.300q: %.200s, but %v loses otherwise", i, fmt.Sprint(a), y)
		}
	}
}

// checkDropped: what is left is good, and has the same loss and, where the last variable was not loose, the same numbers.
func checkDropped(t *testing.T, i impl.Info, less impl.Info) {
	t.Helper()
	if !isInfo(t, less) {
		t.Errorf("DropLast of %.300q is not good: %.300q", i, less)
	}
	n := len(less.M)
	x, loose, found := gramOf(t, i).best()
	left, looseLeft, foundLeft := gramOf(t, less).best()
	if found != foundLeft {
		t.Fatalf("DropLast of %.300q: one has an answer, the other has none", i)
	}
	if !found {
		return
	}
	loss, lossLeft := gramOf(t, i).at(x), gramOf(t, less).at(left)
	if loss.Cmp(lossLeft) != 0 {
		t.Errorf("DropLast of %.300q: the loss is another one", i)
	}
	if !slices.Contains(loose, n) && (!sameRats(x[:n], left) || !slices.Equal(loose, looseLeft)) {
		t.Errorf("DropLast of %.300q: %v and %v were left of %v and %v", i, left, looseLeft, x, loose)
	}
}

// checkAdded asks AddInfo of anything, and says what it is to answer, the one way and the other.
func checkAdded(t *testing.T, a impl.Info, b impl.Info) {
	t.Helper()
	want, fine := impl.Info{}, false
	if isInfo(t, a) && isInfo(t, b) && len(a.M) == len(b.M) {
		one, two := gramOf(t, a), gramOf(t, b)
		sum := gram{c: plus(one.c, two.c)}
		for i := range one.m {
			sum.m = append(sum.m, nil)
			for k := range one.m {
				sum.m[i] = append(sum.m[i], plus(one.m[i][k], two.m[i][k]))
			}
			sum.v = append(sum.v, plus(one.v[i], two.v[i]))
		}
		want, fine = sum.tell()
	}
	what := fmt.Sprintf("AddInfo of %.200q, %.200q", a, b)
	got, ok := impl.AddInfo(a, b)
	checkInfo(t, what, got, ok, want, fine)
	got, ok = impl.AddInfo(b, a)
	checkInfo(t, what+", the other way", got, ok, want, fine)
	if fine && !isInfo(t, want) {
		t.Errorf("%s is not good: %.300q", what, want)
	}
}

// checkNoFit: what is not good, by the test's own word; x are numbers for it.
func checkNoFit(t *testing.T, f impl.Fit, vars int) {
	t.Helper()
	what := fmt.Sprintf(" of %.300q, %d", f, vars)
	if impl.GoodFit(f, vars) {
		t.Errorf("GoodFit%s", what)
	}
	i, ok := impl.InfoOf(f, vars)
	checkInfo(t, "InfoOf"+what, i, ok, impl.Info{}, false)
	a, ok := impl.SolveFit(f, vars)
	checkAnswer(t, "SolveFit"+what, a, ok, impl.Answer{}, false)
	if vars >= 0 && vars < 100 {
		checkNoLoss(t, f, slices.Repeat([]string{"1"}, vars))
	}
}

func checkNoLoss(t *testing.T, f impl.Fit, x []string) {
	t.Helper()
	if s, ok := impl.LossOf(f, x); s != "" || ok {
		t.Errorf("LossOf of %.300q, %.200q: %.100q %v", f, x, s, ok)
	}
}

// checkNoInfo: what is not good, by the test's own word, also beside what is.
func checkNoInfo(t *testing.T, i impl.Info) {
	t.Helper()
	what := fmt.Sprintf(" of %.300q", i)
	a, ok := impl.SolveInfo(i)
	checkAnswer(t, "SolveInfo"+what, a, ok, impl.Answer{}, false)
	less, ok := impl.DropLast(i)
	checkInfo(t, "DropLast"+what, less, ok, impl.Info{}, false)
	for n := 1; n <= mostVars; n++ {
		good := goodInfo(n)
		sum, ok := impl.AddInfo(i, good)
		checkInfo(t, "AddInfo"+what, sum, ok, impl.Info{}, false)
		sum, ok = impl.AddInfo(good, i)
		checkInfo(t, "AddInfo, the other way,"+what, sum, ok, impl.Info{}, false)
	}
	sum, ok := impl.AddInfo(i, i)
	checkInfo(t, "AddInfo with itself"+what, sum, ok, impl.Info{}, false)
}

// goodInfo has 2 from corner to corner and 1 elsewhere: nothing is loose.
func goodInfo(n int) impl.Info {
	m := make([][]string, n)
	for i := range m {
		m[i] = slices.Repeat([]string{"1"}, n)
		m[i][i] = "2"
	}
	return impl.Info{M: m, V: slices.Repeat([]string{"1/2"}, n), C: "5"}
}

func drawnFit(r *rand.Rand, rows int, vars int, digits int) impl.Fit {
	f := impl.Fit{Right: drawnTexts(r, rows, digits), Weights: drawnLinks(r, rows, digits)}
	for range rows {
		f.Rows = append(f.Rows, drawnTexts(r, vars, digits))
	}
	return f
}

// smallFit has small whole numbers, so that columns are often sums of others.
func smallFit(r *rand.Rand, rows int, vars int, most int) impl.Fit {
	f := impl.Fit{Right: smallTexts(r, rows, -most, most), Weights: smallTexts(r, rows, 1, 3)}
	for range rows {
		f.Rows = append(f.Rows, smallTexts(r, vars, -most, most))
	}
	return f
}

func cloneFit(f impl.Fit) impl.Fit {
	return impl.Fit{Rows: cloneRows(f.Rows), Right: slices.Clone(f.Right), Weights: slices.Clone(f.Weights)}
}

func cloneInfo(i impl.Info) impl.Info {
	return impl.Info{M: cloneRows(i.M), V: slices.Clone(i.V), C: i.C}
}

func sameFit(a impl.Fit, b impl.Fit) bool {
	return sameRows(a.Rows, b.Rows) && slices.Equal(a.Right, b.Right) && slices.Equal(a.Weights, b.Weights)
}
