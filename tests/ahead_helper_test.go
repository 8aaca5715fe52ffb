package tests

import (
	"math/big"
	"math/rand"
	"slices"
	"strings"
	"testing"

	"loop.example/g00047/impl"
)

const mostLimits = 5

// quadOf has its rows as square has them; an empty g has none.
func quadOf(h string, f string, g string, limits string) impl.Quad {
	q := impl.Quad{H: square(h), F: strings.Fields(f), Limits: strings.Fields(limits)}
	if g != "" {
		q.G = square(g)
	}
	return q
}

func bestOf(x string, press string, value string) impl.Best {
	return impl.Best{Kind: impl.BestFound, X: strings.Fields(x), Press: strings.Fields(press), Value: value}
}

// taskOf has the five texts in the order of their fields.
func taskOf(five string, steps int) impl.Task {
	l := strings.Fields(five)
	return impl.Task{A: l[0], B: l[1], X: l[2], Weight: l[3], Most: l[4], Steps: steps}
}

// isQuad says by the test's own word whether q is good.
func isQuad(t *testing.T, q impl.Quad) bool {
	t.Helper()
	n := len(q.H)
	if !isStateWith(q.H, q.F) || len(q.G) > mostLimits || !areFracs(q.Limits, len(q.G)) {
		return false
	}
	for _, row := range q.G {
		if !areFracs(row, n) {
			return false
		}
	}
	for at := range n * n {
		if q.H[at/n][at%n] != q.H[at%n][at/n] {
			return false
		}
	}
	return len(lessFirm(ratRows(t, q.H))) == 0
}

func isTask(k impl.Task) bool {
	return areFracs([]string{k.A, k.B, k.X}, 3) && isLength(k.Weight) && isLength(k.Most) && (k.Steps == 1 || k.Steps == 2)
}

// bowl is a quad, exactly.
type bowl struct {
	h, g      [][]*big.Rat
	f, limits []*big.Rat
}

func bowlOf(t *testing.T, q impl.Quad) bowl {
	t.Helper()
	return bowl{ratRows(t, q.H), ratRows(t, q.G), ratList(t, q.F), ratList(t, q.Limits)}
}

func (w bowl) value(x []*big.Rat) *big.Rat { return plus(half(bracket(x, w.h)), product(w.f, x)) }

// room is how far the row is below its limit.
func (w bowl) room(row int, x []*big.Rat) *big.Rat {
	return minus(w.limits[row], product(w.g[row], x))
}

func (w bowl) fits(x []*big.Rat) bool {
	for row := range w.g {
		if w.room(row, x).Sign() < 0 {
			return false
		}
	}
	return true
}

// slopes are H x + F + the sum of press times row.
func (w bowl) slopes(x []*big.Rat, press []*big.Rat) []*big.Rat {
	l := []*big.Rat{}
	for i := range w.f {
		sum := plus(product(w.h[i], x), w.f[i])
		for row := range w.g {
			sum = plus(sum, times(press[row], w.g[row][i]))
		}
		l = append(l, sum)
	}
	return l
}

// answered is the answer of the equations, what they are to be being the last number of each row; false where there is none, or another one.
func answered(rows [][]*big.Rat) ([]*big.Rat, bool) {
	n := len(rows)
	for c := range n {
		at := slices.IndexFunc(rows[c:], func(row []*big.Rat) bool { return row[c].Sign() != 0 })
		if at < 0 {
			return nil, false
		}
		rows[c], rows[c+at] = rows[c+at], rows[c]
		rows[c] = rowTimes(rows[c], quotient(whole(1), rows[c][c]))
		for i := range rows {
			if i != c {
				rows[i] = sumOfRows([][]*big.Rat{rows[i]}, [][]*big.Rat{rowTimes(rows[c], negative(rows[i][c]))})[0]
			}
		}
	}
	return column(rows, n), true
}

// standAt are x and all presses by the equations of a mask, all of them at once; false where they have not just one answer.
func (w bowl) standAt(mask int) ([]*big.Rat, []*big.Rat, bool) {
	n, of := len(w.f), []int{}
	for row := range w.g {
		if mask>>row&1 == 1 {
			of = append(of, row)
		}
	}
	rows := [][]*big.Rat{}
	for i := range n {
		l := slices.Clone(w.h[i])
		for _, row := range of {
			l = append(l, w.g[row][i])
		}
		rows = append(rows, append(l, negative(w.f[i])))
	}
	for _, row := range of {
		rows = append(rows, append(append(slices.Clone(w.g[row]), rats(make([]int64, len(of))...)...), w.limits[row]))
	}
	found, only := answered(rows)
	if !only {
		return nil, nil, false
	}
	press := rats(make([]int64, len(w.g))...)
	for i, row := range of {
		press[row] = found[n+i]
	}
	return found[:n], press, true
}

func belowNought(n *big.Rat) bool { return n.Sign() < 0 }

// masks are those of which all is so that the chapter says.
func (w bowl) masks() []int {
	l := []int{}
	for mask := range 1 << len(w.g) {
		if x, press, only := w.standAt(mask); only && !slices.ContainsFunc(press, belowNought) && w.fits(x) {
			l = append(l, mask)
		}
	}
	return l
}

// best is of the first mask; false where there is none.
func (w bowl) best() ([]*big.Rat, []*big.Rat, bool) {
	for mask := range 1 << len(w.g) {
		if x, press, only := w.standAt(mask); only && !slices.ContainsFunc(press, belowNought) && w.fits(x) {
			return x, press, true
		}
	}
	return nil, nil, false
}

// anywhere says whether anything fits, without a thought of what is best: number by number is taken out, each row that bounds it from above with each one that bounds it from below.
func (w bowl) anywhere() bool {
	rows := [][]*big.Rat{}
	for i, row := range w.g {
		rows = append(rows, append(slices.Clone(row), w.limits[i]))
	}
	for c := range w.f {
		left := [][]*big.Rat{}
		for _, row := range rows {
			if row[c].Sign() == 0 {
				left = append(left, row)
			}
			for _, other := range rows {
				if row[c].Sign() > 0 && other[c].Sign() < 0 {
					left = append(left, sumOfRows([][]*big.Rat{rowTimes(row, negative(other[c]))}, [][]*big.Rat{rowTimes(other, row[c])})[0])
				}
			}
		}
		rows = left
	}
	return !slices.ContainsFunc(rows, func(row []*big.Rat) bool { return belowNought(row[len(w.f)]) })
}

// exactBest is what BestOf is to answer.
func exactBest(t *testing.T, q impl.Quad) (impl.Best, bool) {
	t.Helper()
	if !isQuad(t, q) {
		return impl.Best{}, false
	}
	w := bowlOf(t, q)
	x, press, found := w.best()
	if !found {
		return impl.Best{Kind: impl.BestNone}, true
	}
	xs, fits := tellRats(x)
	ps, fitsToo := tellRats(press)
	value := textOf(w.value(x))
	if !fits || !fitsToo || value == "" {
		return impl.Best{}, false
	}
	return impl.Best{Kind: impl.BestFound, X: xs, Press: ps, Value: value}, true
}

// exactHolds goes by the words of BestHolds.
func exactHolds(t *testing.T, q impl.Quad, b impl.Best) bool {
	t.Helper()
	if !isQuad(t, q) || b.Kind != impl.BestFound || !areFracs(b.X, len(q.F)) || !areFracs(b.Press, len(q.G)) {
		return false
	}
	w, x, press := bowlOf(t, q), ratList(t, b.X), ratList(t, b.Press)
	for row := range w.g {
		if room, sign := w.room(row, x).Sign(), press[row].Sign(); room < 0 || sign < 0 || room > 0 && sign != 0 {
			return false
		}
	}
	steep := slices.ContainsFunc(w.slopes(x, press), func(n *big.Rat) bool { return n.Sign() != 0 })
	return !steep && isFrac(b.Value) && b.Value == textOf(w.value(x))
}

func sameBest(a impl.Best, b impl.Best) bool {
	return a.Kind == b.Kind && slices.Equal(a.X, b.X) && slices.Equal(a.Press, b.Press) && a.Value == b.Value
}

func cloneBest(b impl.Best) impl.Best {
	return impl.Best{Kind: b.Kind, X: slices.Clone(b.X), Press: slices.Clone(b.Press), Value: b.Value}
}

func sameQuad(a impl.Quad, b impl.Quad) bool {
	return sameRows(a.H, b.H) && slices.Equal(a.F, b.F) && sameRows(a.G, b.G) && slices.Equal(a.Limits, b.Limits)
}

func cloneQuad(q impl.Quad) impl.Quad {
	return impl.Quad{H: cloneRows(q.H), F: slices.Clone(q.F), G: cloneRows(q.G), Limits: slices.Clone(q.Limits)}
}

// checkQuad asks GoodQuad and BestOf of anything, and says what they are to answer.
func checkQuad(t *testing.T, q impl.Quad) impl.Best {
	t.Helper()
	if good := isQuad(t, q); impl.GoodQuad(q) != good {
		t.Errorf("GoodQuad of %.400v: %v", q, !good)
	}
	want, fine := exactBest(t, q)
	got, ok := impl.BestOf(q)
	if !sameBest(got, want) || ok != fine {
		t.Errorf("BestOf of %.400v: got %.300v %v, want %.300v %v", q, got, ok, want, fine)
	}
	if holds := got.Kind == impl.BestFound; impl.BestHolds(q, got) != holds {
		t.Errorf("BestHolds of %.400v, %.300v: %v", q, got, !holds)
	}
	if ok && bowlOf(t, q).anywhere() != (got.Kind == impl.BestFound) {
		t.Errorf("BestOf of %.400v: %.300v, but whether anything fits: %v", q, got, bowlOf(t, q).anywhere())
	}
	if ok {
		checkOthers(t, q, got)
	}
	return got
}

// checkOthers: of other numbers none fits where there is no best, and those that fit have a greater value where there is one: by so much as the certificate says.
func checkOthers(t *testing.T, q impl.Quad, b impl.Best) {
	t.Helper()
	r, w := rand.New(rand.NewSource(237)), bowlOf(t, q)
	if b.Kind != impl.BestFound {
		for range 8 {
			if x := drawnTexts(r, len(q.F), 2); impl.QuadFits(q, x) {
				t.Errorf("BestOf of %.400v: none, but %.200q fits", q, x)
			}
		}
		return
	}
	best, press := ratList(t, b.X), ratList(t, b.Press)
	for _, y := range otherControls(r, b.X) {
		at := ratList(t, y)
		more, off := new(big.Rat), []*big.Rat{}
		for i := range best {
			off = append(off, minus(at[i], best[i]))
		}
		more = plus(more, half(bracket(off, w.h)))
		for row := range w.g {
			more = plus(more, times(press[row], w.room(row, at)))
		}
		value, ok := impl.QuadValue(q, y)
		if want := textOf(plus(rat(t, b.Value), more)); value != want || ok != (want != "") {
			t.Errorf("QuadValue of %.400v, %.200q: %.100q %v, by the certificate %.100q", q, y, value, ok, want)
		}
		if sign, _ := impl.CmpFrac(value, b.Value); impl.QuadFits(q, y) && ok && sign <= 0 {
			t.Errorf("BestOf of %.400v: %.300v, but %.200q has %.100q", q, b, y, value)
		}
	}
}

// checkAt asks QuadValue and QuadFits of anything, and says what they are to answer.
func checkAt(t *testing.T, q impl.Quad, x []string) {
	t.Helper()
	want, fits := "", false
	if isQuad(t, q) && areFracs(x, len(q.F)) {
		w, at := bowlOf(t, q), ratList(t, x)
		want, fits = textOf(w.value(at)), w.fits(at)
	}
	if got, ok := impl.QuadValue(q, x); got != want || ok != (want != "") {
		t.Errorf("QuadValue of %.400v, %.200q: got %.200q %v, want %.200q", q, x, got, ok, want)
	}
	if got := impl.QuadFits(q, x); got != fits {
		t.Errorf("QuadFits of %.400v, %.200q: %v", q, x, got)
	}
}

func checkHolds(t *testing.T, q impl.Quad, b impl.Best) {
	t.Helper()
	if want := exactHolds(t, q, b); impl.BestHolds(q, b) != want {
		t.Errorf("BestHolds of %.400v, %.300v: %v", q, b, !want)
	}
}

// halfSum goes by the words: half of the sum over the steps of the square of the x that it leads to and Weight u u.
func halfSum(t *testing.T, k impl.Task, u []*big.Rat) *big.Rat {
	t.Helper()
	sum, x := new(big.Rat), rat(t, k.X)
	for _, push := range u {
		x = plus(times(rat(t, k.A), x), times(rat(t, k.B), push))
		sum = plus(sum, plus(times(x, x), times(rat(t, k.Weight), times(push, push))))
	}
	return half(sum)
}

// bowlAhead is found by nothing but half sums: what one control adds, and what two add together.
func bowlAhead(t *testing.T, k impl.Task) bowl {
	t.Helper()
	at := func(on ...int) *big.Rat {
		u := rats(make([]int64, k.Steps)...)
		for _, i := range on {
			u[i] = plus(u[i], whole(1))
		}
		return halfSum(t, k, u)
	}
	w := bowl{h: make([][]*big.Rat, k.Steps)}
	for i := range k.Steps {
		for j := range k.Steps {
			w.h[i] = append(w.h[i], plus(minus(minus(at(i, j), at(i)), at(j)), at()))
		}
		w.f = append(w.f, minus(minus(at(i), at()), half(w.h[i][i])))
		up := rats(make([]int64, k.Steps)...)
		up[i] = whole(1)
		w.g = append(w.g, up, rowTimes(up, whole(-1)))
		w.limits = append(w.limits, rat(t, k.Most), rat(t, k.Most))
	}
	return w
}

// exactAhead is what AheadQuad is to answer.
func exactAhead(t *testing.T, k impl.Task) (impl.Quad, bool) {
	t.Helper()
	if !isTask(k) {
		return impl.Quad{}, false
	}
	w := bowlAhead(t, k)
	h, fits := tellRatRows(w.h)
	f, fitsToo := tellRats(w.f)
	g, _ := tellRatRows(w.g)
	limits, _ := tellRats(w.limits)
	if !fits || !fitsToo {
		return impl.Quad{}, false
	}
	return impl.Quad{H: h, F: f, G: g, Limits: limits}, true
}

// checkTask asks AheadQuad and AheadControl of anything, and says what they are to answer.
func checkTask(t *testing.T, k impl.Task) {
	t.Helper()
	want, fine := exactAhead(t, k)
	got, ok := impl.AheadQuad(k)
	if !sameQuad(got, want) || ok != fine {
		t.Errorf("AheadQuad of %.400v: got %.300v %v, want %.300v %v", k, got, ok, want, fine)
	}
	if impl.GoodQuad(got) != fine {
		t.Errorf("GoodQuad of the quad of %.400v: %v", k, !fine)
	}
	control := ""
	if isTask(k) {
		// Nothing is always within its limits: so there is a best.
		x, _, _ := bowlAhead(t, k).best()
		control = textOf(x[0])
	}
	u, ok := impl.AheadControl(k)
	if u != control || ok != (control != "") {
		t.Errorf("AheadControl of %.400v: got %.200q %v, want %.200q", k, u, ok, control)
	}
	if ok {
		checkWithin(t, k, u)
	}
	if b, found := impl.BestOf(got); found && (b.Kind != impl.BestFound || b.X[0] != u) {
		t.Errorf("AheadControl of %.400v: %.200q, by BestOf %.300v", k, u, b)
	}
}

// checkWithin: the control is in -Most..Most.
func checkWithin(t *testing.T, k impl.Task, u string) {
	t.Helper()
	if n, most := rat(t, u), rat(t, k.Most); n.Cmp(most) > 0 || n.Cmp(negative(most)) < 0 {
		t.Errorf("AheadControl of %.400v: %.200q", k, u)
	}
}

// checkNoQuad: nothing is answered of a quad that is not good, whatever stands beside it.
func checkNoQuad(t *testing.T, q impl.Quad, x []string, b impl.Best) {
	t.Helper()
	if impl.GoodQuad(q) {
		t.Errorf("GoodQuad of %.300v", q)
	}
	if got, ok := impl.BestOf(q); !sameBest(got, impl.Best{}) || ok {
		t.Errorf("BestOf of %.300v: %.300v %v", q, got, ok)
	}
	if impl.BestHolds(q, b) {
		t.Errorf("BestHolds of %.300v, %.300v", q, b)
	}
	checkNoAt(t, q, x)
}

func checkNoAt(t *testing.T, q impl.Quad, x []string) {
	t.Helper()
	if s, ok := impl.QuadValue(q, x); s != "" || ok {
		t.Errorf("QuadValue of %.300v, %.200q: %.100q %v", q, x, s, ok)
	}
	if impl.QuadFits(q, x) {
		t.Errorf("QuadFits of %.300v, %.200q", q, x)
	}
}

func checkNoTask(t *testing.T, k impl.Task) {
	t.Helper()
	if q, ok := impl.AheadQuad(k); !sameQuad(q, impl.Quad{}) || ok {
		t.Errorf("AheadQuad of %.300v: %.300v %v", k, q, ok)
	}
	if u, ok := impl.AheadControl(k); u != "" || ok {
		t.Errorf("AheadControl of %.300v: %.100q %v", k, u, ok)
	}
}

// lookout is all that the functions take.
type lookout struct {
	q impl.Quad
	x []string
	b impl.Best
	k impl.Task
}

func (l lookout) check(t *testing.T) {
	t.Helper()
	before := l.clone()
	checkQuad(t, l.q)
	checkAt(t, l.q, l.x)
	checkHolds(t, l.q, l.b)
	checkTask(t, l.k)
	if !l.is(before) {
		t.Errorf("an argument was changed: %.300v, before %.300v", l, before)
	}
}

func (l lookout) clone() lookout {
	return lookout{cloneQuad(l.q), slices.Clone(l.x), cloneBest(l.b), l.k}
}

func (l lookout) is(other lookout) bool {
	return sameQuad(l.q, other.q) && slices.Equal(l.x, other.x) && sameBest(l.b, other.b) && l.k == other.k
}

func (l *lookout) lists() []*[]string {
	return []*[]string{&l.q.F, &l.q.Limits, &l.x, &l.b.X, &l.b.Press}
}

func (l *lookout) rows() []*[][]string { return []*[][]string{&l.q.H, &l.q.G} }

func (l *lookout) texts() []*string {
	return []*string{&l.k.A, &l.k.B, &l.k.X, &l.k.Weight, &l.k.Most}
}

// goodLookout has a best at which rows press, no two rows alike, and nothing in it is 0 for good.
func goodLookout(t *testing.T, n int, rows int) lookout {
	t.Helper()
	q := impl.Quad{H: goodInfo(n).M, F: []string{"-3", "-4/3", "-2"}[:n]}
	q.H[0][0] = "5/2"
	g := [][]string{{"1", "-1", "2"}, {"1/2", "1", "1/7"}, {"-1", "2", "1"}, {"2", "5", "-1/3"}, {"1/3", "-3", "1"}}
	for i := range rows {
		q.G = append(q.G, slices.Clone(g[i][:n]))
	}
	q.Limits = []string{"1/3", "1/2", "2", "1", "5"}[:rows]
	b, ok := impl.BestOf(q)
	if !ok || b.Kind != impl.BestFound || rows > 0 && len(strings.Trim(strings.Join(b.Press, ""), "0")) == 0 {
		t.Fatalf("no good example: %v %v", q, b)
	}
	return lookout{q, []string{"1/5", "-2", "3"}[:n], b, taskOf("2 3/2 -5 1/3 4/3", 1+rows%2)}
}

// drawnQuad has a firm H, and limits of both signs.
func drawnQuad(t *testing.T, r *rand.Rand, n int, rows int, digits int) impl.Quad {
	t.Helper()
	q := impl.Quad{H: drawnSpread(t, r, n, n, digits), F: drawnTexts(r, n, digits)}
	for i := range n {
		q.H[i][i] = impl.AddFrac(q.H[i][i], drawnLength(r, digits))
	}
	for range rows {
		q.G, q.Limits = append(q.G, drawnTexts(r, n, digits)), append(q.Limits, randomFrac(r, digits))
	}
	return q
}

// smallQuad has few whole numbers, so that rows are often alike, or multiples of one another, or noughts, and limits are met exactly.
func smallQuad(r *rand.Rand, n int, rows int) impl.Quad {
	q := impl.Quad{H: identity(n, []string{"1", "2"}[r.Intn(2)]), F: smallTexts(r, n, -2, 2), Limits: smallTexts(r, rows, -1, 2)}
	if n > 1 && q.H[0][0] == "2" {
		q.H[0][n-1] = []string{"0", "1", "-1"}[r.Intn(3)]
		q.H[n-1][0] = q.H[0][n-1]
	}
	for range rows {
		q.G = append(q.G, smallTexts(r, n, -1, 1))
	}
	return q
}
