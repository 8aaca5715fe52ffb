package tests

import (
	"math/rand"
	"slices"
	"strings"
	"sync"
	"testing"

	"loop.example/g00047/impl"
)

// inquiry are arguments of all functions of the chapter.
type inquiry struct {
	fit  impl.Fit
	vars int
	x    []string
	one  impl.Info
	two  impl.Info
}

// goodInquiry: the rows are 1 2 .., 2 3 .. and so on: from three variables on the last ones are loose.
func goodInquiry(rows int, vars int) inquiry {
	q := inquiry{vars: vars, x: slices.Repeat([]string{"1/2"}, vars), one: goodInfo(vars), two: goodInfo(vars)}
	q.two.C = "-1/3"
	for i := range rows {
		row := []string{}
		for k := range vars {
			row = append(row, impl.FracOf(i+k+1, 1))
		}
		q.fit.Rows, q.fit.Right, q.fit.Weights = append(q.fit.Rows, row), append(q.fit.Right, impl.FracOf(i*i, 1)), append(q.fit.Weights, impl.FracOf(1, i+1))
	}
	return q
}

func (q inquiry) clone() inquiry {
	return inquiry{cloneFit(q.fit), q.vars, slices.Clone(q.x), cloneInfo(q.one), cloneInfo(q.two)}
}

func (q inquiry) is(other inquiry) bool {
	return sameFit(q.fit, other.fit) && q.vars == other.vars && slices.Equal(q.x, other.x) && sameInfo(q.one, other.one) && sameInfo(q.two, other.two)
}

// check asks every function of anything, and that the lists stay as they are.
func (q inquiry) check(t *testing.T) {
	t.Helper()
	before := q.clone()
	checkFit(t, q.fit, q.vars)
	checkLoss(t, q.fit, q.x)
	checkSolving(t, q.one)
	checkAdded(t, q.one, q.two)
	if !q.is(before) {
		t.Errorf("an argument was changed: %.300q, before %.300q", q.fit, before.fit)
	}
}

func TestGoodInquiries(t *testing.T) {
	for vars := 1; vars <= mostVars; vars++ {
		for rows := range mostRows + 1 {
			q := goodInquiry(rows, vars)
			if !impl.GoodFit(q.fit, vars) {
				t.Errorf("%d rows of %d are not good: %q", rows, vars, q.fit)
			}
			if a, ok := impl.SolveFit(q.fit, vars); !ok || a.Kind != impl.FitOne != (len(a.Loose) > 0) || rows > 2 && len(a.Loose) != max(vars-2, 0) {
				t.Errorf("SolveFit of %d rows of %d: %v %v", rows, vars, a, ok)
			}
			q.check(t)
		}
	}
}

func TestWrongTextsInFits(t *testing.T) {
	for vars := 1; vars <= mostVars; vars++ {
		rows := 5 - vars
		for _, s := range wrongTexts() {
			for at := range rows {
				for k := range vars {
					f := goodInquiry(rows, vars).fit
					f.Rows[at][k] = s
					checkNoFit(t, f, vars)
				}
				f := goodInquiry(rows, vars).fit
				f.Right[at] = s
				checkNoFit(t, f, vars)
				f = goodInquiry(rows, vars).fit
				f.Weights[at] = s
				checkNoFit(t, f, vars)
			}
			for k := range vars {
				q := goodInquiry(rows, vars)
				q.x[k] = s
				checkNoLoss(t, q.fit, q.x)
				checkNoLoss(t, impl.Fit{}, q.x)
				checkLoss(t, q.fit, q.x)
			}
		}
	}
}

func TestWrongTextsInInfos(t *testing.T) {
	for vars := 1; vars <= mostVars; vars++ {
		for _, s := range wrongTexts() {
			for at := range vars * vars {
				i := goodInfo(vars)
				i.M[at/vars][at%vars] = s
				checkNoInfo(t, i)
				// It is the same mirrored all the same.
				i.M[at%vars][at/vars] = s
				checkNoInfo(t, i)
			}
			for at := range vars {
				i := goodInfo(vars)
				i.V[at] = s
				checkNoInfo(t, i)
			}
			i := goodInfo(vars)
			i.C = s
			checkNoInfo(t, i)
		}
	}
}

// Any good text in each place has the answer that is worked out.
func TestGoodTextsInFits(t *testing.T) {
	for vars := 1; vars <= 2; vars++ {
		for _, s := range goodTexts() {
			for place := range 2 * vars {
				q := goodInquiry(2, vars)
				q.fit.Rows[place/vars][place%vars] = s
				q.check(t)
			}
			for at := range 2 {
				for _, list := range []func(inquiry) []string{func(q inquiry) []string { return q.fit.Right }, func(q inquiry) []string { return q.fit.Weights }} {
					q := goodInquiry(2, vars)
					list(q)[at] = s
					q.check(t)
				}
			}
			for at := range vars {
				q := goodInquiry(2, vars)
				q.x[at], q.one.V[at] = s, s
				q.check(t)
				q.one.M[at][at] = s
				q.check(t)
				q.one.M[0][at], q.one.M[at][0] = s, s
				q.check(t)
			}
			q := goodInquiry(2, vars)
			q.one.C = s
			q.check(t)
		}
	}
}

// Rows, Right and Weights of other lengths, in each place.
func TestFitsOfOtherShapes(t *testing.T) {
	for vars := 1; vars <= mostVars; vars++ {
		for rows := 1; rows <= mostRows; rows++ {
			for at := range rows {
				for _, row := range [][]string{nil, {}, slices.Repeat([]string{"1"}, vars-1), slices.Repeat([]string{"1"}, vars+1), slices.Repeat([]string{"1"}, 1000)} {
					f := goodInquiry(rows, vars).fit
					f.Rows[at] = row
					checkNoFit(t, f, vars)
				}
			}
			for _, l := range [][]string{nil, {}, slices.Repeat([]string{"1"}, rows-1), slices.Repeat([]string{"1"}, rows+1), slices.Repeat([]string{"1"}, 1000)} {
				f := goodInquiry(rows, vars).fit
				checkNoFit(t, impl.Fit{Rows: f.Rows, Right: l, Weights: f.Weights}, vars)
				checkNoFit(t, impl.Fit{Rows: f.Rows, Right: f.Right, Weights: l}, vars)
				checkNoFit(t, impl.Fit{Rows: f.Rows, Right: l, Weights: l}, vars)
			}
			f := goodInquiry(rows, vars).fit
			checkNoFit(t, impl.Fit{Rows: f.Rows[1:], Right: f.Right, Weights: f.Weights}, vars)
			checkNoFit(t, impl.Fit{Right: f.Right, Weights: f.Weights}, vars)
			checkNoFit(t, impl.Fit{Right: f.Right}, vars)
			checkNoFit(t, impl.Fit{Weights: f.Weights}, vars)
		}
	}
}

func TestInfosOfOtherShapes(t *testing.T) {
	for _, i := range []impl.Info{{}, {C: "1"}, {M: [][]string{}, V: []string{}, C: "0"}, {V: []string{"1"}, C: "1"}, {M: [][]string{{}}, V: []string{"0"}, C: "0"}, {M: [][]string{nil}, C: "0"}, {M: [][]string{{"1"}}, C: "0"}} {
		checkNoInfo(t, i)
	}
	for n := 1; n <= mostVars; n++ {
		for at := range n {
			for _, row := range [][]string{nil, {}, slices.Repeat([]string{"1"}, n-1), slices.Repeat([]string{"1"}, n+1), slices.Repeat([]string{"1"}, 1000)} {
				i := goodInfo(n)
				i.M[at] = row
				checkNoInfo(t, i)
			}
		}
		for _, l := range [][]string{nil, {}, slices.Repeat([]string{"0"}, n-1), slices.Repeat([]string{"0"}, n+1), slices.Repeat([]string{"0"}, 1000)} {
			i := goodInfo(n)
			i.V = l
			checkNoInfo(t, i)
		}
		i := goodInfo(n)
		checkNoInfo(t, impl.Info{M: i.M[1:], V: i.V, C: i.C})
		checkNoInfo(t, impl.Info{M: i.M[1:], V: i.V[1:], C: i.C})
		checkNoInfo(t, impl.Info{M: append(i.M, i.M[0]), V: i.V, C: i.C})
		checkNoInfo(t, impl.Info{M: i.M, V: i.V})
	}
	for _, n := range []int{mostVars + 1, mostVars + 2, 63, 64, 65, 100} {
		checkNoInfo(t, goodInfo(n))
		checkNoInfo(t, impl.Info{M: identity(n, "0"), V: slices.Repeat([]string{"0"}, n), C: "0"})
	}
}

func rowsBehind(m [][]string, more ...string) [][]string {
	rows := [][]string{}
	for _, row := range m {
		rows = append(rows, behind(row, more...))
	}
	return behind(rows, more, nil, []string{"1"})
}

func infoBehind(i impl.Info, more ...string) impl.Info {
	return impl.Info{M: rowsBehind(i.M, more...), V: behind(i.V, more...), C: i.C}
}

// rowsKept: the rows, what lies behind each and what lies behind all are what they were.
func rowsKept(rows [][]string, before [][]string, more ...string) bool {
	for i, row := range rows {
		if !kept(row, before[i], sameText, more...) {
			return false
		}
	}
	return kept(rows, before, slices.Equal, more, nil, []string{"1"})
}

func (q inquiry) behind(more ...string) inquiry {
	f := impl.Fit{Rows: rowsBehind(q.fit.Rows, more...), Right: behind(q.fit.Right, more...), Weights: behind(q.fit.Weights, more...)}
	return inquiry{f, q.vars, behind(q.x, more...), infoBehind(q.one, more...), infoBehind(q.two, more...)}
}

// What lies behind the lists counts for nothing and stays, as the lists do.
func TestWhatLiesBehindFits(t *testing.T) {
	for _, more := range [][]string{{"x", "7", "0"}, {"1", "1", "1"}, {"", "2/4", "-1"}} {
		for vars := 1; vars <= mostVars; vars++ {
			for rows := range mostRows + 2 {
				good := goodInquiry(rows, vars)
				in := good.behind(more...)
				for range 2 {
					in.check(t)
				}
				if !rowsKept(in.fit.Rows, good.fit.Rows, more...) || !kept(in.fit.Right, good.fit.Right, sameText, more...) || !kept(in.fit.Weights, good.fit.Weights, sameText, more...) || !kept(in.x, good.x, sameText, more...) {
					t.Errorf("what lies behind a fit was changed: %q", in.fit)
				}
				for _, pair := range [][2]impl.Info{{in.one, good.one}, {in.two, good.two}} {
					if !rowsKept(pair[0].M, pair[1].M, more...) || !kept(pair[0].V, pair[1].V, sameText, more...) {
						t.Errorf("what lies behind an info was changed: %q", pair[0])
					}
				}
				checkNoFit(t, impl.Fit{Rows: in.fit.Rows, Right: in.fit.Right[:rows+1], Weights: in.fit.Weights}, vars)
				checkNoFit(t, impl.Fit{Rows: in.fit.Rows, Right: in.fit.Right, Weights: in.fit.Weights[:rows+1]}, vars)
				if rows > 0 {
					checkNoFit(t, impl.Fit{Rows: in.fit.Rows[:rows-1], Right: in.fit.Right, Weights: in.fit.Weights}, vars)
					checkNoLoss(t, in.fit, in.x[:vars-1])
					checkNoLoss(t, in.fit, in.x[:vars+1])
				}
				checkNoInfo(t, impl.Info{M: in.one.M, V: in.one.V[:vars+1], C: in.one.C})
				checkNoInfo(t, impl.Info{M: in.one.M[:vars-1], V: in.one.V[:vars-1], C: in.one.C})
			}
		}
	}
}

// spoilBeside writes into each row and into the list beside them, one after the other, and sees that the others stay.
func spoilBeside(t *testing.T, m [][]string, l []string) {
	t.Helper()
	rows, list := cloneRows(m), slices.Clone(l)
	for k := range m {
		spoil(m[k], "x")
		if !sameRows(m[k+1:], rows[k+1:]) || !slices.Equal(l, list) {
			t.Fatalf("lists of one answer share memory: %q and %q, were %q and %q", m, l, rows, list)
		}
	}
	spoil(l, "y")
	for _, row := range m {
		if slices.Contains(row, "y") {
			t.Fatalf("lists of one answer share memory: %q and %q, were %q and %q", m, l, rows, list)
		}
	}
	spoil(m, nil)
}

// Whoever writes into an answer changes nothing else: no other list of it, no later answer, no argument.
func TestFitAnswersAreNewMemory(t *testing.T) {
	for vars := 1; vars <= mostVars; vars++ {
		for rows := range mostRows + 1 {
			q := goodInquiry(rows, vars)
			before := q.clone()
			for range 2 {
				for _, ask := range []func() (impl.Info, bool){
					func() (impl.Info, bool) { return impl.InfoOf(q.fit, vars) },
					func() (impl.Info, bool) { return impl.AddInfo(q.one, q.two) },
					func() (impl.Info, bool) { return impl.AddInfo(q.one, q.one) },
					func() (impl.Info, bool) { return impl.DropLast(q.one) },
				} {
					i, _ := ask()
					spoilBeside(t, i.M, i.V)
				}
				a, _ := impl.SolveFit(q.fit, vars)
				spoil(a.X, "x")
				spoil(a.Loose, -1)
				b, _ := impl.SolveInfo(q.one)
				spoil(b.X, "x")
				spoil(b.Loose, -1)
				if !q.is(before) {
					t.Fatalf("an argument was changed: %q, before %q", q.fit, before.fit)
				}
				q.check(t)
			}
		}
	}
}

// The same call has the same answer every time, many at once too.
func TestFitAnswersAreTheSameEveryTime(t *testing.T) {
	r := rand.New(rand.NewSource(136))
	f := leaning(t, r, mostRows, mostVars, 4)
	x := drawnTexts(r, mostVars, 3)
	loss, _ := impl.LossOf(f, x)
	a, _ := impl.SolveFit(f, mostVars)
	i, _ := impl.InfoOf(f, mostVars)
	sum, _ := impl.AddInfo(i, goodInfo(mostVars))
	solved, _ := impl.SolveInfo(sum)
	less, ok := impl.DropLast(sum)
	if loss == "" || len(a.Loose) == 0 || len(solved.X) != mostVars || !ok {
		t.Fatal("no answer:", loss, a, solved, less)
	}
	var all sync.WaitGroup
	for range 8 {
		all.Go(func() {
			for range 25 {
				gotLoss, _ := impl.LossOf(f, x)
				gotA, _ := impl.SolveFit(f, mostVars)
				gotI, _ := impl.InfoOf(f, mostVars)
				gotSum, _ := impl.AddInfo(i, goodInfo(mostVars))
				gotSolved, _ := impl.SolveInfo(sum)
				gotLess, _ := impl.DropLast(sum)
				if gotLoss != loss || !sameAnswer(gotA, a) || !sameInfo(gotI, i) || !sameInfo(gotSum, sum) || !sameAnswer(gotSolved, solved) || !sameInfo(gotLess, less) || !impl.GoodFit(f, mostVars) {
					t.Error("another answer")
				}
			}
		})
	}
	all.Wait()
}

// rowsIn are the rows that stand in one text, with bars between the texts and # between the rows; no text has no rows.
func rowsIn(s string) [][]string {
	rows := [][]string{}
	if s == "" {
		return rows
	}
	for row := range strings.SplitSeq(s, "#") {
		rows = append(rows, strings.Split(row, "|"))
	}
	return rows
}

// listIn is the first of such rows.
func listIn(s string) []string {
	if s == "" {
		return nil
	}
	return strings.Split(s, "|")
}

// mirroredIn is made of the rows: what stands above the corners is taken for what stands below.
func mirroredIn(s string) [][]string {
	rows := rowsIn(s)
	for i := range rows {
		for k := range min(i, len(rows[i])) {
			if i < len(rows[k]) {
				rows[i][k] = rows[k][i]
			}
		}
	}
	return rows
}

// FuzzFits asks every function of any texts and numbers.
func FuzzFits(f *testing.F) {
	bars := strings.NewReplacer(" | ", "#", " ", "|")
	for _, c := range fitCases() {
		rows, right, weights, x := bars.Replace(c.rows), bars.Replace(c.right), bars.Replace(c.weights), bars.Replace(c.x)
		f.Add(rows, right, weights, len(strings.Fields(c.x)), x, rows, x, c.loss, rows)
	}
	for i, s := range append(goodTexts(), "", "-0", "1/0", "2/4") {
		f.Add(s+"|1#-1|"+s, "-1|"+s, s+"|1", 2, "0|"+s, "2|"+s+"#1|"+s, "1|"+s, s, "1|2#2|"+s)
		f.Add("2|1|0#1|2|"+s, "-1|"+s, "1|1", i-10, "1|1|"+s, "2|1|0#1|2|"+s+"#1|1|2", "1|"+s+"|1", "5", "5|1|1#1|5|1#1|1|"+s)
	}
	f.Add("1", "1", "1", 1, "1", "-1", "1", "1", "1")
	f.Add("", "", "", 3, "1|2|3", "", "", "", "")
	f.Fuzz(func(t *testing.T, rows string, right string, weights string, vars int, x string, m string, v string, c string, other string) {
		q := inquiry{fit: impl.Fit{Rows: rowsIn(rows), Right: listIn(right), Weights: listIn(weights)}, vars: vars, x: listIn(x)}
		q.one, q.two = impl.Info{M: rowsIn(m), V: listIn(v), C: c}, impl.Info{M: rowsIn(other), V: listIn(v), C: c}
		q.check(t)
		q.one.M, q.two.M = mirroredIn(m), mirroredIn(other)
		q.check(t)
	})
}
