package tests

import (
	"fmt"
	"math/rand"
	"slices"
	"strings"
	"testing"

	"loop.example/g00047/impl"
)

func TestInfosByHand(t *testing.T) {
	for _, c := range []struct {
		rows, right, weights, m, v, k string
	}{
		{"2", "3", "1", "4", "6", "9"},
		{"2", "3", "5", "20", "30", "45"},
		{"-2", "3", "1/2", "2", "-3", "9/2"},
		{"1 | 1", "1 3", "1 1", "2", "4", "10"},
		{"1 | 1", "1 3", "1 3", "4", "10", "28"},
		{"1 2", "3", "1", "1 2 | 2 4", "3 6", "9"},
		{"1 2", "3", "1/6", "1/6 1/3 | 1/3 2/3", "1/2 1", "3/2"},
		{"1 0 | 1 1 | 1 2", "0 0 3", "1 1 1", "3 3 | 3 5", "3 6", "9"},
		{"1 2 3 4", "5", "1", "1 2 3 4 | 2 4 6 8 | 3 6 9 12 | 4 8 12 16", "5 10 15 20", "25"},
		{"1 0 0 | 0 0 -1", "2 3", "7 11", "7 0 0 | 0 0 0 | 0 0 11", "14 0 -33", "127"},
		{"0", "0", "1", "0", "0", "0"},
	} {
		f := fitOf(c.rows, c.right, c.weights)
		vars := len(strings.Fields(c.v))
		i, ok := impl.InfoOf(f, vars)
		checkInfo(t, "InfoOf of "+c.rows+", "+c.right+", "+c.weights, i, ok, infoOf(c.m, c.v, c.k), true)
		checkFit(t, f, vars)
	}
}

// The infos of two parts, added, are the info of all; with any cut, in any order.
func TestInfosOfParts(t *testing.T) {
	r := rand.New(rand.NewSource(131))
	for vars := 1; vars <= mostVars; vars++ {
		for rows := range mostRows + 1 {
			for _, f := range []impl.Fit{smallFit(r, rows, vars, 2), drawnFit(r, rows, vars, 4)} {
				all, ok := impl.InfoOf(f, vars)
				if !ok {
					t.Fatalf("InfoOf of %q", f)
				}
				for cut := range rows + 1 {
					one, _ := impl.InfoOf(impl.Fit{Rows: f.Rows[:cut], Right: f.Right[:cut], Weights: f.Weights[:cut]}, vars)
					two, _ := impl.InfoOf(impl.Fit{Rows: f.Rows[cut:], Right: f.Right[cut:], Weights: f.Weights[cut:]}, vars)
					sum, ok := impl.AddInfo(one, two)
					checkInfo(t, "AddInfo of two parts", sum, ok, all, true)
					sum, ok = impl.AddInfo(two, one)
					checkInfo(t, "AddInfo of two parts, the other way", sum, ok, all, true)
				}
			}
		}
	}
}

// Infos of single rows, added one by one in any order, say what all at once do: answer and all.
func TestInfosRowByRow(t *testing.T) {
	r := rand.New(rand.NewSource(132))
	for vars := 1; vars <= mostVars; vars++ {
		for range 10 {
			f := smallFit(r, mostRows, vars, 2)
			want, fine := impl.SolveFit(f, vars)
			for range 2 {
				sum, _ := impl.InfoOf(impl.Fit{}, vars)
				for _, i := range r.Perm(mostRows) {
					one, _ := impl.InfoOf(impl.Fit{Rows: f.Rows[i : i+1], Right: f.Right[i : i+1], Weights: f.Weights[i : i+1]}, vars)
					sum, _ = impl.AddInfo(sum, one)
				}
				got, ok := impl.SolveInfo(sum)
				checkAnswer(t, "SolveInfo of infos row by row", got, ok, want, fine)
			}
		}
	}
}

func TestAddedInfosByHand(t *testing.T) {
	for _, c := range [][3]impl.Info{
		{infoOf("1", "2", "3"), infoOf("4", "5", "6"), infoOf("5", "7", "9")},
		{infoOf("1/2", "-1/2", "-1/3"), infoOf("1/3", "1/2", "1/3"), infoOf("5/6", "0", "0")},
		{infoOf("2 1 | 1 2", "3 4", "5"), infoOf("1 -1 | -1 1", "1 1", "1"), infoOf("3 0 | 0 3", "4 5", "6")},
		// C may be anything, and V too: no answer is asked for.
		{infoOf("0", "1", "-7"), infoOf("0", "-3", "2"), infoOf("0", "-2", "-5")},
		{infoOf("0 0 0 | 0 1 0 | 0 0 0", "1 2 3", "0"), infoOf("1 0 1 | 0 0 0 | 1 0 1", "1 1 1", "1"), infoOf("1 0 1 | 0 1 0 | 1 0 1", "2 3 4", "1")},
	} {
		got, ok := impl.AddInfo(c[0], c[1])
		checkInfo(t, fmt.Sprintf("AddInfo of %q, %q", c[0], c[1]), got, ok, c[2], true)
		checkAdded(t, c[0], c[1])
	}
	r := rand.New(rand.NewSource(133))
	for n := 1; n <= mostVars; n++ {
		for k := 1; k <= mostVars; k++ {
			for range 5 {
				one, _ := impl.InfoOf(smallFit(r, n, n, 2), n)
				two, _ := impl.InfoOf(drawnFit(r, k, k, 3), k)
				if n != k {
					got, ok := impl.AddInfo(one, two)
					checkInfo(t, "AddInfo of unlike numbers of variables", got, ok, impl.Info{}, false)
				}
				checkAdded(t, one, two)
			}
		}
	}
}

// sunken is the same mirrored, and all determinants are from 0 on but that of the variables of one mask, whose sign is that of more: among them 1 stands from corner to corner and one number elsewhere; all others have 0.
func sunken(t *testing.T, n int, mask int, more string) impl.Info {
	t.Helper()
	i, of := goodInfo(n), among(mask)
	for r := range n {
		for c := range n {
			i.M[r][c] = "0"
		}
	}
	for _, r := range of {
		for _, c := range of {
			if c != r {
				i.M[r][c] = impl.AddFrac(impl.FracOf(-1, len(of)-1), more)
			}
		}
		i.M[r][r] = "1"
	}
	if len(of) == 1 {
		i.M[of[0]][of[0]] = more
	}
	for r := range n {
		i.V[r] = "0"
	}
	return i
}

// Each set of variables decides, by its determinant alone: just below 0 the info is not good, from 0 on it is.
func TestInfosBySetsOfVariables(t *testing.T) {
	for n := 1; n <= mostVars; n++ {
		for mask := 1; mask < 1<<n; mask++ {
			for _, more := range []string{"1/5", "1/" + tenTo(300), "0", "-1/" + tenTo(300), "-1/1000000", "-1/10"} {
				i, want := sunken(t, n, mask, more), []int{}
				if more[0] == '-' {
					want = []int{mask}
				}
				if below := belowSets(ratRows(t, i.M)); !slices.Equal(below, want) {
					t.Fatalf("the test has no such info: %q, %v", i, below)
				}
				if _, ok := impl.SolveInfo(i); ok != (more[0] != '-') {
					t.Errorf("SolveInfo of %.300q: %v", i, ok)
				}
				if more[0] == '-' {
					checkNoInfo(t, i)
				}
				checkSolving(t, i)
				checkAdded(t, i, goodInfo(n))
			}
		}
	}
}

func TestInfosThatAreNotGoodByHand(t *testing.T) {
	for _, c := range []struct{ m, v string }{
		{"-1", "0"}, {"-1/2", "1"},
		// Not the same mirrored, though all determinants are from 0 on, and though M x = V has an answer.
		{"1 1 | 0 1", "1 1"}, {"1 0 | 1 1", "0 0"}, {"0 0 | 1 0", "0 0"}, {"0 1 | 0 0", "0 0"}, {"1 -1 | 1 1", "1 1"}, {"2 1 | 1/2 2", "0 0"},
		{"1 0 0 | 0 1 0 | 1 0 1", "1 1 1"}, {"1 0 1 | 0 1 0 | 0 0 1", "1 1 1"}, {"1 0 0 | 0 1 1 | 0 0 1", "1 1 1"}, {"1 0 0 | 0 1 0 | 0 1 1", "1 1 1"},
		{"1 0 0 1 | 0 1 0 0 | 0 0 1 0 | 0 0 0 1", "0 0 0 0"}, {"1 0 0 0 | 0 1 0 0 | 0 0 1 0 | 1 0 0 1", "0 0 0 0"},
		// A determinant below 0: of one variable, of two, of all.
		{"-1 0 | 0 1", "0 0"}, {"1 0 | 0 -1", "0 0"}, {"-1 0 | 0 -1", "0 0"}, {"0 0 | 0 -1", "0 0"},
		{"0 1 | 1 0", "0 0"}, {"0 1 | 1 5", "1 1"}, {"1 2 | 2 1", "0 0"}, {"1 2 | 2 3", "0 0"}, {"1 1 | 1 1/2", "1 1"},
		{"1 0 0 | 0 0 1 | 0 1 0", "0 0 0"}, {"1 1 0 | 1 1 1 | 0 1 1", "0 0 0"}, {"2 -2 1 | -2 2 1 | 1 1 2", "0 0 0"}, {"1 -2/3 -2/3 | -2/3 1 -2/3 | -2/3 -2/3 1", "0 0 0"},
		{"0 0 0 0 | 0 0 0 0 | 0 0 0 0 | 0 0 0 -1", "0 0 0 0"}, {"1 0 0 0 | 0 1 0 0 | 0 0 1 2 | 0 0 2 1", "0 0 0 0"}, {"0 0 0 1 | 0 0 0 0 | 0 0 0 0 | 1 0 0 0", "0 0 0 0"},
	} {
		for _, k := range []string{"0", "100", "-3"} {
			checkNoInfo(t, infoOf(c.m, c.v, k))
			checkSolving(t, infoOf(c.m, c.v, k))
		}
	}
}

// Of good infos V may be what M x never is: then there is nothing to solve, but to add.
func TestInfosWithoutAnAnswer(t *testing.T) {
	for _, c := range []struct{ m, v string }{
		{"0", "1"}, {"0", "-1/9"},
		{"0 0 | 0 0", "1 0"}, {"0 0 | 0 0", "0 1"}, {"1 0 | 0 0", "0 1"}, {"0 0 | 0 1", "1 0"}, {"1 1 | 1 1", "1 2"}, {"1 -1 | -1 1", "1 1"}, {"1 2 | 2 4", "1 1"},
		{"1 0 1 | 0 1 1 | 1 1 2", "1 1 1"}, {"1 0 0 | 0 0 0 | 0 0 1", "1 1 1"}, {"0 0 0 | 0 2 1 | 0 1 2", "1 0 0"},
		{"1 0 0 0 | 0 1 0 0 | 0 0 1 0 | 0 0 0 0", "1 1 1 1"}, {"1 1 1 1 | 1 1 1 1 | 1 1 1 1 | 1 1 1 1", "1 1 1 2"},
	} {
		i := infoOf(c.m, c.v, "10")
		a, ok := impl.SolveInfo(i)
		checkAnswer(t, "SolveInfo of "+c.m+" and "+c.v, a, ok, impl.Answer{}, false)
		checkSolving(t, i)
		checkAdded(t, i, goodInfo(len(i.V)))
		if sum, ok := impl.AddInfo(i, goodInfo(len(i.V))); len(sum.M) != len(i.M) || !ok {
			t.Errorf("AddInfo of %q: %q %v", i, sum, ok)
		}
	}
}

func TestSolvedInfosByHand(t *testing.T) {
	for _, c := range []struct {
		m, v, k string
		x, loss string
		loose   []int
	}{
		{"2", "4", "10", "2", "2", nil},
		{"2", "4", "8", "2", "0", nil},
		// C may be too small for any fit: Loss is below 0.
		{"2", "4", "0", "2", "-8", nil},
		{"2", "4", "-1/2", "2", "-17/2", nil},
		{"0", "0", "-3", "0", "-3", []int{0}},
		{"1/3", "1/2", "1", "3/2", "1/4", nil},
		{"2 1 | 1 2", "3 3", "7", "1 1", "1", nil},
		{"2 1 | 1 2", "4 5", "20", "1 2", "6", nil},
		{"0 0 | 0 2", "0 3", "5", "0 3/2", "1/2", []int{0}},
		{"2 0 | 0 0", "3 0", "5", "3/2 0", "1/2", []int{1}},
		{"1 2 | 2 4", "3 6", "9", "3 0", "0", []int{1}},
		{"1 0 1 | 0 1 1 | 1 1 2", "1 2 3", "5", "1 2 0", "0", []int{2}},
		{"1 1 0 | 1 1 0 | 0 0 3", "2 2 3", "9", "2 0 1", "2", []int{1}},
		{"0 0 0 | 0 0 0 | 0 0 5", "0 0 1", "1", "0 0 1/5", "4/5", []int{0, 1}},
		{"1 2 3 4 | 2 4 6 8 | 3 6 9 12 | 4 8 12 16", "5 10 15 20", "25", "5 0 0 0", "0", []int{1, 2, 3}},
		{"0 0 0 0 | 0 1 0 1 | 0 0 0 0 | 0 1 0 2", "0 1 0 3", "5", "0 -1 0 2", "0", []int{0, 2}},
	} {
		i := infoOf(c.m, c.v, c.k)
		want := impl.Answer{Kind: impl.FitOne, X: strings.Fields(c.x), Loss: c.loss, Loose: c.loose}
		if c.loose != nil {
			want.Kind = impl.FitMany
		}
		a, ok := impl.SolveInfo(i)
		checkAnswer(t, "SolveInfo of "+c.m+" and "+c.v, a, ok, want, true)
		checkSolving(t, i)
	}
}

// All that is the same mirrored, of small numbers, good or not.
func TestInfosOfSmallNumbers(t *testing.T) {
	eachTexts([]string{"0", "1", "-1", "2", "4"}, 3, func(l []string) {
		eachTexts([]string{"0", "1", "-2"}, 2, func(v []string) {
			checkSolving(t, impl.Info{M: [][]string{{l[0], l[1]}, {l[1], l[2]}}, V: v, C: "1"})
		})
	})
	eachTexts([]string{"0", "1", "-1"}, 6, func(l []string) {
		m := [][]string{{l[0], l[1], l[2]}, {l[1], l[3], l[4]}, {l[2], l[4], l[5]}}
		for _, v := range []string{"0 0 0", "1 1 0", "1 1 1", "0 1 -1"} {
			checkSolving(t, impl.Info{M: m, V: strings.Fields(v), C: "0"})
		}
	})
	eachTexts([]string{"0", "1"}, 4, func(l []string) {
		checkSolving(t, impl.Info{M: [][]string{l[:2], l[2:]}, V: []string{"0", "0"}, C: "0"})
	})
}

func TestDroppedInfosByHand(t *testing.T) {
	for _, c := range []struct{ m, v, k, lessM, lessV, lessK string }{
		{"2 1 | 1 2", "3 3", "7", "3/2", "3/2", "5/2"},
		{"2 0 | 0 2", "3 4", "9", "2", "3", "1"},
		{"1 1 | 1 1", "2 2", "4", "0", "0", "0"},
		{"0 0 | 0 1/2", "0 3", "5", "0", "0", "-13"},
		// Neither has an answer.
		{"0 0 | 0 1", "1 1", "1", "0", "1", "0"},
		{"1 1 | 1 1", "1 2", "9", "0", "-1", "5"},
		{"1 0 1 | 0 1 1 | 1 1 2", "1 2 3", "5", "1/2 -1/2 | -1/2 1/2", "-1/2 1/2", "1/2"},
		{"3 1 1 | 1 3 1 | 1 1 3", "1 2 3", "10", "8/3 2/3 | 2/3 8/3", "0 1", "7"},
		{"1 0 0 0 | 0 1 0 0 | 0 0 1 0 | 0 0 0 1", "1 2 3 4", "30", "1 0 0 | 0 1 0 | 0 0 1", "1 2 3", "14"},
		{"1 2 3 4 | 2 4 6 8 | 3 6 9 12 | 4 8 12 16", "5 10 15 20", "25", "0 0 0 | 0 0 0 | 0 0 0", "0 0 0", "0"},
	} {
		i := infoOf(c.m, c.v, c.k)
		got, ok := impl.DropLast(i)
		checkInfo(t, "DropLast of "+c.m+" and "+c.v, got, ok, infoOf(c.lessM, c.lessV, c.lessK), true)
		checkSolving(t, i)
	}
}

// One variable is not enough, and d must be above 0.
func TestInfosThatCannotDropTheLast(t *testing.T) {
	for _, i := range []impl.Info{infoOf("1", "1", "1"), infoOf("0", "0", "0"), infoOf("7/2", "1", "-1"), goodInfo(1),
		infoOf("1 0 | 0 0", "1 0", "1"), infoOf("0 0 | 0 0", "0 0", "0"), infoOf("1 0 | 0 0", "1 1", "1"),
		infoOf("2 1 0 | 1 2 0 | 0 0 0", "1 1 0", "1"), infoOf("1 0 0 0 | 0 1 0 0 | 0 0 1 0 | 0 0 0 0", "1 1 1 0", "9")} {
		got, ok := impl.DropLast(i)
		checkInfo(t, fmt.Sprintf("DropLast of %q", i), got, ok, impl.Info{}, false)
		checkSolving(t, i)
	}
}

// Behind DropLast the others have the same answer, and the loss is the same: variable by variable, down to one.
func TestDroppedInfosOfDrawnFits(t *testing.T) {
	r := rand.New(rand.NewSource(134))
	for vars := 2; vars <= mostVars; vars++ {
		for mask := range 1 << (vars - 1) {
			for rows := vars; rows <= mostRows; rows += 3 {
				i, _ := impl.InfoOf(leaning(t, r, rows, vars, mask), vars)
				a, _ := impl.SolveInfo(i)
				for n := vars - 1; n > 0 && !slices.Contains(a.Loose, n); n-- {
					less, ok := impl.DropLast(i)
					b, okToo := impl.SolveInfo(less)
					if !ok || !okToo || !slices.Equal(b.X, a.X[:n]) || b.Loss != a.Loss || !slices.Equal(b.Loose, a.Loose) || b.Kind != a.Kind {
						t.Fatalf("DropLast of %q: %v is left of %v", i, b, a)
					}
					checkSolving(t, i)
					i, a = less, b
				}
			}
		}
	}
}
