package tests

import (
	"math"
	"math/rand"
	"slices"
	"strings"
	"testing"

	"loop.example/g00047/impl"
)

func TestLossesByHand(t *testing.T) {
	for _, c := range []struct {
		rows, right, weights, x, want string
	}{
		{"1", "3", "1", "3", "0"},
		{"1", "3", "1", "1", "4"},
		{"1", "3", "1", "5", "4"},
		{"1", "3", "5", "1", "20"},
		{"1", "3", "1/5", "1", "4/5"},
		{"2", "3", "1", "1", "1"},
		{"2", "3", "1", "3/2", "0"},
		{"0", "3", "1", "7", "9"},
		{"1/2", "-1/3", "6", "1", "25/6"},
		{"1 | 1", "1 3", "1 1", "2", "2"},
		{"1 | 1", "1 3", "1 3", "2", "4"},
		{"1 | 1", "1 3", "3 1", "1", "4"},
		{"1 1", "4", "1", "4 0", "0"},
		{"1 1", "4", "1", "1 1", "4"},
		{"1 -1", "4", "1", "1 1", "16"},
		{"1 2 | 3 4", "0 0", "1 1", "1 -1", "2"},
		{"1 2 3 4 | 0 0 0 1", "30 0", "1 2", "1 2 3 4", "32"},
		// Without rows nothing is lost.
		{"", "", "", "7", "0"},
		{"", "", "", "1 2 3 4", "0"},
	} {
		f := fitOf(c.rows, c.right, c.weights)
		if got, ok := impl.LossOf(f, strings.Fields(c.x)); got != c.want || !ok {
			t.Errorf("LossOf of %q, %s: got %q %v, want %s", f, c.x, got, ok, c.want)
		}
		checkLoss(t, f, strings.Fields(c.x))
	}
}

func TestLossesOfDrawnFits(t *testing.T) {
	r := rand.New(rand.NewSource(124))
	for vars := 1; vars <= mostVars; vars++ {
		for rows := range mostRows + 1 {
			for _, digits := range []int{1, 3, 20} {
				f := drawnFit(r, rows, vars, digits)
				checkLoss(t, f, drawnTexts(r, vars, digits))
				checkLoss(t, smallFit(r, rows, vars, 2), smallTexts(r, vars, -2, 2))
			}
		}
	}
}

// Fits of every number of rows and variables, met exactly and gone beyond.
func TestHowManyRowsAndVariables(t *testing.T) {
	for vars := range mostVars + 3 {
		for rows := range mostRows + 3 {
			f := impl.Fit{Right: slices.Repeat([]string{"2"}, rows), Weights: slices.Repeat([]string{"1/3"}, rows)}
			for i := range rows {
				f.Rows = append(f.Rows, slices.Repeat([]string{"1"}, vars))
				if vars > 0 {
					f.Rows[i][i%vars] = "3"
				}
			}
			want := vars >= 1 && vars <= mostVars && rows <= mostRows
			if impl.GoodFit(f, vars) != want {
				t.Errorf("GoodFit of %d rows of %d: %v", rows, vars, !want)
			}
			checkFit(t, f, vars)
			checkLoss(t, f, slices.Repeat([]string{"1"}, vars))
			if !want {
				checkNoFit(t, f, vars)
			}
			for _, other := range []int{-1, vars - 1, vars + 1, mostVars + 1, math.MaxInt, math.MinInt} {
				if rows > 0 || other < 1 || other > mostVars {
					checkNoFit(t, f, other)
				}
			}
		}
	}
}

// Without rows a fit is good for any number of variables: all of them are loose, and 0.
func TestFitsWithoutRows(t *testing.T) {
	for _, f := range []impl.Fit{{}, {Rows: [][]string{}, Right: []string{}, Weights: []string{}}} {
		for vars := 1; vars <= mostVars; vars++ {
			noughts := slices.Repeat([]string{"0"}, vars)
			if !impl.GoodFit(f, vars) {
				t.Errorf("GoodFit of no rows, %d", vars)
			}
			if s, ok := impl.LossOf(f, noughts); s != "0" || !ok {
				t.Errorf("LossOf of no rows: %q %v", s, ok)
			}
			a, ok := impl.SolveFit(f, vars)
			checkAnswer(t, "SolveFit of no rows", a, ok, impl.Answer{Kind: impl.FitMany, X: noughts, Loss: "0", Loose: []int{0, 1, 2, 3}[:vars]}, true)
			i, ok := impl.InfoOf(f, vars)
			checkInfo(t, "InfoOf of no rows", i, ok, impl.Info{M: slices.Repeat([][]string{noughts}, vars), V: noughts, C: "0"}, true)
			checkSolving(t, i)
			checkAdded(t, i, goodInfo(vars))
		}
		for _, vars := range []int{0, -1, -4, mostVars + 1, mostVars + 2, 100, math.MaxInt, math.MinInt} {
			checkNoFit(t, f, vars)
		}
		checkNoLoss(t, f, nil)
		checkNoLoss(t, f, []string{})
		checkNoLoss(t, f, slices.Repeat([]string{"0"}, mostVars+1))
		checkNoLoss(t, f, slices.Repeat([]string{"0"}, 1000))
	}
}

func TestWeightsFromNoughtDown(t *testing.T) {
	for rows := 1; rows <= mostRows; rows++ {
		for at := range rows {
			for _, s := range []string{"0", "-1", "-1/2", "-1/" + nines(400), "-" + nines(400)} {
				f := smallFit(rand.New(rand.NewSource(125)), rows, 2, 2)
				f.Weights[at] = s
				checkNoFit(t, f, 2)
				checkFit(t, f, 2)
			}
			for _, s := range []string{"1/" + nines(300), nines(300)} {
				f := smallFit(rand.New(rand.NewSource(125)), rows, 2, 2)
				f.Weights[at] = s
				if !impl.GoodFit(f, 2) {
					t.Errorf("GoodFit with a weight of %.20s", s)
				}
			}
		}
	}
}

// LossOf of numbers that are not as many as the variables: there is no such fit.
func TestLossesOfOtherNumbers(t *testing.T) {
	for vars := 1; vars <= mostVars; vars++ {
		for rows := 1; rows <= mostRows; rows++ {
			f := smallFit(rand.New(rand.NewSource(126)), rows, vars, 2)
			for n := range mostVars + 3 {
				if n != vars {
					checkNoLoss(t, f, slices.Repeat([]string{"1"}, n))
				}
				checkLoss(t, f, slices.Repeat([]string{"1"}, n))
			}
			checkNoLoss(t, f, nil)
		}
	}
}
