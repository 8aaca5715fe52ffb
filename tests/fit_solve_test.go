package tests

import (
	"math/big"
	"math/rand"
	"slices"
	"strings"
	"testing"

	"loop.example/g00047/impl"
)

type fitCase struct {
	rows, right, weights string
	x, loss              string
	loose                []int
}

func fitCases() []fitCase {
	return []fitCase{
		{"1 | 1", "1 3", "1 1", "2", "2", nil},
		{"1 | 1", "1 3", "1 3", "5/2", "3", nil},
		{"1 | 1", "1 3", "1/2 3/2", "5/2", "3/2", nil},
		{"2", "3", "5", "3/2", "0", nil},
		{"1 | 2 | 3", "2 4 6", "1 1 1", "2", "0", nil},
		{"1 | 2 | 3", "0 0 14", "1 1 1", "3", "70", nil},
		{"-1/2", "1/3", "1/7", "-2/3", "0", nil},
		// A line through points, exactly, and by the way.
		{"1 0 | 1 1 | 1 2", "1 3 5", "1 1 1", "1 2", "0", nil},
		{"1 0 | 1 1 | 1 2", "0 0 3", "1 1 1", "-1/2 3/2", "3/2", nil},
		{"1 0 | 1 1 | 1 2", "0 0 3", "1 2 1", "-3/4 3/2", "9/4", nil},
		{"1 0 0 | 0 1 0 | 0 0 1", "1 2 3", "1 1 1", "1 2 3", "0", nil},
		{"0 0 1 | 1 0 0 | 0 1 0", "1 2 3", "1 1 1", "2 3 1", "0", nil},
		{"1 0 0 0 | 0 1 0 0 | 0 0 1 0 | 0 0 0 1 | 1 1 1 1", "0 0 0 0 5", "1 1 1 1 1", "1 1 1 1", "5", nil},
		{"1 1 1 1 | 0 1 1 1 | 0 0 1 1 | 0 0 0 1", "10 9 7 4", "1 2 3 4", "1 2 3 4", "0", nil},
		// More variables than rows.
		{"1 1", "4", "1", "4 0", "0", []int{1}},
		{"0 2", "4", "1", "0 2", "0", []int{0}},
		{"0 1 0 2", "4", "3", "0 4 0 0", "0", []int{0, 2, 3}},
		{"1 2 3 4", "5", "1/3", "5 0 0 0", "0", []int{1, 2, 3}},
		{"1 2 0 1 | 0 0 1 1", "3 4", "1 1", "3 0 4 0", "0", []int{1, 3}},
		// Columns of 0, the first one, one between, the last one.
		{"0 1 | 0 2", "1 2", "1 1", "0 1", "0", []int{0}},
		{"0 1 | 0 1", "1 3", "1 1", "0 2", "2", []int{0}},
		{"1 0 2 | 1 0 3", "1 3", "1 1", "-3 0 2", "0", []int{1}},
		{"1 0 | 1 0", "1 3", "1 1", "2 0", "2", []int{1}},
		{"0 1 0 0 | 0 0 0 1", "1 3", "1 1", "0 1 0 3", "0", []int{0, 2}},
		{"0 0 0 1 | 0 0 0 1", "1 3", "1 1", "0 0 0 2", "2", []int{0, 1, 2}},
		// All loose.
		{"0", "3", "2", "0", "18", []int{0}},
		{"0 0 | 0 0", "1 2", "1 1", "0 0", "5", []int{0, 1}},
		{"0 0 0 0", "0", "1", "0 0 0 0", "0", []int{0, 1, 2, 3}},
		// Alike, multiples, sums.
		{"1 1 | 2 2", "1 2", "1 1", "1 0", "0", []int{1}},
		{"1 -1 | 2 -2", "1 2", "1 1", "1 0", "0", []int{1}},
		{"1 1/3 | 2 2/3", "1 3", "1 1", "7/5 0", "1/5", []int{1}},
		{"1 0 1 | 0 1 1 | 1 1 2", "1 2 3", "1 1 1", "1 2 0", "0", []int{2}},
		{"1 0 5 | 0 1 -7 | 0 0 0", "1 2 3", "1 1 1", "1 2 0", "9", []int{2}},
		{"1 2 0 | 1 2 1", "1 2", "1 1", "1 0 1", "0", []int{1}},
		{"1 2 3 4 | 2 4 6 8", "1 2", "1 1", "1 0 0 0", "0", []int{1, 2, 3}},
		{"0 1 2 0 | 0 0 0 1 | 0 1 2 1", "1 1 2", "1 1 1", "0 1 0 1", "0", []int{0, 2}},
		{"1 0 1 0 | 0 1 1 0 | 0 0 0 1", "1 2 3", "1 1 1", "1 2 0 3", "0", []int{2}},
		{"1 0 1 1 | 0 1 1 -1 | 1 1 2 0", "1 2 3", "1 1 1", "1 2 0 0", "0", []int{2, 3}},
	}
}

func TestFitsByHand(t *testing.T) {
	for _, c := range fitCases() {
		f, vars := fitOf(c.rows, c.right, c.weights), len(strings.Fields(c.x))
		want := impl.Answer{Kind: impl.FitOne, X: strings.Fields(c.x), Loss: c.loss, Loose: c.loose}
		if c.loose != nil {
			want.Kind = impl.FitMany
		}
		a, ok := impl.SolveFit(f, vars)
		checkAnswer(t, "SolveFit of "+c.rows+", "+c.right+", "+c.weights, a, ok, want, true)
		checkFit(t, f, vars)
		i, _ := impl.InfoOf(f, vars)
		checkSolving(t, i)
	}
}

func TestKindsOfFits(t *testing.T) {
	if impl.FitOne != 1 || impl.FitMany != 2 || impl.MaxRows != mostRows || impl.MaxVars != mostVars {
		t.Error("another constant")
	}
}

func TestFitsOfSmallNumbers(t *testing.T) {
	of := []string{"0", "1", "-1"}
	eachTexts(of, 6, func(l []string) {
		checkFit(t, impl.Fit{Rows: [][]string{l[:2], l[2:4]}, Right: l[4:], Weights: []string{"1", "2"}}, 2)
	})
	eachTexts([]string{"0", "1", "2"}, 4, func(l []string) {
		checkFit(t, impl.Fit{Rows: [][]string{l[:3]}, Right: l[3:], Weights: []string{"1/2"}}, 3)
	})
}

func TestDrawnFits(t *testing.T) {
	r := rand.New(rand.NewSource(127))
	for vars := 1; vars <= mostVars; vars++ {
		for rows := range mostRows + 1 {
			for range 4 {
				checkFit(t, smallFit(r, rows, vars, 1), vars)
				checkFit(t, smallFit(r, rows, vars, 3), vars)
			}
			checkFit(t, drawnFit(r, rows, vars, 2), vars)
			checkFit(t, drawnFit(r, rows, vars, 6), vars)
		}
	}
}

// leaning is a fit in which just the variables of the mask are loose: each of their columns is a sum of multiples of those ahead that are not, the others are drawn.
func leaning(t *testing.T, r *rand.Rand, rows int, vars int, mask int) impl.Fit {
	t.Helper()
	f := smallFit(r, rows, vars, 3)
	for c := range vars {
		if mask&(1<<c) == 0 {
			continue
		}
		for i := range f.Rows {
			f.Rows[i][c] = "0"
		}
		for ahead := range c {
			by := big.NewRat(r.Int63n(5)-2, 1+r.Int63n(2))
			for i, row := range f.Rows {
				if mask&(1<<ahead) == 0 {
					f.Rows[i][c] = textOf(plus(rat(t, row[c]), times(by, rat(t, row[ahead]))))
				}
			}
		}
	}
	return f
}

// Every set of loose variables comes up.
func TestFitsWithLooseVariables(t *testing.T) {
	r := rand.New(rand.NewSource(128))
	for vars := 1; vars <= mostVars; vars++ {
		for mask := range 1 << vars {
			met := 0
			for range 8 {
				f := leaning(t, r, 5, vars, mask)
				checkFit(t, f, vars)
				i, _ := impl.InfoOf(f, vars)
				checkSolving(t, i)
				if a, ok := impl.SolveFit(f, vars); ok && slices.Equal(a.Loose, among(mask)) {
					met++
				}
			}
			if met < 4 {
				t.Errorf("%d variables, of which %v are loose, came up %d times", vars, among(mask), met)
			}
		}
	}
}

// Fits whose right side comes of numbers miss by 0, whatever the weights are.
func TestFitsThatMissByNothing(t *testing.T) {
	r := rand.New(rand.NewSource(129))
	for vars := 1; vars <= mostVars; vars++ {
		for rows := range mostRows + 1 {
			for _, f := range []impl.Fit{smallFit(r, rows, vars, 2), smallFit(r, rows, vars, 9), drawnFit(r, rows, vars, 2)} {
				x := ratList(t, drawnTexts(r, vars, 2))
				for i, row := range ratRows(t, f.Rows) {
					f.Right[i] = textOf(product(row, x))
				}
				if a, ok := impl.SolveFit(f, vars); a.Loss != "0" || !ok || a.Kind == impl.FitOne && !sameRats(ratList(t, a.X), x) {
					t.Errorf("SolveFit of %q: %v %v, want %v", f, a, ok, x)
				}
				checkFit(t, f, vars)
			}
		}
	}
}

// The answer hangs neither on the order of the rows nor on a factor of all weights; the loss is so many times as great.
func TestFitsInAnotherOrder(t *testing.T) {
	r := rand.New(rand.NewSource(130))
	for vars := 1; vars <= mostVars; vars++ {
		for range 20 {
			f := drawnFit(r, 1+r.Intn(mostRows), vars, 2)
			want, fine := impl.SolveFit(f, vars)
			g := impl.Fit{}
			for _, i := range r.Perm(len(f.Rows)) {
				g.Rows, g.Right, g.Weights = append(g.Rows, f.Rows[i]), append(g.Right, f.Right[i]), append(g.Weights, impl.MulFrac(f.Weights[i], "7/3"))
			}
			want.Loss = impl.MulFrac(want.Loss, "7/3")
			got, ok := impl.SolveFit(g, vars)
			checkAnswer(t, "SolveFit in another order", got, ok, want, fine)
		}
	}
}
