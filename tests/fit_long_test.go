package tests

import (
	"math/big"
	"math/rand"
	"slices"
	"testing"

	"loop.example/g00047/impl"
)

// Losses of 400 digits are told, of 401 not; what comes up on the way may be longer.
func TestLongLosses(t *testing.T) {
	long := nines(400)
	for _, c := range []struct {
		rows, right, weights, x string
		want                    string
	}{
		{"1", "0", "1", tenTo(199), tenTo(398)},
		{"1", "0", "10", tenTo(199), tenTo(399)},
		{"1", "0", "100", tenTo(199), ""},
		{"1", "0", "1", tenTo(200), ""},
		{"1", "0", "1", "1/" + tenTo(199), "1/" + tenTo(398)},
		{"1", "0", "1/10", "1/" + tenTo(199), "1/" + tenTo(399)},
		{"1", "0", "1", "1/" + tenTo(200), ""},
		{"1", long, "1", long, "0"},
		{"1", "-" + long, "1", long, ""},
		{"1", "0", "1/" + tenTo(399), tenTo(399), tenTo(399)},
		{tenTo(399), "1", "1", "1/" + tenTo(399), "0"},
		{long, "1", "1", "1/" + long, "0"},
		{long, "0", "1", "1/" + long, "1"},
		{long + " -" + long, "0", "1", long + " " + long, "0"},
		{long + " -" + long, "3", "1", long + " " + long, "9"},
		{"1 | 1", "0 1", "1 1", "1/2", "1/2"},
		{"1 | 1", "0 0", "1/" + nines(300) + " 1/" + tenTo(200), "1", ""},
	} {
		f := fitOf(c.rows, c.right, c.weights)
		x := square(c.x)[0]
		if got, ok := impl.LossOf(f, x); got != c.want || ok != (c.want != "") {
			t.Errorf("LossOf of %.200q, %.100q: got %.100q %v, want %.100q", f, x, got, ok, c.want)
		}
		checkLoss(t, f, x)
	}
}

// The sums are on the point of being too long, M, V and C each alone, and SolveFit is SolveInfo of InfoOf: where there is no such info there is no answer.
func TestLongInfosOfFits(t *testing.T) {
	for _, c := range []struct {
		rows, right, weights string
		vars                 int
		fine, solved         bool
	}{
		{nines(200), "0", "1", 1, true, true},
		{tenTo(200), "0", "1", 1, false, false},
		{"0", nines(200), "1", 1, true, true},
		{"0", tenTo(200), "1", 1, false, false},
		{"1", nines(200), "1", 1, true, true},
		{"1", tenTo(200), "1", 1, false, false},
		{"1/" + nines(200), "1", "1", 1, true, true},
		{"1/" + tenTo(200), "1", "1", 1, false, false},
		{"1", "1/" + tenTo(200), "1", 1, false, false},
		{tenTo(300), tenTo(300), "1/" + tenTo(300), 1, true, true},
		{nines(400), nines(400), "1/" + nines(400), 1, true, true},
		{"1", "1", nines(400), 1, true, true},
		{"1", "1", "1/" + nines(400), 1, true, true},
		{"1 | 1", "0 0", nines(400) + " 1", 1, false, false},
		{"1 | 1", "0 0", nines(399) + "8 1", 1, true, true},
		{tenTo(199) + " 1", "1", "1", 2, true, true},
		{"1 " + tenTo(200), "1", "1", 2, false, false},
		{"1/" + nines(200), nines(200), "1", 1, true, true},
		// Here X is too long, M, V and C are not.
		{"1/3 | 1/" + tenTo(150), "1/" + tenTo(150) + " 1/7", "1 1", 1, true, false},
	} {
		f := fitOf(c.rows, c.right, c.weights)
		if _, ok := impl.InfoOf(f, c.vars); ok != c.fine {
			t.Errorf("InfoOf of %.200q: %v", f, ok)
		}
		if _, ok := impl.SolveFit(f, c.vars); ok != c.solved {
			t.Errorf("SolveFit of %.200q: %v", f, ok)
		}
		if !impl.GoodFit(f, c.vars) {
			t.Errorf("GoodFit of %.200q", f)
		}
		checkFit(t, f, c.vars)
	}
}

// aslant are two numbers whose squares add up to 1, with lower numbers of some 2 n digits.
func aslant(n int) []string {
	half := new(big.Rat).SetFrac(big.NewInt(1), new(big.Int).Exp(big.NewInt(10), big.NewInt(int64(n)), nil))
	length := plus(whole(1), times(half, half))
	return []string{textOf(quotient(minus(whole(1), times(half, half)), length)), textOf(quotient(times(whole(2), half), length))}
}

// Only V is too long: M and C are 1.
func TestLongRightSidesOfInfos(t *testing.T) {
	for n := 150; n <= 170; n++ {
		a, b := aslant(n), aslant(n/4)
		f := impl.Fit{Rows: [][]string{a[:1], a[1:]}, Right: b, Weights: []string{"1", "1"}}
		want := textOf(plus(times(rat(t, a[0]), rat(t, b[0])), times(rat(t, a[1]), rat(t, b[1]))))
		i, ok := impl.InfoOf(f, 1)
		if ok != (want != "") || ok && (i.V[0] != want || i.M[0][0] != "1" || i.C != "1") {
			t.Errorf("InfoOf of aslant numbers, %d: %.100q %v", n, i, ok)
		}
		if n == 150 && !ok || n == 170 && ok {
			t.Errorf("the test is of no use at %d: %v", n, ok)
		}
		checkFit(t, f, 1)
	}
}

// M, V and C each alone go beyond by a sum, or just not.
func TestLongAddedInfos(t *testing.T) {
	long, less := nines(400), nines(399)+"8"
	for n := 1; n <= mostVars; n++ {
		for _, c := range []struct {
			a, b string
			fine bool
		}{{long, "1", false}, {less, "1", true}, {long, "1/2", false}, {"1/" + long, "1/2", false}, {"1/" + tenTo(399), "1/" + tenTo(399), true}, {"1/" + nines(201), "1/" + tenTo(200), false}, {"1/" + nines(200), "1/" + tenTo(200), true}} {
			for at := range n {
				a, b := sunken(t, n, 0, "0"), sunken(t, n, 0, "0")
				a.M[at][at], b.M[at][at] = c.a, c.b
				checkLongSum(t, a, b, c.fine)
				a, b = sunken(t, n, 0, "0"), sunken(t, n, 0, "0")
				a.V[at], b.V[at] = c.a, c.b
				checkLongSum(t, a, b, c.fine)
				a.V[at], b.V[at] = impl.SubFrac("0", c.a), impl.SubFrac("0", c.b)
				checkLongSum(t, a, b, c.fine)
			}
			a, b := sunken(t, n, 0, "0"), sunken(t, n, 0, "0")
			a.C, b.C = c.a, c.b
			checkLongSum(t, a, b, c.fine)
			a, b = goodInfo(n), goodInfo(n)
			for r := range n {
				a.M[r] = slices.Repeat([]string{c.a}, n)
				b.M[r] = slices.Repeat([]string{c.b}, n)
			}
			checkLongSum(t, a, b, c.fine)
		}
	}
}

func checkLongSum(t *testing.T, a impl.Info, b impl.Info, fine bool) {
	t.Helper()
	if _, ok := impl.AddInfo(a, b); ok != fine {
		t.Errorf("AddInfo of %.200q, %.200q: %v", a, b, ok)
	}
	checkAdded(t, a, b)
}

func TestLongAnswersOfInfos(t *testing.T) {
	long := nines(400)
	for _, c := range []struct {
		i    impl.Info
		want bool
	}{
		{infoOf("1", nines(200), "0"), true},
		// Loss is too long, X is not.
		{infoOf("1", tenTo(200), "0"), false},
		{infoOf("1", tenTo(199), "1/"+tenTo(300)), false},
		{infoOf("1", "1", "-"+long), false},
		{infoOf("1", "1", "-"+nines(399)+"8"), true},
		{infoOf("1", "1", long), true},
		// X is too long, and Loss as well.
		{infoOf("1/10", tenTo(399), "0"), false},
		{infoOf("10", "1/"+tenTo(399), "0"), false},
		{infoOf("1/"+long, long, "0"), false},
		// X is too long, Loss is not: it is -100, or -81.
		{infoOf(tenTo(398)+"1 1 | 1 1/"+tenTo(399), "10 0", "0"), false},
		{infoOf(tenTo(398)+"1 1 | 1 1/"+tenTo(399), "9 0", "0"), true},
		// On the way alone.
		{infoOf(long, long, long), true},
		{infoOf(long+" 0 | 0 "+long, long+" "+long, "0"), false},
		{infoOf(long+" 0 | 0 "+long, long+" -"+long, long), true},
		{infoOf(long+" "+long+" | "+long+" "+long, long+" "+long, long), true},
		{infoOf("1/"+long+" 0 | 0 1/"+long, "1/"+long+" 2/"+long, "5/"+long), true},
		{infoOf(long+" 1 | 1 1/"+long, long+" 1", long), true},
		{infoOf(long+" 1 | 1 1/"+nines(399)+"8", "0 0", "7"), true},
		// The determinant is just below 0.
		{infoOf(long+" 1 | 1 1/"+tenTo(399), "0 0", "7"), true},
		{infoOf(tenTo(399)+" 1 | 1 1/"+long, "0 0", "7"), false},
		{infoOf(nines(399)+" 1 | 1 1/"+tenTo(399), "0 0", "7"), false},
	} {
		if _, ok := impl.SolveInfo(c.i); ok != c.want {
			t.Errorf("SolveInfo of %.300q: %v", c.i, ok)
		}
		checkSolving(t, c.i)
	}
}

// M, V and C each alone go beyond when the last one is dropped, or just not.
func TestLongDroppedInfos(t *testing.T) {
	long, less := nines(400), nines(399)+"8"
	for _, c := range []struct {
		i    impl.Info
		want bool
	}{
		{infoOf(long+"/2 1 | 1 3", "0 0", "0"), false},
		{infoOf("1 1/"+tenTo(200)+" | 1/"+tenTo(200)+" 1", "0 0", "0"), false},
		{infoOf("1 1/"+tenTo(199)+" | 1/"+tenTo(199)+" 1", "0 0", "0"), true},
		{infoOf("1 1 | 1 1", "-"+long+" 1", "1"), false},
		{infoOf("1 1 | 1 1", "-"+less+" 1", "1"), true},
		{infoOf("1 1 | 1 2", "1/"+long+" 1", "1"), false},
		{infoOf("1 1 | 1 1", "1 1", "-"+long), false},
		{infoOf("1 1 | 1 1", "1 1", "-"+less), true},
		{infoOf("1 0 | 0 1", "1 "+tenTo(200), "0"), false},
		{infoOf("1 0 | 0 1", "1 "+nines(200), "0"), true},
		// On the way alone.
		{infoOf(long+" "+long+" | "+long+" "+long, long+" "+long, long), true},
		{infoOf(long+" "+less+" | "+less+" "+long, "0 0", "0"), false},
		{infoOf("2 1 | 1 1/"+nines(390), "1 1/"+nines(390), "1/"+nines(390)), false},
		{infoOf(long+" 1 | 1 1/"+long, "1 1/"+long, "1/"+long), true},
		{infoOf("1 0 | 0 "+long, "1 "+long, long), true},
		{infoOf("1 0 | 0 "+long, "1 1", long), false},
	} {
		if _, ok := impl.DropLast(c.i); ok != c.want {
			t.Errorf("DropLast of %.300q: %v", c.i, ok)
		}
		checkSolving(t, c.i)
	}
}

// The answer of a fit stays if all of it is so many times as great: M, V and C are far beyond what is told then, by way of the weights they are not.
func TestFitsThatAreLongOnTheWay(t *testing.T) {
	for _, by := range []string{nines(180), "1/" + nines(180), tenTo(170) + "/" + nines(170)} {
		square := impl.MulFrac(by, by)
		for _, c := range fitCases() {
			f := fitOf(c.rows, c.right, c.weights)
			vars := len(f.Rows[0])
			want, _ := impl.SolveFit(f, vars)
			f.Rows, f.Right = scaled(t, f.Rows, by), scaled(t, [][]string{f.Right}, by)[0]
			want.Loss = impl.MulFrac(want.Loss, square)
			got, ok := impl.SolveFit(f, vars)
			checkAnswer(t, "SolveFit of what is so many times as great", got, ok, want, true)
			checkFit(t, f, vars)
			f.Weights = scaled(t, [][]string{f.Weights}, impl.DivFrac("1", square))[0]
			want.Loss = impl.DivFrac(want.Loss, square)
			got, ok = impl.SolveFit(f, vars)
			checkAnswer(t, "SolveFit of lesser weights", got, ok, want, true)
			checkFit(t, f, vars)
		}
	}
}

// All numbers as long as they may be.
func TestFitsOfTheLongestNumbers(t *testing.T) {
	r := rand.New(rand.NewSource(135))
	for vars := 1; vars <= mostVars; vars++ {
		f, x := impl.Fit{}, []string{}
		for range mostRows {
			f.Rows = append(f.Rows, nil)
			for range vars {
				f.Rows[len(f.Rows)-1] = append(f.Rows[len(f.Rows)-1], longFrac(r))
			}
			f.Right, f.Weights = append(f.Right, longFrac(r)), append(f.Weights, "1/"+nines(400))
		}
		for range vars {
			x = append(x, longFrac(r))
		}
		checkFit(t, f, vars)
		checkLoss(t, f, x)
		i := impl.Info{M: make([][]string, vars), V: x, C: longFrac(r)}
		for k := range i.M {
			i.M[k] = make([]string, vars)
		}
		for k := range vars {
			for l := range k {
				i.M[k][l] = longFrac(r)
				i.M[l][k] = i.M[k][l]
			}
			i.M[k][k] = nines(400)
		}
		checkSolving(t, i)
		checkAdded(t, i, i)
		i.M[vars-1][vars-1] = longFrac(r)
		checkSolving(t, i)
	}
}
