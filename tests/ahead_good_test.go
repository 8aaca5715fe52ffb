package tests

import (
	"math/rand"
	"slices"
	"testing"

	"loop.example/g00047/impl"
)

func TestGoodQuad(t *testing.T) {
	long, tiny := nines(400), "1/"+nines(400)
	for _, c := range []struct {
		q    impl.Quad
		want bool
	}{
		{quadOf("1", "0", "", ""), true},
		{quadOf("1/9", "-7/5", "", ""), true},
		{quadOf(tiny, long, tiny+" | -"+long, "-"+long+" "+tiny), true},
		{quadOf("0", "0", "", ""), false},
		{quadOf("-1", "0", "", ""), false},
		{quadOf("-"+tiny, "0", "", ""), false},
		{quadOf("1", "0", "1", "0"), true},
		{quadOf("1", "0", "0", "-1"), true},
		{quadOf("1", "0", "1 | -1", "0 -1"), true},
		{quadOf("1", "0", "1 | 1 | 1 | 1 | 1", "1 1 1 1 1"), true},
		{quadOf("1", "0", "1 | 1 | 1 | 1 | 1 | 1", "1 1 1 1 1 1"), false},
		{quadOf("1", "0", "1", ""), false},
		{quadOf("1", "0", "", "1"), false},
		{quadOf("1", "0", "1 | 2", "1"), false},
		{quadOf("1", "0", "1", "1 2"), false},
		{quadOf("1", "0 0", "", ""), false},
		{quadOf("1", "", "", ""), false},
		{quadOf("1", "0", "1 2", "1"), false},
		{quadOf("2 1 | 1 2", "3 4", "5 6", "7"), true},
		{quadOf("2 1 | 1 2", "3 4", "5", "7"), false},
		{quadOf("2 1 | 1 2", "3 4", "5 6 7", "7"), false},
		{quadOf("2 1 | 1 2", "3", "5 6", "7"), false},
		{quadOf("2 1 | 1 2", "3 4 5", "5 6", "7"), false},
		// Firm, but not the same mirrored.
		{quadOf("2 1 | 0 2", "3 4", "", ""), false},
		{quadOf("1 -5 | 3 1", "3 4", "", ""), false},
		{quadOf("2 1/2 | 1/3 2", "3 4", "", ""), false},
		// The same mirrored, but not firm.
		{quadOf("1 1 | 1 1", "3 4", "", ""), false},
		{quadOf("1 2 | 2 1", "3 4", "", ""), false},
		{quadOf("0 0 | 0 1", "3 4", "", ""), false},
		{quadOf("-1 0 | 0 -1", "3 4", "", ""), false},
		{quadOf("0 1 | 1 0", "3 4", "", ""), false},
		{quadOf("2 -1 -1 | -1 2 -1 | -1 -1 2", "0 0 0", "", ""), false},
		{quadOf("2 -1 0 | -1 2 -1 | 0 -1 2", "0 0 0", "", ""), true},
		// All sets of one and of two are well, all three are not.
		{quadOf("1 -3/4 -3/4 | -3/4 1 -3/4 | -3/4 -3/4 1", "0 0 0", "", ""), false},
		{quadOf("1 3/4 3/4 | 3/4 1 3/4 | 3/4 3/4 1", "0 0 0", "1 2 3", "4"), true},
		{quadOf("1 0 0 0 | 0 1 0 0 | 0 0 1 0 | 0 0 0 1", "0 0 0 0", "", ""), false},
		{impl.Quad{}, false},
	} {
		if impl.GoodQuad(c.q) != c.want {
			t.Errorf("GoodQuad of %.300v: %v", c.q, !c.want)
		}
		checkQuad(t, c.q)
		if !c.want {
			n := len(c.q.H)
			checkNoQuad(t, c.q, slices.Repeat([]string{"0"}, n), bestOf("0", "0", "0"))
		}
	}
	if impl.MaxLimits != mostLimits || impl.BestFound != 1 || impl.BestNone != 2 {
		t.Error("other constants:", impl.MaxLimits, impl.BestFound, impl.BestNone)
	}
}

// n is from 1 to 3, with all else as many.
func TestHowManyNumbersAQuadHas(t *testing.T) {
	for _, n := range []int{0, 1, 2, 3, 4, 5, 7, 63, 64, 65} {
		l := slices.Repeat([]string{"1"}, n)
		for rows := range mostLimits + 1 {
			q := impl.Quad{H: identity(n, "1"), F: l, G: slices.Repeat([][]string{l}, rows), Limits: slices.Repeat([]string{"0"}, rows)}
			if good := n >= 1 && n <= mostState; impl.GoodQuad(q) != good {
				t.Errorf("GoodQuad of %d numbers: %v", n, !good)
			}
			b := impl.Best{Kind: impl.BestFound, X: slices.Repeat([]string{"-1"}, n), Press: slices.Repeat([]string{"0"}, rows), Value: impl.FracOf(-n, 2)}
			if n < 1 || n > mostState {
				checkNoQuad(t, q, l, b)
			} else if !sameBest(checkQuad(t, q), b) {
				t.Errorf("BestOf of %v is not %v", q, b)
			}
		}
	}
	// Rows and columns of unlike numbers.
	for rows := range 6 {
		for columns := range 6 {
			if rows == columns && rows >= 1 && rows <= mostState {
				continue
			}
			for n := 1; n <= mostState; n++ {
				l := goodLookout(t, n, 2)
				l.q.H = [][]string{}
				for range rows {
					l.q.H = append(l.q.H, slices.Repeat([]string{"1"}, columns))
				}
				checkNoQuad(t, l.q, l.x, l.b)
			}
		}
	}
}

func TestHowManyRowsAQuadHas(t *testing.T) {
	for n := 1; n <= mostState; n++ {
		for _, rows := range []int{0, 1, 2, 3, 4, 5, 6, 7, 8, 10, 31, 32, 33, 63, 64, 65, 70} {
			l := goodLookout(t, n, min(rows, mostLimits))
			for len(l.q.G) < rows {
				l.q.G, l.q.Limits = append(l.q.G, slices.Repeat([]string{"0"}, n)), append(l.q.Limits, "1")
			}
			if good := rows <= mostLimits; impl.GoodQuad(l.q) != good {
				t.Errorf("GoodQuad of %d rows: %v", rows, !good)
			}
			if rows > mostLimits {
				checkNoQuad(t, l.q, l.x, l.b)
			} else {
				l.check(t)
			}
		}
	}
}

// All lists are as long as the document says: not one less and not one more, in each row.
func TestRowsOfQuads(t *testing.T) {
	for n := 1; n <= mostState; n++ {
		for rows := range mostLimits + 1 {
			for count := range mostLimits + 3 {
				if count != n {
					l := goodLookout(t, n, rows)
					l.q.H = identity(count, "1")
					checkNoQuad(t, l.q, l.x, l.b)
					l = goodLookout(t, n, rows)
					l.q.F = slices.Repeat([]string{"1"}, count)
					checkNoQuad(t, l.q, l.x, l.b)
					for at := range n {
						l = goodLookout(t, n, rows)
						l.q.H[at] = slices.Repeat([]string{"1"}, count)
						checkNoQuad(t, l.q, l.x, l.b)
					}
					for at := range rows {
						l = goodLookout(t, n, rows)
						l.q.G[at] = slices.Repeat([]string{"1"}, count)
						checkNoQuad(t, l.q, l.x, l.b)
					}
				}
				if count != rows {
					l := goodLookout(t, n, rows)
					l.q.Limits = slices.Repeat([]string{"1"}, count)
					checkNoQuad(t, l.q, l.x, l.b)
					l = goodLookout(t, n, rows)
					l.q.G = slices.Repeat([][]string{slices.Repeat([]string{"1"}, n)}, count)
					checkNoQuad(t, l.q, l.x, l.b)
				}
			}
		}
	}
}

// The nil list and the empty one are the same.
func TestNoneOfAQuad(t *testing.T) {
	for n := 1; n <= mostState; n++ {
		for _, none := range [][]string{nil, {}} {
			l := goodLookout(t, n, 0)
			l.q.Limits, l.b.Press = none, none
			for _, g := range [][][]string{nil, {}} {
				l.q.G = g
				l.check(t)
				if !impl.GoodQuad(l.q) || !impl.BestHolds(l.q, l.b) || !impl.QuadFits(l.q, l.x) {
					t.Errorf("%v without rows", l.q)
				}
			}
			for _, m := range [][][]string{nil, {}, {nil}, {{}}, {none, none}, {none, none, none}} {
				l = goodLookout(t, n, 1)
				l.q.H = m
				checkNoQuad(t, l.q, l.x, l.b)
			}
			for _, m := range [][][]string{nil, {}, {nil}, {{}}} {
				l = goodLookout(t, n, 1)
				l.q.G = m
				checkNoQuad(t, l.q, l.x, l.b)
			}
			l = goodLookout(t, n, 1)
			l.q.F = none
			checkNoQuad(t, l.q, l.x, l.b)
			l = goodLookout(t, n, 1)
			l.q.Limits = none
			checkNoQuad(t, l.q, l.x, l.b)
			l = goodLookout(t, n, 1)
			l.q.H[n-1] = none
			checkNoQuad(t, l.q, l.x, l.b)
		}
	}
}

// Each set of numbers decides, by its determinant alone: from 0 down H is not firm.
func TestQuadsBySetsOfNumbers(t *testing.T) {
	for n := 1; n <= mostState; n++ {
		for mask := 1; mask < 1<<n; mask++ {
			for _, more := range []string{"1/5", "1/1000000", "1/" + tenTo(300), "0", "-1/" + tenTo(300), "-1/1000000", "-1/10"} {
				l := goodLookout(t, n, 1)
				l.q.H = sunken(t, n, mask, more).M
				// The others are by themselves: they have nothing to do with it.
				for i := range n {
					if mask>>i&1 == 0 {
						l.q.H[i][i] = "3"
					}
				}
				if good := more[0] == '1'; impl.GoodQuad(l.q) != good {
					t.Errorf("GoodQuad of %.300v: %v", l.q, !good)
				} else if !good {
					checkNoQuad(t, l.q, l.x, l.b)
				}
				l.check(t)
			}
		}
	}
}

// One number that is another one than its mirrored one is enough, however little it differs.
func TestQuadsThatAreNotTheSameMirrored(t *testing.T) {
	for n := 2; n <= mostState; n++ {
		for at := range n * n {
			if at/n == at%n {
				continue
			}
			for _, more := range []string{"1/2", "-1/2", "1/1000000", "-1/" + tenTo(390)} {
				l := goodLookout(t, n, 2)
				l.q.H[at/n][at%n] = impl.AddFrac(l.q.H[at/n][at%n], more)
				if !impl.FirmMatrix(l.q.H) {
					t.Fatalf("%.300v is not firm", l.q.H)
				}
				checkNoQuad(t, l.q, l.x, l.b)
				l.q.H[at%n][at/n] = l.q.H[at/n][at%n]
				if !impl.GoodQuad(l.q) {
					t.Errorf("GoodQuad of %.300v is false", l.q)
				}
			}
		}
	}
}

// Every H of two numbers, of few texts.
func TestAllSmallQuads(t *testing.T) {
	good := 0
	eachTexts([]string{"-1", "0", "1", "2", "1/2"}, 4, func(texts []string) {
		l := goodLookout(t, 2, 2)
		l.q.H = [][]string{texts[:2], texts[2:]}
		l.check(t)
		if impl.GoodQuad(l.q) {
			good++
		}
	})
	if good < 20 {
		t.Error("good:", good)
	}
}

// x is n good fractions, for QuadValue and for QuadFits.
func TestHowManyNumbersAreAsked(t *testing.T) {
	for n := 1; n <= mostState; n++ {
		for rows := range mostLimits + 1 {
			l := goodLookout(t, n, rows)
			for _, count := range []int{0, 1, 2, 3, 4, 5, 6, 64} {
				x := slices.Repeat([]string{"0"}, count)
				if count != n {
					checkNoAt(t, l.q, x)
				}
				checkAt(t, l.q, x)
			}
			checkNoAt(t, l.q, nil)
		}
	}
}

func TestDrawnQuadsAreGood(t *testing.T) {
	r := rand.New(rand.NewSource(238))
	for n := 1; n <= mostState; n++ {
		for rows := range mostLimits + 1 {
			for _, digits := range []int{1, 3, 20} {
				q := drawnQuad(t, r, n, rows, digits)
				if !impl.GoodQuad(q) {
					t.Errorf("GoodQuad of %.300v is false", q)
				}
				q.H[n-1][n-1] = "-1/" + tenTo(100)
				checkNoQuad(t, q, q.F, impl.Best{})
			}
		}
	}
}
