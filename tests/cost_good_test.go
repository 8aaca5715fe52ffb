package tests

import (
	"math"
	"math/rand"
	"slices"
	"testing"

	"loop.example/g00047/impl"
)

func TestGoodCost(t *testing.T) {
	long, tiny := nines(400), "1/"+nines(400)
	for _, c := range []struct {
		c    impl.Cost
		want bool
	}{
		{costOf("1", "1", "0", "1", "1", 1), true},
		{costOf("0", "0", "0", "1", "0", 5), true},
		{costOf("-1/2", "-3", "7/5", "1/9", "2", 3), true},
		{costOf("1", "1", "-1", "1", "1", 1), false},
		{costOf("1", "1", "1", "1", "-1/9", 1), false},
		{costOf("1", "1", "1", "0", "1", 1), false},
		{costOf("1", "1", "1", "-1", "1", 1), false},
		{costOf("1", "1", "1", tiny, "1", 1), true},
		{costOf("1", "1", "1", "-"+tiny, "1", 1), false},
		{costOf("1", "1", "1", "1", "1", 0), false},
		{costOf("1", "1", "1", "1", "1", 5), true},
		{costOf("1", "1", "1", "1", "1", 6), false},
		{costOf("1", "1", "1", "1", "1", -1), false},
		{costOf(long, "-"+long, long, long, tiny, 5), true},
		{costOf("1 2 | 3 4", "5 6", "2 1 | 1 2", "1", "0 0 | 0 0", 2), true},
		{costOf("1 2 | 3 4", "5 6", "1 1 | 1 1", "1", "4 -2 | -2 1", 2), true},
		{costOf("1 2 | 3 4", "5 6", "1 2 | 2 1", "1", "1 0 | 0 1", 2), false},
		{costOf("1 2 | 3 4", "5 6", "1 0 | 0 1", "1", "0 1 | 1 0", 2), false},
		{costOf("1 2 | 3 4", "5 6", "1 0 | 1 1", "1", "1 0 | 0 1", 2), false},
		{costOf("1 2 | 3 4", "5 6", "1 0 | 0 1", "1", "1 1/2 | 1/3 1", 2), false},
		{costOf("1 2 | 3 4", "5 6", "1", "1", "1 0 | 0 1", 2), false},
		{costOf("1 2 | 3 4", "5 6", "1 0 | 0 1", "1", "1", 2), false},
		{costOf("1 2 | 3 4", "5", "1 0 | 0 1", "1", "1 0 | 0 1", 2), false},
		{costOf("1", "5", "1 0 | 0 1", "1", "1 0 | 0 1", 2), false},
		// All sets of one and of two are well, all three are not.
		{costOf("1 0 0 | 0 1 0 | 0 0 1", "1 2 3", "1 -3/4 -3/4 | -3/4 1 -3/4 | -3/4 -3/4 1", "1", "1 0 0 | 0 1 0 | 0 0 1", 2), false},
		{costOf("1 0 0 | 0 1 0 | 0 0 1", "1 2 3", "1 0 0 | 0 1 0 | 0 0 1", "1", "1 -3/4 -3/4 | -3/4 1 -3/4 | -3/4 -3/4 1", 2), false},
		{costOf("1 0 0 | 0 1 0 | 0 0 1", "1 2 3", "2 -1 -1 | -1 2 -1 | -1 -1 2", "1", "1 3/4 3/4 | 3/4 1 3/4 | 3/4 3/4 1", 2), true},
		{impl.Cost{}, false},
	} {
		if impl.GoodCost(c.c) != c.want {
			t.Errorf("GoodCost of %.300v: %v", c.c, !c.want)
		}
		checkCost(t, c.c)
		if n := len(c.c.A); !c.want {
			checkNoCost(t, c.c, slices.Repeat([]string{"1"}, n), slices.Repeat([]string{"1"}, max(c.c.Steps, 0)))
		}
	}
	if impl.MaxRounds != mostRounds {
		t.Error("another limit:", impl.MaxRounds)
	}
}

// n is from 1 to 3, with all else as many.
func TestHowManyNumbersACostHas(t *testing.T) {
	for _, n := range []int{0, 1, 2, 3, 4, 5, 7, 63, 64, 65} {
		l := slices.Repeat([]string{"1"}, n)
		c := impl.Cost{A: identity(n, "1"), B: l, Q: identity(n, "1"), R: "1", Last: identity(n, "1"), Steps: 2}
		if good := n >= 1 && n <= mostState; impl.GoodCost(c) != good {
			t.Errorf("GoodCost of %d numbers: %v", n, !good)
		}
		if n < 1 || n > mostState {
			checkNoCost(t, c, l, []string{"1", "1"})
		} else {
			errand{c, l, []string{"1", "1"}}.check(t)
		}
	}
	// Rows and columns of unlike numbers, in each square.
	for rows := range 5 {
		for columns := range 5 {
			if rows == columns && rows >= 1 && rows <= mostState {
				continue
			}
			for n := 1; n <= mostState; n++ {
				for place := range 3 {
					e := goodErrand(n, 2)
					m := [][]string{}
					for range rows {
						m = append(m, slices.Repeat([]string{"1"}, columns))
					}
					*e.squares()[place] = m
					checkNoCost(t, e.c, e.x, e.u)
				}
			}
		}
	}
}

// Q and Last have as many rows as A, of as many numbers: not one less and not one more, in each row.
func TestRowsOfCosts(t *testing.T) {
	for n := 1; n <= mostState; n++ {
		for place := range 3 {
			for count := range 6 {
				if count != n {
					e := goodErrand(n, 2)
					*e.squares()[place] = identity(count, "1")
					checkNoCost(t, e.c, e.x, e.u)
					for at := range n {
						e = goodErrand(n, 2)
						(*e.squares()[place])[at] = slices.Repeat([]string{"1"}, count)
						checkNoCost(t, e.c, e.x, e.u)
					}
				}
			}
			for _, none := range [][][]string{nil, {}, {nil}, {{}}} {
				e := goodErrand(n, 2)
				*e.squares()[place] = none
				checkNoCost(t, e.c, e.x, e.u)
			}
			for at := range n {
				e := goodErrand(n, 2)
				(*e.squares()[place])[at] = nil
				checkNoCost(t, e.c, e.x, e.u)
			}
		}
		for count := range 6 {
			if count != n {
				e := goodErrand(n, 2)
				e.c.B = slices.Repeat([]string{"1"}, count)
				checkNoCost(t, e.c, e.x, e.u)
			}
		}
		e := goodErrand(n, 2)
		e.c.B = nil
		checkNoCost(t, e.c, e.x, e.u)
	}
}

// Each set of numbers decides, by its determinant alone: just below 0 neither Q nor Last is half sure, from 0 on it is.
func TestCostsBySetsOfNumbers(t *testing.T) {
	for n := 1; n <= mostState; n++ {
		for mask := 1; mask < 1<<n; mask++ {
			for _, more := range []string{"1/5", "1/" + tenTo(300), "0", "-1/" + tenTo(300), "-1/1000000", "-1/10"} {
				for place := 1; place <= 2; place++ {
					e := goodErrand(n, 1)
					*e.squares()[place] = sunken(t, n, mask, more).M
					if more[0] == '-' {
						checkNoCost(t, e.c, e.x, e.u)
						continue
					}
					if !impl.GoodCost(e.c) {
						t.Errorf("GoodCost of %.300v is false", e.c)
					}
					e.check(t)
				}
			}
		}
	}
}

// One number that is another one than its mirrored one is enough, however little it differs. A need not be the same mirrored.
func TestCostsThatAreNotTheSameMirrored(t *testing.T) {
	for n := 2; n <= mostState; n++ {
		for at := range n * n {
			if at/n == at%n {
				continue
			}
			for _, more := range []string{"1", "-1", "1/1000000", "-1/" + tenTo(390)} {
				for place := range 3 {
					e := goodErrand(n, 2)
					m := *e.squares()[place]
					m[at/n][at%n] = impl.AddFrac(m[at/n][at%n], more)
					if place > 0 {
						checkNoCost(t, e.c, e.x, e.u)
					} else if !impl.GoodCost(e.c) {
						t.Errorf("GoodCost of %.300v is false", e.c)
					}
					checkCost(t, e.c)
				}
			}
		}
	}
}

func TestStepsOfCosts(t *testing.T) {
	far := append([]int{-1, -2, -5, 0, 6, 7, 8, 10, 50, 1 << 32, 1<<32 + 1, -1 << 32, math.MinInt32, math.MaxInt32}, farInts...)
	for n := 1; n <= mostState; n++ {
		for steps := 1; steps <= mostSteps; steps++ {
			e := goodErrand(n, steps)
			gains, gained := impl.CostGains(e.c)
			toGo, went := impl.CostToGo(e.c)
			u, _, ok := impl.BestControls(e.c, e.x)
			if !impl.GoodCost(e.c) || len(gains) != steps || len(toGo) != steps+1 || len(u) != steps || !gained || !went || !ok {
				t.Errorf("%d numbers, %d steps: %q %q %q", n, steps, gains, toGo, u)
			}
			e.check(t)
		}
		for _, steps := range far {
			e := goodErrand(n, 5)
			e.c.Steps = steps
			for count := range 8 {
				checkNoCost(t, e.c, e.x, slices.Repeat([]string{"1"}, count))
			}
		}
	}
}

// R is above 0, and may be as little above it as one likes.
func TestRsOfCosts(t *testing.T) {
	for n := 1; n <= mostState; n++ {
		for _, r := range []string{"0", "-1", "-1/2", "-1/" + nines(400), "-" + nines(400)} {
			e := goodErrand(n, 2)
			e.c.R = r
			checkNoCost(t, e.c, e.x, e.u)
		}
		for _, r := range []string{"1/1000000", "1/" + tenTo(399), "1/" + nines(400), nines(400), "2/" + nines(400), nines(400) + "/2"} {
			e := goodErrand(n, 2)
			e.c.R = r
			if !impl.GoodCost(e.c) {
				t.Errorf("GoodCost of %.300v is false", e.c)
			}
			e.check(t)
		}
	}
}

// Every Q and every Last of two numbers, of few texts.
func TestAllSmallCosts(t *testing.T) {
	good := 0
	eachTexts([]string{"-1", "0", "1", "2", "1/2"}, 4, func(l []string) {
		for place := 1; place <= 2; place++ {
			e := goodErrand(2, 1)
			*e.squares()[place] = [][]string{l[:2], l[2:]}
			e.check(t)
			if impl.GoodCost(e.c) {
				good++
			}
		}
	})
	if good == 0 {
		t.Error("none was good")
	}
}

func TestDrawnCostsAreGood(t *testing.T) {
	r := rand.New(rand.NewSource(215))
	for n := 1; n <= mostState; n++ {
		for _, digits := range []int{1, 3, 20} {
			for range 10 {
				e := drawnErrand(t, r, n, digits)
				if !impl.GoodCost(e.c) {
					t.Errorf("GoodCost of %.300v is false", e.c)
				}
				e.c.Last[0][0] = impl.SubFrac(e.c.Last[0][0], "1/"+tenTo(100))
				checkCost(t, e.c)
			}
		}
	}
}
