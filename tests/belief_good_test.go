package tests

import (
	"math/rand"
	"slices"
	"testing"

	"loop.example/g00047/impl"
)

func TestGoodBeliefs(t *testing.T) {
	long, tiny := nines(400), "1/"+nines(400)
	for _, c := range []struct {
		mean, cov string
		want      bool
	}{
		{"0", "1", true},
		{"-7/3", "1/2", true},
		{"5", "0", true},
		{"5", "-1", false},
		{"5", "-1/" + nines(400), false},
		{"0 0", "1 0 | 0 1", true},
		{"0 0", "0 0 | 0 0", true},
		{"0 0", "0 0 | 0 1", true},
		{"0 0", "1 0 | 0 0", true},
		{"0 0", "1 1 | 1 1", true},
		{"0 0", "1 -1 | -1 1", true},
		{"0 0", "4 2 | 2 1", true},
		{"0 0", "1 2 | 2 1", false},
		{"0 0", "0 1 | 1 0", false},
		{"0 0", "0 1 | 1 1", false},
		{"0 0", "-1 0 | 0 1", false},
		{"0 0", "1 0 | 0 -1", false},
		{"0 0", "-1 0 | 0 -1", false},
		{"0 0", "1 1/2 | -1/2 1", false},
		{"0 0", "1 1/2 | 1/3 1", false},
		{"0 0 0", "1 0 0 | 0 1 0 | 0 0 1", true},
		{"0 0 0", "0 0 0 | 0 0 0 | 0 0 0", true},
		{"0 0 0", "1 1 1 | 1 1 1 | 1 1 1", true},
		{"0 0 0", "2 -1 -1 | -1 2 -1 | -1 -1 2", true},
		// All sets of one and of two are well, all three are not.
		{"0 0 0", "1 -3/4 -3/4 | -3/4 1 -3/4 | -3/4 -3/4 1", false},
		{"0 0 0", "1 3/4 3/4 | 3/4 1 3/4 | 3/4 3/4 1", true},
		// The first and the last by themselves are not.
		{"0 0 0", "1 0 2 | 0 0 0 | 2 0 1", false},
		{"0 0 0", "0 0 1 | 0 0 0 | 1 0 0", false},
		{"0 0 0", "0 0 0 | 0 0 0 | 0 0 -1", false},
		{"0 0 0", "1 0 0 | 0 1 0 | 0 1/2 1", false},
		{"0 0 0", "1 0 1/2 | 0 1 0 | 0 0 1", false},
		{"0 0 0", "1 1/2 0 | 0 1 0 | 0 0 1", false},
		{long, long, true},
		{"-" + tiny, tiny, true},
		{"0 0", long + " 1 | 1 " + tiny, true},
		{"0 0", long + " 1 | 1 1/" + tenTo(399), true},
		{"0 0", tenTo(399) + " 1 | 1 " + tiny, false},
	} {
		b := beliefOf(c.mean, c.cov)
		if impl.GoodBelief(b) != c.want {
			t.Errorf("GoodBelief of %.300q: %v", b, !c.want)
		}
		checkGood(t, b)
		checkSee(t, b, glance(len(b.Mean)))
		checkMove(t, b, goodMove(len(b.Mean)))
		if !c.want {
			checkNoBelief(t, b)
		}
	}
}

// Each set of numbers decides, by its determinant alone: just below 0 the belief is not good, from 0 on it is.
func TestBeliefsBySetsOfNumbers(t *testing.T) {
	for n := 1; n <= mostDim; n++ {
		for mask := 1; mask < 1<<n; mask++ {
			for _, more := range []string{"1/5", "1/" + tenTo(300), "0", "-1/" + tenTo(300), "-1/1000000", "-1/10"} {
				b := goodBelief(n)
				b.Cov = sunken(t, n, mask, more).M
				m := stay(n)
				m.Q = b.Cov
				if more[0] == '-' {
					checkNoBelief(t, b)
					checkNoMove(t, goodBelief(n), m)
					continue
				}
				if !impl.GoodBelief(b) {
					t.Errorf("GoodBelief of %.300q", b)
				}
				checkMove(t, b, m)
				checkMove(t, goodBelief(n), m)
				checkSee(t, b, glance(n))
			}
		}
	}
}

// Beliefs of 1..MaxDim numbers are good, of none and of one more they are not.
func TestHowManyNumbersABeliefHas(t *testing.T) {
	for n := range 8 {
		b := goodBelief(n)
		if good := n >= 1 && n <= mostDim; impl.GoodBelief(b) != good {
			t.Errorf("GoodBelief of %d numbers: %v", n, !good)
		}
		if n == 0 || n > mostDim {
			checkNoBelief(t, b)
			checkNoMove(t, b, goodMove(n))
			checkNoSee(t, b, glance(n))
		}
	}
	if impl.MaxDim != mostDim || impl.MaxSteps != mostSteps || impl.MaxWalk != mostWalk {
		t.Error("other limits:", impl.MaxDim, impl.MaxSteps, impl.MaxWalk)
	}
	for _, n := range []int{63, 64, 65, 200} {
		checkNoBelief(t, goodBelief(n))
		checkNoMove(t, goodBelief(n), goodMove(n))
		checkNoSee(t, goodBelief(n), glance(n))
	}
	for _, b := range []impl.Belief{{}, {Mean: []string{}, Cov: [][]string{}}, {Mean: []string{"1"}}, {Cov: [][]string{{"1"}}}, {Mean: []string{"1"}, Cov: [][]string{{}}}, {Mean: []string{"1"}, Cov: [][]string{nil}}, {Cov: [][]string{{}}}} {
		checkNoBelief(t, b)
	}
}

// One number that is another one than its mirrored one is enough, however little it differs.
func TestCovThatIsNotTheSameMirrored(t *testing.T) {
	for n := 2; n <= mostDim; n++ {
		for at := range n * n {
			for _, more := range []string{"1", "-1", "1/1000000", "-1/" + tenTo(390)} {
				r, c := at/n, at%n
				if r == c {
					continue
				}
				b, m := goodBelief(n), goodMove(n)
				b.Cov[r][c] = impl.AddFrac(b.Cov[r][c], more)
				checkNoBelief(t, b)
				m.Q[r][c] = impl.AddFrac(m.Q[r][c], more)
				checkNoMove(t, goodBelief(n), m)
			}
		}
	}
}

// Every Cov of two numbers, and every one of three that is the same mirrored, of few texts.
func TestAllSmallBeliefs(t *testing.T) {
	good := 0
	eachTexts([]string{"-1", "0", "1", "2", "1/2"}, 4, func(l []string) {
		b := impl.Belief{Mean: []string{"1", "-2"}, Cov: [][]string{l[:2], l[2:]}}
		checkGood(t, b)
		checkSee(t, b, seeOf("1 -2", "1", "3"))
		if impl.GoodBelief(b) {
			good++
		}
	})
	if good == 0 {
		t.Error("none was good")
	}
	good = 0
	eachTexts([]string{"-1", "0", "1", "2"}, 6, func(l []string) {
		if slices.Contains(l[3:], "-1") {
			return
		}
		b := impl.Belief{Mean: []string{"1", "-2", "1/3"}, Cov: [][]string{{l[3], l[0], l[1]}, {l[0], l[4], l[2]}, {l[1], l[2], l[5]}}}
		checkGood(t, b)
		if impl.GoodBelief(b) {
			good++
			checkSee(t, b, seeOf("1 -2 1/2", "1", "3"))
		}
	})
	if good == 0 {
		t.Error("none was good")
	}
}

// What adds up from squares is half sure, with less of them than numbers too.
func TestDrawnBeliefsAreGood(t *testing.T) {
	r := rand.New(rand.NewSource(138))
	for n := 1; n <= mostDim; n++ {
		for lists := range n + 2 {
			for _, digits := range []int{1, 3, 20} {
				b := impl.Belief{Mean: drawnTexts(r, n, digits), Cov: drawnSpread(t, r, n, lists, digits)}
				if !impl.GoodBelief(b) {
					t.Errorf("GoodBelief of %.300q", b)
				}
				checkGood(t, b)
				// A little less in one number: where there were too few lists it is below 0 now.
				b.Cov[0][0] = impl.SubFrac(b.Cov[0][0], "1/"+tenTo(100))
				checkGood(t, b)
			}
		}
	}
}
