package tests

import (
	"math/big"
	"math/rand"
	"slices"
	"testing"

	"loop.example/g00047/impl"
)

func TestSees(t *testing.T) {
	for _, c := range []struct {
		b        impl.Belief
		s        impl.See
		want     impl.Belief
		surprise string
	}{
		{beliefOf("0", "1"), seeOf("1", "1", "2"), beliefOf("1", "1/2"), "2"},
		{beliefOf("3", "2"), seeOf("-1", "1", "-6"), beliefOf("5", "2/3"), "3"},
		{beliefOf("3", "2"), seeOf("2", "1", "6"), beliefOf("3", "2/9"), "0"},
		{beliefOf("3", "2"), seeOf("0", "1/2", "3"), beliefOf("3", "2"), "18"},
		{beliefOf("3", "0"), seeOf("1", "1/2", "5"), beliefOf("3", "0"), "8"},
		{beliefOf("0 0", "1 0 | 0 1"), seeOf("1 1", "2", "4"), beliefOf("1 1", "3/4 -1/4 | -1/4 3/4"), "4"},
		{beliefOf("1 2", "2 1 | 1 2"), seeOf("1 0", "1", "4"), beliefOf("3 3", "2/3 1/3 | 1/3 5/3"), "3"},
		{beliefOf("1 2", "2 1 | 1 2"), seeOf("0 0", "1", "4"), beliefOf("1 2", "2 1 | 1 2"), "16"},
		{beliefOf("5 1", "0 0 | 0 1"), seeOf("1 0", "1", "9"), beliefOf("5 1", "0 0 | 0 1"), "16"},
		{beliefOf("5 1", "0 0 | 0 1"), seeOf("1 1", "1", "8"), beliefOf("5 2", "0 0 | 0 1/2"), "2"},
		{beliefOf("5 1", "0 0 | 0 0"), seeOf("1 1", "1", "9"), beliefOf("5 1", "0 0 | 0 0"), "9"},
		{beliefOf("0 0", "1 1 | 1 1"), seeOf("1 0", "1", "2"), beliefOf("1 1", "1/2 1/2 | 1/2 1/2"), "2"},
		{beliefOf("0 0", "1 1 | 1 1"), seeOf("1 -1", "1", "2"), beliefOf("0 0", "1 1 | 1 1"), "4"},
		{beliefOf("0 0 0", "1 0 0 | 0 1 0 | 0 0 1"), seeOf("1 2 2", "1", "10"), beliefOf("1 2 2", "9/10 -1/5 -1/5 | -1/5 3/5 -2/5 | -1/5 -2/5 3/5"), "10"},
	} {
		got, ok := impl.SeeBelief(c.b, c.s)
		if !sameBelief(got, c.want) || !ok {
			t.Errorf("SeeBelief of %q, %q: got %q %v, want %q", c.b, c.s, got, ok, c.want)
		}
		if s, ok := impl.Surprise(c.b, c.s); s != c.surprise || !ok {
			t.Errorf("Surprise of %q, %q: got %q %v, want %q", c.b, c.s, s, ok, c.surprise)
		}
		checkSee(t, c.b, c.s)
	}
}

func TestDrawnSees(t *testing.T) {
	r := rand.New(rand.NewSource(143))
	for n := 1; n <= mostDim; n++ {
		for _, digits := range []int{1, 2, 5, 20} {
			for range 25 {
				checkSee(t, drawnBelief(t, r, n, digits), drawnSee(r, n, digits))
			}
		}
	}
}

// sawAll sees in that order; it is a fault of the test if a belief is too long.
func sawAll(t *testing.T, b impl.Belief, sees []impl.See) impl.Belief {
	t.Helper()
	for _, s := range sees {
		next, ok := impl.SeeBelief(b, s)
		if !ok {
			t.Fatalf("SeeBelief of %.200q, %.200q has no answer", b, s)
		}
		b = next
	}
	return b
}

// The order of what is seen at one time does not matter.
func TestSeesInEitherOrder(t *testing.T) {
	r := rand.New(rand.NewSource(144))
	for n := 1; n <= mostDim; n++ {
		for range 40 {
			b, sees := drawnBelief(t, r, n, 2), drawnSees(r, n, 2, 2)
			one, other := sawAll(t, b, sees), sawAll(t, b, []impl.See{sees[1], sees[0]})
			if !sameBelief(one, other) {
				t.Errorf("%q saw %q: %q, in the other order %q", b, sees, one, other)
			}
		}
		for range 5 {
			b, sees := drawnBelief(t, r, n, 1), drawnSees(r, n, 5, 1)
			want := sawAll(t, b, sees)
			for range 10 {
				r.Shuffle(len(sees), func(i int, k int) { sees[i], sees[k] = sees[k], sees[i] })
				if got := sawAll(t, b, sees); !sameBelief(got, want) {
					t.Errorf("%q saw %q: %q, in another order %q", b, sees, got, want)
				}
			}
		}
	}
}

// The surprises add up to the same too, in either order.
func TestSurprisesInEitherOrder(t *testing.T) {
	r := rand.New(rand.NewSource(145))
	for n := 1; n <= mostDim; n++ {
		for range 20 {
			b, sees := drawnBelief(t, r, n, 2), drawnSees(r, n, 2, 2)
			sums := []string{}
			for _, l := range [][]impl.See{sees, {sees[1], sees[0]}} {
				first, _ := impl.Surprise(b, l[0])
				second, _ := impl.Surprise(sawAll(t, b, l[:1]), l[1])
				sums = append(sums, impl.AddFrac(first, second))
			}
			if sums[0] != sums[1] || sums[0] == "" {
				t.Errorf("%q saw %q: the surprises are %q", b, sees, sums)
			}
		}
	}
}

// Two sees of the same, with one noise each, are one of their middle with half the noise.
func TestSeesOfTheSame(t *testing.T) {
	r := rand.New(rand.NewSource(146))
	for n := 1; n <= mostDim; n++ {
		for range 20 {
			b, one := drawnBelief(t, r, n, 3), drawnSee(r, n, 3)
			two := impl.See{H: one.H, R: one.R, Z: randomFrac(r, 3)}
			middle := impl.See{H: one.H, R: impl.DivFrac(one.R, "2"), Z: impl.DivFrac(impl.AddFrac(one.Z, two.Z), "2")}
			got, want := sawAll(t, b, []impl.See{one, two}), sawAll(t, b, []impl.See{middle})
			if !sameBelief(got, want) {
				t.Errorf("%q saw %q and %q: %q, but %q of %q", b, one, two, got, want, middle)
			}
		}
	}
}

// Nothing is seen by H of 0, and nothing is learnt where the spread is 0; the surprise is told all the same.
func TestSeesThatTellNothing(t *testing.T) {
	r := rand.New(rand.NewSource(147))
	for n := 1; n <= mostDim; n++ {
		for range 20 {
			b, s := drawnBelief(t, r, n, 5), drawnSee(r, n, 5)
			blind := impl.See{H: slices.Repeat([]string{"0"}, n), R: s.R, Z: s.Z}
			if got := sawAll(t, b, []impl.See{blind}); !sameBelief(got, b) {
				t.Errorf("%q saw %q: %q", b, blind, got)
			}
			if text, _ := impl.Surprise(b, blind); text != impl.DivFrac(impl.MulFrac(s.Z, s.Z), s.R) {
				t.Errorf("Surprise of %q, %q: %q", b, blind, text)
			}
			b.Cov = identity(n, "0")
			if got := sawAll(t, b, []impl.See{s}); !sameBelief(got, b) {
				t.Errorf("%q saw %q: %q", b, s, got)
			}
			off := minus(rat(t, s.Z), product(ratList(t, s.H), ratList(t, b.Mean)))
			want := textOf(quotient(times(off, off), rat(t, s.R)))
			if text, _ := impl.Surprise(b, s); text != want {
				t.Errorf("Surprise of %q, %q: got %q, want %q", b, s, text, want)
			}
			checkSee(t, b, s)
		}
	}
}

// A number whose spread is 0 stays, whatever is seen of it and of the others.
func TestNumbersWithoutSpreadStay(t *testing.T) {
	r := rand.New(rand.NewSource(148))
	for n := 2; n <= mostDim; n++ {
		for sure := range n {
			for range 10 {
				b := drawnBelief(t, r, n, 3)
				b.Cov = drawnSpread(t, r, n, n, 3)
				for i := range n {
					b.Cov[sure][i], b.Cov[i][sure] = "0", "0"
				}
				got := sawAll(t, b, drawnSees(r, n, 2, 3))
				if got.Mean[sure] != b.Mean[sure] || slices.ContainsFunc(got.Cov[sure], func(s string) bool { return s != "0" }) {
					t.Errorf("%q changed where it was sure: %q", b, got)
				}
			}
		}
	}
}

// What is believed behind sees is the fit (chapter 9) of all that is known, and the surprises are what it loses: a row a number of the mean, with its spread turned over as weight, and a row a see.
func TestSeesAreFits(t *testing.T) {
	r := rand.New(rand.NewSource(149))
	for n := 1; n <= mostDim; n++ {
		for count := range 4 {
			for range 8 {
				b, sees := drawnBelief(t, r, n, 2), drawnSees(r, n, count, 2)
				b.Cov = identity(n, "0")
				f := impl.Fit{Rows: identity(n, "1"), Right: slices.Clone(b.Mean)}
				for i := range n {
					b.Cov[i][i] = drawnLength(r, 2)
					f.Weights = append(f.Weights, impl.DivFrac("1", b.Cov[i][i]))
				}
				loss, now := new(big.Rat), b
				for _, s := range sees {
					f.Rows, f.Right, f.Weights = append(f.Rows, s.H), append(f.Right, s.Z), append(f.Weights, impl.DivFrac("1", s.R))
					text, _ := impl.Surprise(now, s)
					loss = plus(loss, rat(t, text))
					now = sawAll(t, now, []impl.See{s})
				}
				a, ok := impl.SolveFit(f, n)
				if !ok || !slices.Equal(a.X, now.Mean) || a.Loss != textOf(loss) {
					t.Errorf("%q saw %q: %q and %s, but the fit is %v %v", b, sees, now, textOf(loss), a, ok)
				}
				i, _ := impl.InfoOf(f, n)
				for k, row := range rowsByColumns(ratRows(t, i.M), ratRows(t, now.Cov)) {
					if !sameRats(row, ratList(t, identity(n, "1")[k])) {
						t.Errorf("%q saw %q: Cov %q is not M turned over, %q", b, sees, now.Cov, i.M)
					}
				}
			}
		}
	}
}

func TestNoiseThatIsNotAboveNought(t *testing.T) {
	for n := 1; n <= mostDim; n++ {
		for _, r := range []string{"0", "-1", "-1/2", "-1/" + nines(400), "-" + nines(400)} {
			s := glance(n)
			s.R = r
			checkNoSee(t, goodBelief(n), s)
			checkSee(t, goodBelief(n), s)
		}
		for _, r := range []string{"1/" + nines(100), nines(100)} {
			s := glance(n)
			s.R = r
			if _, ok := impl.SeeBelief(goodBelief(n), s); !ok {
				t.Errorf("SeeBelief of %d numbers, %q", n, s)
			}
			checkSee(t, goodBelief(n), s)
		}
	}
}

func TestSeesOfOtherShapes(t *testing.T) {
	for n := 1; n <= mostDim; n++ {
		for _, l := range otherLists(n) {
			s := glance(n)
			s.H = l
			checkNoSee(t, goodBelief(n), s)
		}
		for other := range mostDim + 2 {
			if other != n {
				checkNoSee(t, goodBelief(n), glance(other))
			}
		}
		checkNoSee(t, goodBelief(n), impl.See{})
		checkNoSee(t, goodBelief(n), impl.See{H: glance(n).H})
		checkNoSee(t, goodBelief(n), impl.See{H: glance(n).H, R: "1"})
		checkNoSee(t, goodBelief(n), impl.See{H: glance(n).H, Z: "1"})
	}
}
