package tests

import (
	"math/big"
	"math/rand"
	"slices"
	"strings"
	"testing"

	"loop.example/g00047/impl"
)

// walkCase has what is filtered, what is smoothed and what that loses, and what other numbers lose.
type walkCase struct {
	w           impl.Walk
	m, p        string
	x, loss     string
	other, more string
}

func walkCases() []walkCase {
	return []walkCase{
		{walkOf("0 1 1 1", "2 ."), "1 1", "1/2 3/2", "1 1", "2", "0 0", "4"},
		{walkOf("0 1 1 1", "2 . 2"), "1 1 12/7", "1/2 3/2 5/7", "8/7 10/7 12/7", "16/7", "1 1 2", "3"},
		{walkOf("3 2 1 1", "."), "3", "2", "3", "0", "5", "2"},
		{walkOf("3 2 1 2", "-1"), "1", "1", "1", "4", "0", "5"},
		{walkOf("1 2 3 4", ". . ."), "1 1 1", "2 5 8", "1 1 1", "0", "3 0 1", "16/3"},
		{walkOf("0 1 1 2", ". 4"), "0 2", "1 1", "1 2", "4", "0 4", "16"},
		{walkOf("0 1 1 1", ". . . 5"), "0 0 0 4", "1 2 3 4/5", "1 2 3 4", "5", "0 0 0 5", "25"},
		{walkOf("1/2 1/3 1/4 1/5", "1/6 -1/7"), "7/24 4/483", "1/8 3/23", "127/644 4/483", "21775/40572", "0 0", "437/441"},
	}
}

func TestWalks(t *testing.T) {
	for _, c := range walkCases() {
		m, p, ok := impl.FilterWalk(c.w)
		if !slices.Equal(m, strings.Fields(c.m)) || !slices.Equal(p, strings.Fields(c.p)) || !ok {
			t.Errorf("FilterWalk of %q: %q %q %v, want %q %q", c.w, m, p, ok, c.m, c.p)
		}
		x, ok := impl.SmoothWalk(c.w)
		if !slices.Equal(x, strings.Fields(c.x)) || !ok {
			t.Errorf("SmoothWalk of %q: %q %v, want %q", c.w, x, ok, c.x)
		}
		if loss, ok := impl.WalkLoss(c.w, x); loss != c.loss || !ok {
			t.Errorf("WalkLoss of %q, %q: %q %v, want %q", c.w, x, loss, ok, c.loss)
		}
		if loss, ok := impl.WalkLoss(c.w, strings.Fields(c.other)); loss != c.more || !ok {
			t.Errorf("WalkLoss of %q, %q: %q %v, want %q", c.w, c.other, loss, ok, c.more)
		}
		checkWalk(t, c.w)
		checkWalkLoss(t, c.w, strings.Fields(c.other))
	}
}

func TestDrawnWalks(t *testing.T) {
	r := rand.New(rand.NewSource(153))
	for n := 1; n <= mostWalk; n++ {
		for _, digits := range []int{1, 2, 5, 15} {
			for range 6 {
				w := drawnWalk(r, n, digits)
				checkWalk(t, w)
				checkWalkLoss(t, w, drawnTexts(r, n, digits))
			}
		}
	}
}

// At some moments nothing was seen, in every way: the first, the last, several side by side, all of them.
func TestWhatWasNotSeen(t *testing.T) {
	for n := 1; n <= mostWalk; n++ {
		for mask := range 1 << n {
			w := goodWalk(n)
			for i := range n {
				w.Seen[i] = ""
				if mask>>i&1 == 1 {
					w.Seen[i] = impl.FracOf(i*i-3, 2)
				}
			}
			checkWalk(t, w)
		}
	}
}

// Where nothing was seen the mean stays and the spread is more by the drift; a nought that was seen is something.
func TestNothingWasSeen(t *testing.T) {
	for n := 1; n <= mostWalk; n++ {
		w := walkOf("-5/2 1/3 1/4 7", strings.Repeat(". ", n))
		m, p, ok := impl.FilterWalk(w)
		x, okToo := impl.SmoothWalk(w)
		still := slices.Repeat([]string{"-5/2"}, n)
		if !slices.Equal(m, still) || !slices.Equal(x, still) || !ok || !okToo {
			t.Errorf("nothing was seen at %d moments, but: %q %q", n, m, x)
		}
		for i := range p {
			if want := impl.AddFrac("1/3", impl.FracOf(i, 4)); p[i] != want {
				t.Errorf("the spread at %d is %q, not %q", i, p[i], want)
			}
		}
		if loss, ok := impl.WalkLoss(w, still); loss != "0" || !ok {
			t.Errorf("WalkLoss of %q, %q: %q %v", w, still, loss, ok)
		}
		for at := range n {
			w := walkOf("-5/2 1/3 1/4 7", strings.Repeat(". ", n))
			w.Seen[at] = "0"
			got, _, _ := impl.FilterWalk(w)
			if got[at] == "-5/2" || at > 0 && got[at-1] != "-5/2" {
				t.Errorf("a nought was seen at %d, but: %q", at, got)
			}
			checkWalk(t, w)
		}
	}
}

// What was seen later changes what is smoothed, but not what was filtered: the filter of a beginning is the beginning of the filter, and each of its means is the last x of that beginning.
func TestBeginningsOfWalks(t *testing.T) {
	r := rand.New(rand.NewSource(154))
	for range 15 {
		w := drawnWalk(r, mostWalk, 2)
		m, p, _ := impl.FilterWalk(w)
		for n := 1; n <= mostWalk; n++ {
			part := w
			part.Seen = w.Seen[:n]
			gotM, gotP, ok := impl.FilterWalk(part)
			if !slices.Equal(gotM, m[:n]) || !slices.Equal(gotP, p[:n]) || !ok {
				t.Errorf("FilterWalk of %q: %q %q, of a beginning: %q %q %v", w, m, p, gotM, gotP, ok)
			}
			x, ok := impl.SmoothWalk(part)
			if !ok || x[n-1] != m[n-1] {
				t.Errorf("SmoothWalk of %q ends at %q, FilterWalk at %q", part, x, m[n-1])
			}
		}
	}
}

// The least loss is what the surprises add up to, moment by moment.
func TestLeastLossOfWalks(t *testing.T) {
	r := rand.New(rand.NewSource(155))
	for n := 1; n <= mostWalk; n++ {
		for range 8 {
			w := drawnWalk(r, n, 2)
			m, p, _ := impl.FilterWalk(w)
			x, _ := impl.SmoothWalk(w)
			sum, now := new(big.Rat), beliefOf(w.First, w.Spread)
			for i, s := range w.Seen {
				if i > 0 {
					now = beliefOf(m[i-1], impl.AddFrac(p[i-1], w.Drift))
				}
				if s != "" {
					text, _ := impl.Surprise(now, seeOf("1", w.Noise, s))
					sum = plus(sum, rat(t, text))
				}
			}
			if loss, ok := impl.WalkLoss(w, x); loss != textOf(sum) || !ok {
				t.Errorf("WalkLoss of %q, %q: %q %v, but the surprises add up to %q", w, x, loss, ok, textOf(sum))
			}
		}
	}
}

// Up to four moments a walk is a fit (chapter 9), with a row a term of the loss.
func TestWalksAreFits(t *testing.T) {
	r := rand.New(rand.NewSource(156))
	for n := 1; n <= mostVars; n++ {
		for range 15 {
			w := drawnWalk(r, n, 2)
			row := func() []string { return slices.Repeat([]string{"0"}, n) }
			f := impl.Fit{Rows: [][]string{row()}, Right: []string{w.First}, Weights: []string{impl.DivFrac("1", w.Spread)}}
			f.Rows[0][0] = "1"
			for i, s := range w.Seen {
				if i > 0 {
					l := row()
					l[i], l[i-1] = "1", "-1"
					f.Rows, f.Right, f.Weights = append(f.Rows, l), append(f.Right, "0"), append(f.Weights, impl.DivFrac("1", w.Drift))
				}
				if s != "" {
					l := row()
					l[i] = "1"
					f.Rows, f.Right, f.Weights = append(f.Rows, l), append(f.Right, s), append(f.Weights, impl.DivFrac("1", w.Noise))
				}
			}
			a, ok := impl.SolveFit(f, n)
			x, okToo := impl.SmoothWalk(w)
			if !ok || !okToo || !slices.Equal(x, a.X) {
				t.Errorf("SmoothWalk of %q: %q %v, but the fit is %v %v", w, x, okToo, a, ok)
			}
			if loss, _ := impl.WalkLoss(w, x); loss != a.Loss {
				t.Errorf("WalkLoss of %q, %q: %q, but the fit loses %q", w, x, loss, a.Loss)
			}
			y := drawnTexts(r, n, 2)
			one, _ := impl.WalkLoss(w, y)
			if two, _ := impl.LossOf(f, y); one != two || one == "" {
				t.Errorf("WalkLoss of %q, %q: %q, but the fit loses %q", w, y, one, two)
			}
		}
	}
}

// Walks of 1..MaxWalk moments are good, of none and of one more they are not.
func TestHowManyMomentsAWalkHas(t *testing.T) {
	for n := range 2*mostWalk + 1 {
		for _, w := range []impl.Walk{goodWalk(n), walkOf("0 1 1 1", strings.Repeat(". ", n)), walkOf("0 1 1 1", strings.Repeat("0 ", n))} {
			_, _, ok := impl.FilterWalk(w)
			_, okToo := impl.SmoothWalk(w)
			if good := n >= 1 && n <= mostWalk; ok != good || okToo != good {
				t.Errorf("a walk of %d moments: %v %v", n, ok, okToo)
			}
			checkWalk(t, w)
			checkWalkLoss(t, w, slices.Repeat([]string{"1/2"}, n))
			if n == 0 || n > mostWalk {
				checkNoWalk(t, w)
			}
		}
	}
	w := goodWalk(0)
	for _, seen := range [][]string{nil, {}, make([]string, mostWalk+1), make([]string, 1000)} {
		w.Seen = seen
		checkNoWalk(t, w)
	}
	checkNoWalk(t, impl.Walk{})
	checkNoWalkLoss(t, impl.Walk{}, nil)
}

// Spread, Drift and Noise are above 0, also where the walk has no use for them.
func TestSpreadsOfWalksAreAboveNought(t *testing.T) {
	for _, seen := range []string{".", "1", ". .", "1 2 . 4"} {
		for _, s := range []string{"0", "-1", "-1/2", "-" + nines(400), "-1/" + nines(400)} {
			w := walkOf("0 1 1 1", seen)
			w.Spread = s
			checkNoWalk(t, w)
			w = walkOf("0 1 1 1", seen)
			w.Drift = s
			checkNoWalk(t, w)
			w = walkOf("0 1 1 1", seen)
			w.Noise = s
			checkNoWalk(t, w)
			// First may be anything.
			w = walkOf("0 1 1 1", seen)
			w.First = s
			if _, _, ok := impl.FilterWalk(w); !ok && len(s) < 400 {
				t.Errorf("FilterWalk of %.200q", w)
			}
			checkWalk(t, w)
		}
	}
}

// WalkLoss is asked for as many numbers as there are moments.
func TestLossesOfTooFewAndTooManyNumbers(t *testing.T) {
	for n := 1; n <= mostWalk; n++ {
		for count := range 2*mostWalk + 2 {
			x := slices.Repeat([]string{"1/2"}, count)
			if loss, ok := impl.WalkLoss(goodWalk(n), x); ok != (count == n) || ok != (loss != "") {
				t.Errorf("WalkLoss of %d moments, %d numbers: %q %v", n, count, loss, ok)
			}
			checkWalkLoss(t, goodWalk(n), x)
		}
		checkNoWalkLoss(t, goodWalk(n), nil)
		checkNoWalkLoss(t, goodWalk(n), slices.Repeat([]string{"0"}, 1000))
	}
}

// What is so far away, and so many times as great, leads to what is so too.
func TestWalksElsewhere(t *testing.T) {
	r := rand.New(rand.NewSource(157))
	for n := 1; n <= mostWalk; n++ {
		for range 5 {
			w, by, far := drawnWalk(r, n, 2), drawnLength(r, 3), randomFrac(r, 3)
			there := func(l []string) []string {
				out := []string{}
				for _, s := range l {
					if s != "" {
						s = impl.AddFrac(impl.MulFrac(s, by), far)
					}
					out = append(out, s)
				}
				return out
			}
			spread := func(s string) string { return impl.MulFrac(s, impl.MulFrac(by, by)) }
			other := impl.Walk{First: there([]string{w.First})[0], Spread: spread(w.Spread), Drift: spread(w.Drift), Noise: spread(w.Noise), Seen: there(w.Seen)}
			x, ok := impl.SmoothWalk(w)
			y, okToo := impl.SmoothWalk(other)
			if !ok || !okToo || !slices.Equal(there(x), y) {
				t.Errorf("SmoothWalk of %q: %q, elsewhere %q", w, x, y)
			}
			one, _ := impl.WalkLoss(w, x)
			two, _ := impl.WalkLoss(other, y)
			if one != two {
				t.Errorf("WalkLoss of %q: %q, elsewhere %q", w, one, two)
			}
		}
	}
}
