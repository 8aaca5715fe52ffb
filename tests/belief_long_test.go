package tests

import (
	"math/rand"
	"slices"
	"strings"
	"testing"

	"loop.example/g00047/impl"
)

// Numbers of 400 digits are told, of 401 not, in the mean and in the spread by themselves; what comes up on the way may be longer.
func TestLongMoves(t *testing.T) {
	long, less, tiny := nines(400), nines(399)+"8", "1/"+nines(400)
	for _, c := range []struct {
		b    impl.Belief
		m    impl.Move
		fine bool
	}{
		{beliefOf(less, "0"), moveOf("1", "1", "0"), true},
		{beliefOf(long, "0"), moveOf("1", "1", "0"), false},
		{beliefOf("-"+long, "0"), moveOf("1", "-1", "0"), false},
		{beliefOf("1/"+tenTo(399), "0"), moveOf("1", "1/"+tenTo(399), "0"), true},
		{beliefOf(tiny, "0"), moveOf("1", "1/"+tenTo(399), "0"), false},
		{beliefOf("0", less), moveOf("1", "0", "1"), true},
		{beliefOf("0", long), moveOf("1", "0", "1"), false},
		{beliefOf("0", "1"), moveOf(tenTo(199), "0", "0"), true},
		{beliefOf("0", "1"), moveOf(tenTo(200), "0", "0"), false},
		{beliefOf("0", "1"), moveOf("1/"+tenTo(200), "0", "0"), false},
		{beliefOf("0", "1"), moveOf("1/"+tenTo(199), "0", "0"), true},
		{beliefOf("0", tiny), moveOf("1", "0", tiny), true},
		{beliefOf("0", "1/"+nines(201)), moveOf("1", "0", "1/"+tenTo(200)), false},
		// One number of two or three alone.
		{beliefOf("1 "+long, "0 0 | 0 0"), moveOf("1 0 | 0 1", "0 1", "0 0 | 0 0"), false},
		{beliefOf("1 "+less, "0 0 | 0 0"), moveOf("1 0 | 0 1", "0 1", "0 0 | 0 0"), true},
		{beliefOf("1 2 3", "0 0 0 | 0 0 0 | 0 0 "+long), moveOf("1 0 0 | 0 1 0 | 0 0 1", "0 0 0", "0 0 0 | 0 0 0 | 0 0 1"), false},
		{beliefOf("1 2 3", "0 0 0 | 0 "+long+" 0 | 0 0 0"), moveOf("1 0 0 | 0 1 0 | 0 0 1", "0 0 0", "0 0 0 | 0 1 0 | 0 0 0"), false},
		// Not the spreads, only what two numbers have to do with one another.
		{beliefOf("1 2", "1 1/"+nines(201)+" | 1/"+nines(201)+" 1"), moveOf("1 0 | 0 1", "0 0", "1 1/"+tenTo(200)+" | 1/"+tenTo(200)+" 1"), false},
		{beliefOf("1 2", "1 1/"+nines(199)+" | 1/"+nines(199)+" 1"), moveOf("1 0 | 0 1", "0 0", "1 1/"+tenTo(199)+" | 1/"+tenTo(199)+" 1"), true},
		// On the way alone.
		{beliefOf(tenTo(399), "0"), moveOf("10", "-9"+strings.Repeat("0", 399), "0"), true},
		{beliefOf(long+" "+long, "0 0 | 0 0"), moveOf(long+" -"+long+" | 1 -1", "1 2", "0 0 | 0 0"), true},
		{beliefOf("1 2", long+" "+long+" | "+long+" "+long), moveOf(long+" -"+long+" | 1 0", "1 2", "0 0 | 0 0"), true},
		{beliefOf("1 2", long+" "+long+" | "+long+" "+long), moveOf(long+" -"+long+" | 1 0", "1 2", "0 0 | 0 1"), false},
		{beliefOf(long, tiny), moveOf(tiny, "0", "0"), false},
		{beliefOf(long, long), moveOf(tiny, "0", "0"), true},
		{beliefOf(tiny, tiny), moveOf(long, "0", "0"), true},
	} {
		if _, ok := impl.MoveBelief(c.b, c.m); ok != c.fine {
			t.Errorf("MoveBelief of %.200q, %.300q: %v", c.b, c.m, ok)
		}
		checkMove(t, c.b, c.m)
	}
}

// SeeBelief and Surprise go beyond by themselves: one of them is told, the other is not.
func TestLongSees(t *testing.T) {
	long, tiny := nines(400), "1/"+nines(400)
	for _, c := range []struct {
		b        impl.Belief
		s        impl.See
		fine     bool
		surprise bool
	}{
		// The surprise alone is too long.
		{beliefOf("0", "1"), seeOf("1", "1", tenTo(200)), true, true},
		{beliefOf("0", "1"), seeOf("1", "1", "2"+strings.Repeat("0", 200)), true, false},
		{beliefOf("0", "1"), seeOf("1", "1", "1/"+tenTo(199)), true, true},
		{beliefOf("0", "1"), seeOf("1", "1", "1/"+tenTo(200)), true, false},
		{beliefOf("0", "0"), seeOf("1", "1", "1/"+tenTo(200)), true, false},
		{beliefOf("0", "0"), seeOf("1", "1", nines(200)), true, true},
		{beliefOf("0", "0"), seeOf("1", "1", tenTo(200)), true, false},
		{beliefOf("7", "1"), seeOf(nines(200), "1", "70"), true, false},
		// The spread alone is.
		{beliefOf("7", "1"), seeOf("1", tiny, "7"), false, true},
		{beliefOf("7", "1"), seeOf("1", "1/"+nines(399), "7"), true, true},
		{beliefOf("0", "1"), seeOf(nines(199), "1", "0"), true, true},
		{beliefOf("0", "1"), seeOf(tenTo(200), "1", "0"), false, true},
		// The mean is, the spread is not.
		{beliefOf("1/"+nines(250), "1"), seeOf("1", "1", "1/"+tenTo(200)), false, false},
		{beliefOf(long, "1"), seeOf("1", "1", long), true, true},
		{beliefOf(long, "1"), seeOf("1", "2", nines(399)+"8"), false, true},
		// On the way alone.
		{beliefOf(long, long), seeOf("1", long, long), true, true},
		{beliefOf("0", long), seeOf("1", long, "0"), true, true},
		{beliefOf(long, "2/"+long), seeOf("1", "2/"+long, "-"+long), true, false},
		{beliefOf(long, tiny), seeOf("1", tiny, "-"+long), false, false},
		{beliefOf("0", "1/"+tenTo(399)), seeOf(tenTo(399), tenTo(399), tenTo(399)), true, true},
		{beliefOf("0", tiny), seeOf(long, long, long), false, true},
		{beliefOf(long+" "+long, "1 1 | 1 1"), seeOf(long+" -"+long, "1", "3"), true, true},
		{beliefOf("0 0", long+" "+long+" | "+long+" "+long), seeOf("1 -1", "1", "3"), true, true},
		{beliefOf("0 0 0", long+" 0 0 | 0 "+long+" 0 | 0 0 "+long), seeOf("1 0 0", long, "3"), true, true},
	} {
		if _, ok := impl.SeeBelief(c.b, c.s); ok != c.fine {
			t.Errorf("SeeBelief of %.200q, %.300q: %v", c.b, c.s, ok)
		}
		if _, ok := impl.Surprise(c.b, c.s); ok != c.surprise {
			t.Errorf("Surprise of %.200q, %.300q: %v", c.b, c.s, ok)
		}
		checkSee(t, c.b, c.s)
	}
}

// lineWalk has something seen at the last of three moments alone: its x lie on a line from First, whose steps have a lower number of 300 digits.
func lineWalk(first string) impl.Walk {
	drift := "1/" + tenTo(300)
	w := impl.Walk{First: first, Drift: drift, Spread: impl.SubFrac("1/3", impl.MulFrac("2", drift)), Noise: "2/3", Seen: []string{"", "", "5"}}
	return w
}

// FilterWalk and SmoothWalk go beyond by themselves.
func TestLongWalks(t *testing.T) {
	long, less, tiny := nines(400), nines(399)+"8", "1/"+nines(400)
	for _, c := range []struct {
		w                  impl.Walk
		filtered, smoothed bool
	}{
		// The spread alone is too long, at the last moment or on the way to it; what is smoothed knows nothing of it.
		{walkOf("7 "+long+" 1 1", ". ."), false, true},
		{walkOf("7 "+less+" 1 1", ". ."), true, true},
		{walkOf("7 "+less+" 1 1", ". . ."), false, true},
		{walkOf("7 "+long+" 1 "+long, ". 7"), false, true},
		{walkOf("7 "+tiny+" 1/"+tenTo(399)+" 1", ". ."), false, true},
		{walkOf("7 1 1 "+tiny, "7 7"), false, true},
		{walkOf("7 1 1 1/"+nines(199), "7"), true, true},
		{walkOf(long+" 1 1 1", long), true, true},
		{walkOf("0 "+long+" 1 "+long, "2"), true, true},
		{walkOf("0 "+long+" "+long+" "+long, "2"), true, true},
		{walkOf("0 "+long+" "+long+" "+long, "2 ."), false, true},
		{walkOf("0 "+long+" "+long+" "+long, ". 3"), true, true},
		{walkOf("0 "+tiny+" "+tiny+" "+tiny, "2"), false, true},
		{walkOf("0 1/"+tenTo(399)+" 1/"+tenTo(399)+" 1/"+tenTo(399), "2 . 5"), true, true},
		{walkOf("0 1/"+tenTo(399)+" 1/"+tenTo(399)+" 1/"+tenTo(399), "2 4 6 8 10 12 14 16"), false, true},
		{walkOf("0 1/"+tenTo(390)+" 1/"+tenTo(390)+" 1/"+tenTo(390), "2 4 6 8 10 12 14 16"), true, true},
		// The mean alone.
		{walkOf("1/"+nines(250)+" 1 1 1", "1/"+tenTo(200)), false, false},
		{walkOf("1/"+nines(150)+" 1 1 1", "1/"+tenTo(200)), true, true},
		{walkOf("1/"+nines(250)+" 1 1 1", ". 1/"+tenTo(200)), false, false},
		// The first ones of what is smoothed are too long, all that is filtered is not.
		{lineWalk("1"), true, true},
		{lineWalk("1/" + nines(90)), true, true},
		{lineWalk("1/" + nines(200)), true, false},
		{lineWalk("1/" + nines(390)), true, false},
	} {
		if _, _, ok := impl.FilterWalk(c.w); ok != c.filtered {
			t.Errorf("FilterWalk of %.300q: %v", c.w, ok)
		}
		if _, ok := impl.SmoothWalk(c.w); ok != c.smoothed {
			t.Errorf("SmoothWalk of %.300q: %v", c.w, ok)
		}
		checkWalk(t, c.w)
	}
}

func TestLongLossesOfWalks(t *testing.T) {
	long := nines(400)
	for _, c := range []struct {
		w    impl.Walk
		x    string
		want string
	}{
		{walkOf("0 1 1 1", "."), nines(200), impl.MulFrac(nines(200), nines(200))},
		{walkOf("0 1 1 1", "."), tenTo(200), ""},
		{walkOf("0 1 1 1", "."), "1/" + tenTo(200), ""},
		{walkOf("0 1 1 1", "."), "1/" + tenTo(199), "1/" + tenTo(398)},
		{walkOf("0 "+tenTo(399)+" 1 1", "."), tenTo(399), tenTo(399)},
		{walkOf("0 "+long+" 1 1", "."), long, long},
		{walkOf("0 1 "+long+" 1", ". ."), "0 " + long, long},
		{walkOf("0 1 "+tenTo(399)+" 1", ". ."), "0 -" + tenTo(399), tenTo(399)},
		{walkOf("0 1 1 "+long, long), "0", long},
		{walkOf("0 1 1 "+long, long+" 0"), "0 0", long},
		{walkOf("0 1 1 "+long, long+" 0"), "1 1", ""},
		{walkOf(long+" "+long+" "+long+" "+long, ". ."), "0 0", long},
		{walkOf(long+" "+long+" "+long+" "+long, ". "+long), "0 0", ""},
		{walkOf(long+" 1 1 1", long+" "+long), long + " " + long, "0"},
		{walkOf(long+" 1 1 1", long+" . "+nines(399)+"8"), long + " " + long + " " + long, "1"},
		{walkOf("0 1 1 1", ". ."), "1/" + nines(150) + " 1/" + tenTo(150), ""},
	} {
		if got, ok := impl.WalkLoss(c.w, strings.Fields(c.x)); got != c.want || ok != (c.want != "") {
			t.Errorf("WalkLoss of %.300q, %.200q: got %.100q %v, want %.100q", c.w, c.x, got, ok, c.want)
		}
		checkWalkLoss(t, c.w, strings.Fields(c.x))
	}
}

// All of it so many times as great leads to a mean that is so, and to a spread that is so twice.
func TestBeliefsOfLongNumbers(t *testing.T) {
	r := rand.New(rand.NewSource(158))
	for _, by := range []string{nines(190), "1/" + nines(190), tenTo(180) + "/" + nines(180)} {
		twice := impl.MulFrac(by, by)
		for n := 1; n <= mostDim; n++ {
			for range 5 {
				b, s := drawnBelief(t, r, n, 1), drawnSee(r, n, 1)
				want := sawAll(t, b, []impl.See{s})
				want.Mean, want.Cov = scaled(t, [][]string{want.Mean}, by)[0], scaled(t, want.Cov, twice)
				surprise, _ := impl.Surprise(b, s)
				b.Mean, b.Cov = scaled(t, [][]string{b.Mean}, by)[0], scaled(t, b.Cov, twice)
				s.R, s.Z = impl.MulFrac(s.R, twice), impl.MulFrac(s.Z, by)
				got, ok := impl.SeeBelief(b, s)
				checkBelief(t, "SeeBelief of what is so many times as great", got, ok, want, true)
				if text, _ := impl.Surprise(b, s); text != surprise {
					t.Errorf("Surprise of what is so many times as great: %.100q, want %.100q", text, surprise)
				}
				checkSee(t, b, s)
			}
		}
		for n := 1; n <= mostWalk; n++ {
			w := goodWalk(n)
			want, _ := impl.SmoothWalk(w)
			loss, _ := impl.WalkLoss(w, want)
			want = scaled(t, [][]string{want}, by)[0]
			w.First, w.Spread, w.Drift, w.Noise = impl.MulFrac(w.First, by), impl.MulFrac(w.Spread, twice), impl.MulFrac(w.Drift, twice), impl.MulFrac(w.Noise, twice)
			for i, s := range w.Seen {
				if s != "" {
					w.Seen[i] = impl.MulFrac(s, by)
				}
			}
			x, ok := impl.SmoothWalk(w)
			if !ok || !slices.Equal(x, want) {
				t.Errorf("SmoothWalk of what is so many times as great: %v", ok)
			}
			if text, _ := impl.WalkLoss(w, x); text != loss {
				t.Errorf("WalkLoss of what is so many times as great: %.100q, want %.100q", text, loss)
			}
			checkWalk(t, w)
		}
	}
}

// longLength is as long as may be, and above 0.
func longLength(r *rand.Rand) string {
	return strings.TrimPrefix(longFrac(r), "-")
}

// All numbers as long as they may be.
func TestBeliefsOfTheLongestNumbers(t *testing.T) {
	r := rand.New(rand.NewSource(159))
	lists := func(n int) []string {
		l := []string{}
		for range n {
			l = append(l, longFrac(r))
		}
		return l
	}
	for n := 1; n <= mostDim; n++ {
		b := impl.Belief{Mean: lists(n), Cov: identity(n, longLength(r))}
		m := impl.Move{U: lists(n), Q: identity(n, longLength(r))}
		for range n {
			m.F = append(m.F, lists(n))
		}
		s := impl.See{H: lists(n), R: longLength(r), Z: longFrac(r)}
		for i := range n - 1 {
			b.Cov[i][n-1] = "1/" + nines(400)
			b.Cov[n-1][i] = "1/" + nines(400)
		}
		if !impl.GoodBelief(b) {
			t.Errorf("GoodBelief of the longest numbers, %d", n)
		}
		checkGood(t, b)
		checkMove(t, b, m)
		checkSee(t, b, s)
		checkBeliefRun(t, b, []impl.Move{m, m}, [][]impl.See{{s}, {s}})
		checkBeliefRun(t, b, []impl.Move{stay(n)}, [][]impl.See{nil})
	}
	for n := 1; n <= mostWalk; n++ {
		w := impl.Walk{First: longFrac(r), Spread: longLength(r), Drift: longLength(r), Noise: longLength(r), Seen: lists(n)}
		checkWalk(t, w)
		checkWalkLoss(t, w, lists(n))
		w.Seen[n/2] = ""
		checkWalk(t, w)
	}
}
