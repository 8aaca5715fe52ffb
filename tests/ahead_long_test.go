package tests

import (
	"math/rand"
	"slices"
	"strings"
	"testing"

	"loop.example/g00047/impl"
)

// What is told has at most 400 digits above and below; what comes up on the way may have more.
func TestLongValuesOfQuads(t *testing.T) {
	long, tiny, far := nines(400), "1/"+nines(400), tenTo(300)
	for _, c := range []struct {
		q    impl.Quad
		x    string
		fine bool
	}{
		{quadOf("2", "0", "", ""), tenTo(199), true},
		{quadOf("2", "0", "", ""), tenTo(200), false},
		{quadOf("2", "0", "", ""), nines(200), true},
		{quadOf("2", "0", "", ""), "-" + nines(200), true},
		{quadOf("2", "0", "", ""), "1/" + nines(200), true},
		{quadOf("2", "0", "", ""), "1/" + tenTo(200), false},
		{quadOf("1", "0", "", ""), "1/" + nines(200), false},
		{quadOf("2", long, "", ""), "1", false},
		{quadOf("2", nines(399)+"8", "", ""), "1", true},
		{quadOf("2", "-"+long, "", ""), "1", true},
		{quadOf("2", tiny, "", ""), "1", false},
		{quadOf(tiny, "0", "", ""), "1", false},
		{quadOf("2/"+nines(400), "0", "", ""), "1", true},
		{quadOf(long, "0", "", ""), "0", true},
		// One number of several.
		{quadOf("2 0 | 0 2", "0 0", "", ""), "3 " + tenTo(200), false},
		{quadOf("2 0 | 0 "+tiny, "0 0", "", ""), "3 0", true},
		{quadOf("2 0 0 | 0 2 0 | 0 0 2", "0 0 0", "", ""), "1 1 " + tenTo(200), false},
		// On the way alone.
		{quadOf("1", "-"+far, "", ""), tenTo(300), false},
		{quadOf("2", "-"+far, "", ""), far, true},
		{quadOf("2 0 | 0 2", far+" -"+far, "", ""), far + " " + far, false},
		{quadOf("4 -2 | -2 4", "-"+far+" -"+far, "", ""), far + " " + far, true},
		{quadOf("2", "-"+long, "", ""), long, true},
		{quadOf("2", tiny, "", ""), "-" + tiny, true},
	} {
		x := strings.Fields(c.x)
		if _, ok := impl.QuadValue(c.q, x); ok != c.fine {
			t.Errorf("QuadValue of %.200v, %.100q: %v", c.q, c.x, ok)
		}
		checkAt(t, c.q, x)
	}
}

// Whether x fits is told however long the sums of its rows are.
func TestLongRowsFit(t *testing.T) {
	long, tiny := nines(400), "1/"+nines(400)
	for _, c := range []struct {
		g, limits, x string
		want         bool
	}{
		{long, long, "1", true},
		{long, nines(399) + "8", "1", false},
		{long, long, long, false},
		{"-" + long, "0", long, true},
		{long, "0", tiny, false},
		{long, "1", tiny, true},
		{tiny, tiny, "1", true},
		{tiny, "1/" + nines(399) + "8", "1", true},
		{"1/" + nines(399) + "8", tiny, "1", false},
		{long + " -" + long, "0", long + " " + long, true},
		{long + " -" + nines(399) + "8", "0", long + " " + long, false},
		{long + " -" + long, tiny, long + " " + long, true},
		{long + " -" + long, "-" + tiny, long + " " + long, false},
		{tiny + " " + long + " -1", "0", "1 0 " + tiny, true},
	} {
		x := strings.Fields(c.x)
		q := impl.Quad{H: identity(len(x), "1"), F: slices.Repeat([]string{"0"}, len(x)), G: square(c.g), Limits: strings.Fields(c.limits)}
		if got := impl.QuadFits(q, x); got != c.want {
			t.Errorf("QuadFits of %.200v, %.100q: %v", q, c.x, got)
		}
		checkAt(t, q, x)
	}
}

// wideBest is a quad of one number whose best X is too long by one digit alone: its value is not, and nothing presses.
func wideBest() (string, string) {
	b := nines(200)
	return impl.DivFrac("1", impl.MulFrac(b, b)), "-14" + strings.Repeat("0", 199) + "/" + b
}

func TestLongBests(t *testing.T) {
	h, f := wideBest()
	far, farther := tenTo(300), tenTo(250)
	for _, c := range []struct {
		what string
		q    impl.Quad
		fine bool
	}{
		{"X alone", quadOf(h, f, "", ""), false},
		{"X just not", quadOf(h, impl.DivFrac(f, "2"), "", ""), true},
		{"X alone, below a limit too", quadOf(h, f, "0", "1"), false},
		{"X held by a limit", quadOf(h, f, "1", nines(200)), true},
		{"the second X alone", quadOf("1 0 | 0 "+h, "-1 "+f, "", ""), false},
		{"the second X held", quadOf("1 0 | 0 "+h, "-1 "+f, "0 1", nines(200)), true},
		{"the last X alone", quadOf("1 0 0 | 0 2 0 | 0 0 "+h, "0 0 "+f, "1 0 0", "1"), false},
		{"the first X alone", quadOf(h+" 0 0 | 0 2 0 | 0 0 1", f+" 0 0", "", ""), false},
		{"Value alone", quadOf("1", "-"+farther, "", ""), false},
		{"Value just not", quadOf("2", "-2"+strings.Repeat("0", 199), "", ""), true},
		{"Value just", quadOf("2", "-2"+strings.Repeat("0", 200), "", ""), false},
		{"Value held", quadOf("1", "-"+farther, "1", "1"), true},
		{"Value below alone", quadOf("1", "1/"+farther, "", ""), false},
		{"Press alone", quadOf("1", "-"+tenTo(200), "1/"+far, "1/"+far), false},
		{"Press just not", quadOf("1", "-"+tenTo(99), "1/"+far, "1/"+far), true},
		{"Press just", quadOf("1", "-"+tenTo(100), "1/"+far, "1/"+far), true},
		{"Press by one digit", quadOf("1", "-"+tenTo(101), "1/"+far, "1/"+far), false},
		{"Press below alone", quadOf("1", "-2/3", far, "0"), true},
		{"Press below too long", quadOf("1", "-2/"+tenTo(101), far, "0"), false},
		{"the second Press alone", quadOf("1 0 | 0 1", "-3 -"+tenTo(101), "1 0 | 0 1/"+far, "1 1/"+far), false},
		{"the last Press of five", quadOf("1", "-"+tenTo(101), "1 | 0 | -1 | 1 | 1/"+far, "2 1 9 3 1/"+far), false},
		{"the first of rows alike", quadOf("1", "-"+tenTo(101), "1/"+far+" | 1", "1/"+far+" 1"), false},
		{"the first of rows alike, the other way round", quadOf("1", "-"+tenTo(101), "1 | 1/"+far, "1 1/"+far), true},
		// On the way alone: where nothing presses x is too long, or what other masks have.
		{"free x", quadOf("1/"+tenTo(149), "-"+far, "1", tenTo(50)), true},
		{"free x, no best", quadOf("1/"+tenTo(149), "-"+far, "1 | -1", "0 -1"), true},
		{"other masks", quadOf("1 0 | 0 1", "-1 -1", "1/"+far+" 0 | 0 1 | "+far+" "+far, "7 1/2 "+tenTo(302)), true},
		{"other masks, long limits", quadOf("1", "0", "1/"+nines(400)+" | "+nines(400), nines(400)+" 1/"+nines(400)), true},
		{"a determinant", quadOf(far+" "+"0 0 | 0 "+far+" 0 | 0 0 "+far, "0 0 0", "-1 0 0 | 0 -1 0 | 0 0 -1", "-1 0 0"), true},
		{"a long row that does not press", quadOf("1", "-2", "1 | "+nines(400), "1 "+nines(400)), true},
		{"a long row that presses", quadOf("1", "-2", nines(400), nines(400)), true},
	} {
		b, ok := impl.BestOf(c.q)
		if ok != c.fine || !ok && !sameBest(b, impl.Best{}) {
			t.Errorf("%s: BestOf of %.200v: %.200v %v", c.what, c.q, b, ok)
		}
		if ok && b.Kind == impl.BestFound && !impl.BestHolds(c.q, b) {
			t.Errorf("%s: BestHolds of %.200v, %.200v is false", c.what, c.q, b)
		}
		checkQuad(t, c.q)
	}
}

// toldBy are which of X, Press and Value can be told.
func toldBy(t *testing.T, q impl.Quad) [3]bool {
	t.Helper()
	w := bowlOf(t, q)
	x, press, _ := w.best()
	_, xs := tellRats(x)
	_, ps := tellRats(press)
	return [3]bool{xs, ps, textOf(w.value(x)) != ""}
}

// The test's own word of what is too long alone.
func TestWhatIsTooLongAlone(t *testing.T) {
	h, f := wideBest()
	for i, q := range []impl.Quad{quadOf(h, f, "", ""), quadOf("1", "-"+tenTo(200), "1/"+tenTo(300), "1/"+tenTo(300)), quadOf("1", "-"+tenTo(250), "", "")} {
		want := [3]bool{true, true, true}
		want[i] = false
		if got := toldBy(t, q); got != want {
			t.Errorf("%.200v: %v", q, got)
		}
	}
}

// A certificate whose value can't be told is none: no text says it.
func TestBestHoldsOfLongNumbers(t *testing.T) {
	long := nines(400)
	q := quadOf("1", "-"+tenTo(250), "", "")
	for _, value := range []string{"", "0", "-5" + strings.Repeat("0", 499), "-5" + strings.Repeat("0", 399)} {
		b := bestOf(tenTo(250), "", value)
		if impl.BestHolds(q, b) {
			t.Errorf("BestHolds of %.100v, %.100v", q, b)
		}
		checkHolds(t, q, b)
	}
	for _, c := range []struct {
		q    impl.Quad
		b    impl.Best
		want bool
	}{
		{quadOf("1", "-2", long+" | 1", long+" 1"), bestOf("1", "1/"+long+" 0", "-3/2"), true},
		{quadOf("1", "-2", long+" | 1", long+" 1"), bestOf("1", "0 1", "-3/2"), true},
		{quadOf("1", "-2", long+" | 1", long+" 1"), bestOf("1", "1/"+long+" 1", "-3/2"), false},
		{quadOf("1", "-2", long+" | 1", long+" 1"), bestOf("1", "1/"+tenTo(400)+" 0", "-3/2"), false},
		{quadOf("1", "-2", "1 | 0", "1 0"), bestOf("1", "1 "+long, "-3/2"), true},
		{quadOf("1", "-2", "1 | 0", "1 0"), bestOf("1", "1 "+long+"9", "-3/2"), false},
		{quadOf("1", "-2", "1 | 0", "1 1/"+long), bestOf("1", "1 "+long, "-3/2"), false},
		{quadOf("1", "-2", "1 | -1", "1 -1"), bestOf("1", long+" "+nines(399)+"8", "-3/2"), true},
		{quadOf("1", "-2", "1 | -1", "1 -1"), bestOf("1", long+" "+long, "-3/2"), false},
		{quadOf("1", "0", long, "0"), bestOf("0", "0", "0"), true},
		{quadOf("1", "0", long, "0"), bestOf("1/"+long, "0", "0"), false},
	} {
		if got := impl.BestHolds(c.q, c.b); got != c.want {
			t.Errorf("BestHolds of %.200v, %.200v: %v", c.q, c.b, got)
		}
		checkHolds(t, c.q, c.b)
	}
}

func TestLongTasks(t *testing.T) {
	long, tiny := nines(400), "1/"+nines(400)
	for _, c := range []struct {
		what  string
		k     impl.Task
		quad  bool
		steer bool
	}{
		{"H just not", taskOf("1 "+nines(200)+" 1 1 1", 1), true, true},
		{"H just, and the control", taskOf("1 "+tenTo(200)+" 1 1 1", 1), false, false},
		{"H just, the control by its limit", taskOf("1 "+tenTo(200)+" 1 1 1/"+tenTo(201), 1), false, true},
		{"H alone, nothing to do", taskOf("0 "+tenTo(200)+" 1 1 1", 1), false, true},
		{"H by its weight", taskOf("1 1 1 "+long+" 1", 1), false, false},
		{"H by its weight, just not", taskOf("1 1 1 "+nines(399)+"8 1", 1), true, true},
		{"H below", taskOf("1 1 1 "+tiny+" 1", 1), false, false},
		{"F alone", taskOf(tenTo(150)+" "+tenTo(150)+" "+tenTo(150)+" 1 1", 1), false, true},
		{"F alone, and the control", taskOf(tenTo(150)+" "+tenTo(150)+" "+tenTo(150)+" 1 "+tenTo(399), 1), false, false},
		{"F just not", taskOf(tenTo(133)+" "+tenTo(133)+" "+tenTo(133)+" 1 1", 1), true, true},
		{"F just", taskOf(tenTo(133)+" "+tenTo(133)+" "+tenTo(134)+" 1 1", 1), false, true},
		{"F below", taskOf("1/"+tenTo(150)+" 1/"+tenTo(100)+" 1/"+tenTo(150)+" 1 1", 1), false, false},
		{"one number of H of two steps", taskOf(tenTo(101)+" "+tenTo(99)+" 0 1 1", 2), false, true},
		{"one step of the same", taskOf(tenTo(101)+" "+tenTo(99)+" 0 1 1", 1), true, true},
		{"the first number of F of two steps", taskOf(tenTo(100)+" 1 "+tenTo(100)+" 1 1", 2), false, true},
		{"one step of the same", taskOf(tenTo(100)+" 1 "+tenTo(100)+" 1 1", 1), true, true},
		{"all of it, and the control by its limit", taskOf(long+" "+long+" "+long+" 1 1", 2), false, true},
		{"all of it, and the longest limit", taskOf(long+" "+long+" "+long+" "+tiny+" "+tiny, 2), false, true},
		{"all of it, from the other side", taskOf(long+" -"+long+" "+long+" "+tiny+" "+long, 1), false, false},
		{"nothing to do", taskOf(long+" "+long+" 0 "+long+" "+tiny, 2), false, true},
		{"no control does anything", taskOf(long+" 0 "+long+" "+long+" "+tiny, 2), true, true},
		{"the second control alone", taskOf("0 1 1 "+long+" 1", 2), false, true},
	} {
		q, ok := impl.AheadQuad(c.k)
		u, fine := impl.AheadControl(c.k)
		if ok != c.quad || fine != c.steer || !ok && !sameQuad(q, impl.Quad{}) {
			t.Errorf("%s: AheadQuad of %.200v: %.200v %v, AheadControl %.100q %v", c.what, c.k, q, ok, u, fine)
		}
		checkTask(t, c.k)
	}
}

// The control is told where all else of the best is not: the second control, the presses and the value.
func TestLongBestsOfTasks(t *testing.T) {
	found := map[string]int{}
	r := rand.New(rand.NewSource(255))
	for i := range 300 {
		digits := []int{60, 90, 120, 150, 200, 400}[i%6]
		k := drawnTask(r, digits)
		k.Steps = 2
		if i%2 == 0 {
			k.Most = "1/" + tenTo(i%100)
		}
		q, ok := impl.AheadQuad(k)
		_, best := impl.BestOf(q)
		_, fine := impl.AheadControl(k)
		switch {
		case fine && ok && !best:
			found["no best"]++
		case fine && !ok:
			found["no quad"]++
		case fine:
			found["all"]++
		case ok:
			found["no control"]++
		}
		if digits < 200 {
			checkTask(t, k)
		}
	}
	if found["no best"] < 5 || found["no quad"] < 5 || found["all"] < 5 || found["no control"] < 5 {
		t.Error(found)
	}
}

// Numbers of 400 digits everywhere: the answer comes in good time.
func TestLongestQuads(t *testing.T) {
	r := rand.New(rand.NewSource(256))
	longLength := func() string { return strings.TrimPrefix(longFrac(r), "-") }
	longList := func(n int) []string {
		l := []string{}
		for range n {
			l = append(l, longFrac(r))
		}
		return l
	}
	for n := 1; n <= mostState; n++ {
		q := impl.Quad{H: identity(n, "0"), F: longList(n), Limits: longList(mostLimits)}
		for i := range n {
			q.H[i][i] = longLength()
		}
		for range mostLimits {
			q.G = append(q.G, longList(n))
		}
		if !impl.GoodQuad(q) {
			t.Fatal("GoodQuad of long numbers is false")
		}
		if b, ok := impl.BestOf(q); ok && b.Kind != impl.BestNone {
			t.Errorf("BestOf of long numbers: %.300v %v", b, ok)
		}
		if s, ok := impl.QuadValue(q, longList(n)); s != "" || ok {
			t.Errorf("QuadValue of long numbers: %.300q %v", s, ok)
		}
		checkAt(t, q, longList(n))
		// Nothing pulls, and all rows let 0 be.
		still := cloneQuad(q)
		still.F = slices.Repeat([]string{"0"}, n)
		for i := range mostLimits {
			still.Limits[i] = longLength()
		}
		want := impl.Best{Kind: impl.BestFound, X: still.F, Press: slices.Repeat([]string{"0"}, mostLimits), Value: "0"}
		if b, ok := impl.BestOf(still); !sameBest(b, want) || !ok || !impl.BestHolds(still, b) {
			t.Errorf("BestOf of long numbers from 0: %.300v %v", b, ok)
		}
		// Two rows are against each other: every mask is asked.
		for k := range n {
			q.G[mostLimits-1][k] = impl.SubFrac("0", q.G[0][k])
		}
		q.Limits[0], q.Limits[mostLimits-1] = "-"+longLength(), "-"+longLength()
		if b, ok := impl.BestOf(q); b.Kind != impl.BestNone || !ok {
			t.Errorf("BestOf of long numbers against each other: %.300v %v", b, ok)
		}
		checkHolds(t, q, impl.Best{Kind: impl.BestFound, X: longList(n), Press: longList(mostLimits), Value: longFrac(r)})
	}
	for steps := 1; steps <= 2; steps++ {
		k := impl.Task{A: longFrac(r), B: longFrac(r), X: longFrac(r), Weight: longLength(), Most: longLength(), Steps: steps}
		u, ok := impl.AheadControl(k)
		if ok && strings.TrimPrefix(u, "-") != k.Most {
			t.Errorf("AheadControl of long numbers: %.300q", u)
		}
		checkTask(t, k)
	}
}

// Drawn numbers of all lengths: mostly little can be told.
func TestDrawnLongQuads(t *testing.T) {
	r := rand.New(rand.NewSource(257))
	for i := range 60 {
		n, rows, digits := 1+i%mostState, i/mostState%(mostLimits+1), []int{5, 15, 40, 80, 120, 190}[i/mostState%6]
		q := drawnQuad(t, r, n, rows, min(digits, 40))
		q.F, q.Limits = drawnTexts(r, n, digits), drawnTexts(r, rows, digits)
		checkQuad(t, q)
		checkAt(t, q, drawnTexts(r, n, digits))
	}
}
