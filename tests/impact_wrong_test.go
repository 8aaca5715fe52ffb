package tests

import (
	"math/rand"
	"slices"
	"strings"
	"sync"
	"testing"

	"loop.example/g00047/impl"
)

// wrongBodies has the text in each place that must hold a good fraction, one by one.
func wrongBodies(b impl.Body, s string) []impl.Body {
	l := slices.Repeat([]impl.Body{b}, 5)
	l[0].Mass, l[1].X, l[2].Y, l[3].U, l[4].V = s, s, s, s, s
	return l
}

func wrongBeads(b impl.Bead, s string) []impl.Bead {
	l := slices.Repeat([]impl.Bead{b}, 3)
	l[0].Mass, l[1].At, l[2].Speed = s, s, s
	return l
}

// noMasses are good fractions, but not above 0.
func noMasses() []string {
	return []string{"0", "-1", "-1/2", "-7", "-" + nines(400), "-1/" + nines(400)}
}

// noRests are good fractions, but not in 0..1.
func noRests() []string {
	return []string{"-1", "-1/2", "-1/" + nines(400), "-" + nines(400), "2", "3/2", "101/100", nines(400) + "/" + tenTo(399), nines(400), "10", tenTo(399)}
}

// checkNoStrike: what Strike does not take, by the test's own word.
func checkNoStrike(t *testing.T, a impl.Body, b impl.Body, nx string, ny string, e string) {
	t.Helper()
	if got, ok := impl.Strike(a, b, nx, ny, e); len(got) != 0 || ok {
		t.Errorf("Strike of %.100q, %.100q, %.40q, %.40q, %.40q: %.300q", a, b, nx, ny, e, got)
	}
}

func checkNoBody(t *testing.T, wrong impl.Body) {
	t.Helper()
	good := impl.Body{Mass: "1", X: "0", Y: "0", U: "2", V: "3"}
	if impl.GoodBody(wrong) {
		t.Errorf("GoodBody of %.100q", wrong)
	}
	for _, n := range []string{"1", "-1"} {
		checkNoStrike(t, wrong, good, n, "0", "1")
		checkNoStrike(t, good, wrong, n, "0", "1")
		checkNoStrike(t, wrong, wrong, "0", n, "0")
	}
	for _, l := range [][]impl.Body{{wrong}, {wrong, good}, {good, wrong}, {good, wrong, good}, append(slices.Repeat([]impl.Body{good}, 11), wrong)} {
		if x, y, ok := impl.Momentum(l); x != "" || y != "" || ok {
			t.Errorf("Momentum with %.100q: %.40q %.40q %v", wrong, x, y, ok)
		}
		if s, ok := impl.Energy(l); s != "" || ok {
			t.Errorf("Energy with %.100q: %.40q %v", wrong, s, ok)
		}
		if s, ok := impl.Whirl(l); s != "" || ok {
			t.Errorf("Whirl with %.100q: %.40q %v", wrong, s, ok)
		}
	}
}

func TestWrongBodiesHaveTheZeroAnswer(t *testing.T) {
	for _, s := range wrongTexts() {
		for _, wrong := range wrongBodies(impl.Body{Mass: "1", X: "1", Y: "2", U: "3", V: "4"}, s) {
			checkNoBody(t, wrong)
		}
	}
	for _, s := range noMasses() {
		checkNoBody(t, impl.Body{Mass: s, X: "1", Y: "2", U: "3", V: "4"})
		checkNoBody(t, impl.Body{Mass: s, X: "0", Y: "0", U: "0", V: "0"})
	}
	checkNoBody(t, impl.Body{})
}

// All but the mass may be any good fraction.
func TestGoodBodies(t *testing.T) {
	for _, s := range goodTexts() {
		for i, b := range wrongBodies(impl.Body{Mass: "1", X: "1", Y: "2", U: "3", V: "4"}, s) {
			if want := i > 0 || isLength(s); impl.GoodBody(b) != want {
				t.Errorf("GoodBody of %.300q: %v", b, !want)
			}
			checkSumsOf(t, []impl.Body{b})
			checkStrike(t, b, moving("2", "1", "1"), "1", "0", "1")
			checkStrike(t, moving("2", "1", "1"), b, "1", "1", "1/2")
		}
	}
}

func TestStrikesOfWrongTexts(t *testing.T) {
	a, b := moving("1", "2", "1"), moving("1", "0", "0")
	for _, s := range wrongTexts() {
		checkNoStrike(t, a, b, s, "1", "1")
		checkNoStrike(t, a, b, "1", s, "1")
		checkNoStrike(t, a, b, s, s, "1")
		checkNoStrike(t, a, b, "1", "1", s)
		// Those that go apart stay as they are, but not if anything is wrong.
		checkNoStrike(t, a, b, s, "-1", "1")
		checkNoStrike(t, a, b, "-1", s, "1")
		checkNoStrike(t, a, b, "-1", "-1", s)
	}
	for _, s := range noRests() {
		checkNoStrike(t, a, b, "1", "0", s)
		checkNoStrike(t, a, b, "-1", "0", s)
		checkNoStrike(t, a, b, "1", "-2", s)
	}
	for _, e := range []string{"0", "1", "1/2"} {
		checkNoStrike(t, a, b, "0", "0", e)
		checkNoStrike(t, b, b, "0", "0", e)
		checkNoStrike(t, a, b, "0", "", e)
		checkNoStrike(t, a, b, "", "0", e)
	}
}

func checkNoRun(t *testing.T, l []impl.Bead, e string, until string) {
	t.Helper()
	if to, met, ok := impl.RunBeads(l, e, until); len(to) != 0 || len(met) != 0 || ok {
		t.Errorf("RunBeads of %.300q, %.40q, %.40q: %.300q %v %v", l, e, until, to, met, ok)
	}
}

func checkNoBead(t *testing.T, wrong impl.Bead) {
	t.Helper()
	good := impl.Bead{Mass: "1", At: "0", Speed: "1"}
	for _, l := range [][]impl.Bead{{wrong}, {wrong, good}, {good, wrong}, {good, good, wrong}, append(slices.Repeat([]impl.Bead{good}, 11), wrong)} {
		if impl.GoodBeads(l) {
			t.Errorf("GoodBeads with %.100q", wrong)
		}
		checkNoRun(t, l, "1", "1")
		checkNoRun(t, l, "0", "0")
	}
}

func TestWrongBeadsHaveTheZeroAnswer(t *testing.T) {
	for _, s := range wrongTexts() {
		for _, wrong := range wrongBeads(impl.Bead{Mass: "1", At: "0", Speed: "0"}, s) {
			checkNoBead(t, wrong)
		}
	}
	for _, s := range noMasses() {
		checkNoBead(t, impl.Bead{Mass: s, At: "0", Speed: "0"})
	}
	checkNoBead(t, impl.Bead{})
	for _, s := range goodTexts() {
		for _, b := range wrongBeads(impl.Bead{Mass: "1", At: "0", Speed: "1"}, s) {
			checkRun(t, []impl.Bead{b}, "1", "1")
			checkRun(t, []impl.Bead{{Mass: "2", At: "0", Speed: "3"}, b}, "1", "1/2")
			checkRun(t, []impl.Bead{b, {Mass: "2", At: "3", Speed: "-3"}}, "1/2", "3/2")
		}
	}
}

func TestRunsOfWrongTexts(t *testing.T) {
	for _, l := range [][]impl.Bead{nil, {}, row("1 0 0"), row("1 0 1 | 1 2 0"), row("1 0 1 | 1 0 0"), row("1 0 0 | 1 0 1")} {
		for _, s := range wrongTexts() {
			checkNoRun(t, l, s, "1")
			checkNoRun(t, l, "1", s)
			checkNoRun(t, l, s, s)
		}
		for _, s := range noRests() {
			checkNoRun(t, l, s, "0")
			checkNoRun(t, l, s, "3")
		}
		for _, s := range []string{"-1", "-1/2", "-3", "-1/" + nines(400), "-" + nines(400)} {
			checkNoRun(t, l, "1", s)
			checkNoRun(t, l, "0", s)
		}
		for _, s := range goodTexts() {
			checkRun(t, l, s, "3")
			checkRun(t, l, "1", s)
		}
	}
	for _, l := range [][]impl.Bead{nil, {}} {
		if to, met, ok := impl.RunBeads(l, "1/2", "7"); !impl.GoodBeads(l) || len(to) != 0 || len(met) != 0 || !ok {
			t.Error("no bead is good:", to, met, ok)
		}
	}
}

func sameBody(a impl.Body, b impl.Body) bool { return a == b }

func sameBead(a impl.Bead, b impl.Bead) bool { return a == b }

// What lies behind the bodies and the beads counts for nothing and stays, as the lists do.
func TestWhatLiesBehindBodies(t *testing.T) {
	r := rand.New(rand.NewSource(99))
	moreBodies, moreBeads := []impl.Body{{}, moving("1", "5", "6"), {Mass: "x"}}, []impl.Bead{{}, {Mass: "1", At: "-99", Speed: "1"}, {Mass: "1", At: "0", Speed: "-99"}}
	for n := range mostBodies + 2 {
		for range 5 {
			bodies, beads := drawnBodies(r, n, 5), drawnBeads(r, n, 3)
			handedBodies, handedBeads := behind(bodies, moreBodies...), behind(beads, moreBeads...)
			checkSumsOf(t, handedBodies)
			checkRun(t, handedBeads, "1", "2")
			checkRun(t, handedBeads, "0", "1/2")
			if !kept(handedBodies, bodies, sameBody, moreBodies...) || !kept(handedBeads, beads, sameBead, moreBeads...) {
				t.Errorf("a list was changed: %q and %q", handedBodies, handedBeads)
			}
			checkSumsOf(t, handedBodies[:n+1])
			checkRun(t, handedBeads[:n+1], "1", "2")
			checkSumsOf(t, handedBodies[:n/2])
			checkRun(t, handedBeads[:n/2], "1", "2")
		}
	}
}

// Whoever writes into an answer changes nothing else: no other list of it, no later answer, no argument.
func TestImpactAnswersAreNewMemory(t *testing.T) {
	a, b := moving("1", "2", "1"), moving("1", "0", "0")
	from := row("1 0 1 | 1 2 0 | 1 4 -1")
	for range 3 {
		for _, n := range []string{"1", "-1"} {
			struck, _ := impl.Strike(a, b, n, "0", "1")
			spoil(struck, impl.Body{Mass: "x"})
			checkStrike(t, a, b, n, "0", "1")
		}
		for _, until := range []string{"0", "1", "5"} {
			to, met, _ := impl.RunBeads(from, "1", until)
			before := slices.Clone(met)
			spoil(to, impl.Bead{Mass: "x"})
			if !slices.Equal(met, before) || !slices.Equal(from, row("1 0 1 | 1 2 0 | 1 4 -1")) {
				t.Fatal("the beads of RunBeads share memory:", met, from)
			}
			spoil(met, impl.Meeting{Time: "x", Left: 7})
			if !slices.Equal(from, row("1 0 1 | 1 2 0 | 1 4 -1")) {
				t.Fatal("an argument was changed:", from)
			}
			checkRun(t, from, "1", until)
		}
	}
}

// The same call has the same answer every time, many at once too.
func TestImpactAnswersAreTheSameEveryTime(t *testing.T) {
	r := rand.New(rand.NewSource(100))
	bodies, beads := drawnBodies(r, mostBodies, 9), passing(mostMeets)
	struck, _ := impl.Strike(bodies[0], bodies[1], "2", "1/3", "1/2")
	x, y, _ := impl.Momentum(bodies)
	energy, _ := impl.Energy(bodies)
	whirl, _ := impl.Whirl(bodies)
	to, met, ok := impl.RunBeads(beads, "1", tenTo(9))
	if !ok || len(struck) != 2 || x == "" || energy == "" || whirl == "" {
		t.Fatal("no answer:", struck, x, y, energy, whirl, to)
	}
	var all sync.WaitGroup
	for range 8 {
		all.Go(func() {
			for range 20 {
				gotStruck, _ := impl.Strike(bodies[0], bodies[1], "2", "1/3", "1/2")
				u, v, _ := impl.Momentum(bodies)
				gotEnergy, _ := impl.Energy(bodies)
				gotWhirl, _ := impl.Whirl(bodies)
				gotTo, gotMet, _ := impl.RunBeads(beads, "1", tenTo(9))
				if !slices.Equal(gotStruck, struck) || u != x || v != y || gotEnergy != energy || gotWhirl != whirl || !slices.Equal(gotTo, to) || !slices.Equal(gotMet, met) {
					t.Error("another answer")
				}
			}
		})
	}
	all.Wait()
}

// FuzzImpacts asks every function of any texts; bodies and beads stand in one text, with bars between the texts.
func FuzzImpacts(f *testing.F) {
	for _, c := range runCases() {
		f.Add(strings.NewReplacer(" | ", "|", " ", "|").Replace(c.from), c.e, c.until, "1", "0")
	}
	for _, s := range append(goodTexts(), "", "-0", "1/0", "2/4", "1|1|1|1|1|1|1|1|1|1|1|1|1|1|1|1|1|1|1|1|1|1|1|1|1|1|1|1|1|1|1|1|1|1|1|1|1|1|1|1") {
		f.Add(s+"|"+s+"|1|2|0|1", "1/2", "3", s, "1")
		f.Add("1|0|2|1|0|1", s, s, "1", s)
		f.Add("1|0|3|2|"+s+"|1|1|5|-1|1|6|0", "0", "7", "-1", s)
	}
	f.Fuzz(func(t *testing.T, bars string, e string, until string, nx string, ny string) {
		parts := strings.Split(bars, "|")
		bodies, beads := []impl.Body{}, []impl.Bead{}
		for p := parts; len(p) >= 5 && len(bodies) < 14; p = p[5:] {
			bodies = append(bodies, impl.Body{Mass: p[0], X: p[1], Y: p[2], U: p[3], V: p[4]})
		}
		for p := parts; len(p) >= 3 && len(beads) < 14; p = p[3:] {
			beads = append(beads, impl.Bead{Mass: p[0], At: p[1], Speed: p[2]})
		}
		checkSumsOf(t, bodies)
		for i := range bodies {
			checkStrike(t, bodies[i], bodies[(i+1)%len(bodies)], nx, ny, e)
		}
		checkRun(t, beads, e, until)
		checkRun(t, beads, "1", until)
	})
}
