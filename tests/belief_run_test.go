package tests

import (
	"math/rand"
	"slices"
	"testing"

	"loop.example/g00047/impl"
)

func TestRunsOfBeliefs(t *testing.T) {
	up, twice := moveOf("1", "1", "1"), moveOf("2", "0", "0")
	see := seeOf("1", "2", "3")
	for _, c := range []struct {
		b     impl.Belief
		moves []impl.Move
		sees  [][]impl.See
		want  impl.Belief
	}{
		{beliefOf("0", "1"), nil, nil, beliefOf("0", "1")},
		{beliefOf("0", "1"), []impl.Move{up}, [][]impl.See{nil}, beliefOf("1", "2")},
		{beliefOf("0", "1"), []impl.Move{up}, [][]impl.See{{see}}, beliefOf("2", "1")},
		{beliefOf("0", "1"), []impl.Move{up, twice}, [][]impl.See{{see}, {}}, beliefOf("4", "4")},
		{beliefOf("0", "1"), []impl.Move{twice, up}, [][]impl.See{{}, {see}}, beliefOf("17/7", "10/7")},
		{beliefOf("0", "1"), []impl.Move{up, up}, [][]impl.See{{see}, {see}}, beliefOf("3", "1")},
		{beliefOf("0", "1"), []impl.Move{up}, [][]impl.See{{see, see}}, beliefOf("7/3", "2/3")},
		{beliefOf("0 1", "1 0 | 0 1"), []impl.Move{moveOf("1 1 | 0 1", "0 0", "0 0 | 0 0")}, [][]impl.See{{seeOf("1 0", "2", "5")}}, beliefOf("3 2", "1 1/2 | 1/2 3/4")},
	} {
		got, ok := impl.RunBelief(c.b, c.moves, c.sees)
		if !sameBelief(got, c.want) || !ok {
			t.Errorf("RunBelief of %q, %q, %q: got %q %v, want %q", c.b, c.moves, c.sees, got, ok, c.want)
		}
		checkBeliefRun(t, c.b, c.moves, c.sees)
	}
}

// drawnRun has so many moves, and at each step as many sees as seen says.
func drawnRun(t *testing.T, r *rand.Rand, n int, moves int, seen func() int) ([]impl.Move, [][]impl.See) {
	t.Helper()
	l, sees := []impl.Move{}, [][]impl.See{}
	for range moves {
		l, sees = append(l, drawnMove(t, r, n, 1)), append(sees, drawnSees(r, n, seen(), 1))
	}
	return l, sees
}

func TestDrawnRunsOfBeliefs(t *testing.T) {
	r := rand.New(rand.NewSource(150))
	for n := 1; n <= mostDim; n++ {
		told := 0
		for moves := range mostSteps + 2 {
			for range 6 {
				b := drawnBelief(t, r, n, 1)
				l, sees := drawnRun(t, r, n, moves, func() int { return r.Intn(3) })
				checkBeliefRun(t, b, l, sees)
				if _, ok := impl.RunBelief(b, l, sees); ok {
					told++
				}
			}
		}
		if told < 10 {
			t.Error("few runs have an answer:", told)
		}
	}
}

// steps are as many moves, each with as many sees, of which the answer stays short.
func steps(n int, moves int, sees int) ([]impl.Move, [][]impl.See) {
	l, seen := []impl.Move{}, [][]impl.See{}
	for i := range moves {
		m := stay(n)
		m.U[i%n], m.Q[i%n][i%n] = "1", "1/2"
		l, seen = append(l, m), append(seen, nil)
		for k := range sees {
			s := glance(n)
			s.H[k%n], s.Z = "2", impl.FracOf(i+k, 1)
			seen[i] = append(seen[i], s)
		}
	}
	return l, seen
}

// 0..MaxSteps moves, as many lists of sees, of 0..MaxSteps each: one more of anything has no answer.
func TestHowManyStepsARunHas(t *testing.T) {
	for n := 1; n <= mostDim; n++ {
		for moves := range mostSteps + 3 {
			for count := range mostSteps + 3 {
				l, sees := steps(n, moves, count)
				_, ok := impl.RunBelief(goodBelief(n), l, sees)
				if ok != (moves <= mostSteps && (count <= mostSteps || moves == 0)) {
					t.Errorf("RunBelief of %d moves and %d sees each: %v", moves, count, ok)
				}
				checkBeliefRun(t, goodBelief(n), l, sees)
				for _, other := range [][][]impl.See{append(slices.Clone(sees), nil), append(slices.Clone(sees), []impl.See{glance(n)}), make([][]impl.See, moves+2), make([][]impl.See, 100)} {
					checkNoBeliefRun(t, goodBelief(n), l, other)
				}
				if moves > 0 {
					checkNoBeliefRun(t, goodBelief(n), l, sees[:moves-1])
					checkNoBeliefRun(t, goodBelief(n), l[:moves-1], sees)
					checkNoBeliefRun(t, goodBelief(n), l, nil)
					checkNoBeliefRun(t, goodBelief(n), nil, sees)
				}
			}
		}
		// One list alone is too long, each in turn.
		for at := range mostSteps {
			l, sees := steps(n, mostSteps, 1)
			_, many := steps(n, 1, mostSteps)
			sees[at] = many[0]
			if _, ok := impl.RunBelief(goodBelief(n), l, sees); !ok {
				t.Errorf("RunBelief with %d sees at %d has no answer", mostSteps, at)
			}
			sees[at] = append(sees[at], glance(n))
			checkNoBeliefRun(t, goodBelief(n), l, sees)
		}
	}
	checkNoBeliefRun(t, goodBelief(1), make([]impl.Move, 1000), make([][]impl.See, 1000))
}

func checkNoBeliefRun(t *testing.T, b impl.Belief, moves []impl.Move, sees [][]impl.See) {
	t.Helper()
	if got, ok := impl.RunBelief(b, moves, sees); !sameBelief(got, impl.Belief{}) || ok {
		t.Errorf("RunBelief of %.200q, %.200q, %.200q: %.200q %v", b, moves, sees, got, ok)
	}
}

// In a run too the order of what is seen at one time does not matter.
func TestOrderOfSeesInRuns(t *testing.T) {
	r := rand.New(rand.NewSource(151))
	for n := 1; n <= mostDim; n++ {
		for range 10 {
			b := drawnBelief(t, r, n, 1)
			moves, sees := drawnRun(t, r, n, 2, func() int { return 2 })
			want, ok := impl.RunBelief(b, moves, sees)
			if !ok {
				continue
			}
			for i := range sees {
				slices.Reverse(sees[i])
				got, ok := impl.RunBelief(b, moves, sees)
				if !sameBelief(got, want) || !ok {
					t.Errorf("RunBelief of %q, %q, %q: %q %v, in the other order %q", b, moves, sees, got, ok, want)
				}
			}
		}
	}
}

// A wrong move or see anywhere in a run leaves no answer, also where all of it is forgotten behind it.
func TestWrongStepsInRuns(t *testing.T) {
	for n := 1; n <= mostDim; n++ {
		for at := range mostSteps {
			wrong := []func(*impl.Move){
				func(m *impl.Move) { m.F = nil },
				func(m *impl.Move) { m.U = m.U[1:] },
				func(m *impl.Move) { m.Q = identity(n, "-1") },
				func(m *impl.Move) { m.Q = sunken(t, n, 1<<n-1, "-1/100").M },
				func(m *impl.Move) { m.Q[n-1][0] = "x" },
				func(m *impl.Move) { m.F[0][n-1] = "" },
				func(m *impl.Move) { m.U[0] = "2/4" },
				func(m *impl.Move) { *m = goodMove(n + 1) },
				func(m *impl.Move) { *m = impl.Move{} },
			}
			for _, spoiled := range wrong {
				l, sees := steps(n, mostSteps, 1)
				l[mostSteps-1] = forget(n)
				spoiled(&l[at])
				checkNoBeliefRun(t, goodBelief(n), l, sees)
				checkBeliefRun(t, goodBelief(n), l, sees)
			}
			for k := range 3 {
				for _, spoiled := range []func(*impl.See){
					func(s *impl.See) { s.H = nil },
					func(s *impl.See) { s.H = append(s.H, "0") },
					func(s *impl.See) { s.R = "0" },
					func(s *impl.See) { s.R = "-1" },
					func(s *impl.See) { s.Z = "" },
					func(s *impl.See) { s.H[n-1] = "1/0" },
					func(s *impl.See) { *s = impl.See{} },
				} {
					l, sees := steps(n, mostSteps, 3)
					l[mostSteps-1] = forget(n)
					spoiled(&sees[at][k])
					checkNoBeliefRun(t, goodBelief(n), l, sees)
					checkBeliefRun(t, goodBelief(n), l, sees)
				}
			}
		}
	}
}

// A spread on the way that is not half sure: the Q of the move behind it would make it so again.
func TestSpreadsBelowNoughtOnTheWay(t *testing.T) {
	for n := 1; n <= mostDim; n++ {
		down, up := stay(n), stay(n)
		down.Q, up.Q = identity(n, "-3"), identity(n, "5")
		checkNoBeliefRun(t, goodBelief(n), []impl.Move{down, up}, [][]impl.See{nil, nil})
		checkNoBeliefRun(t, goodBelief(n), []impl.Move{down, forget(n)}, [][]impl.See{nil, nil})
		checkNoBeliefRun(t, goodBelief(n), []impl.Move{up, down}, [][]impl.See{nil, nil})
		if _, ok := impl.RunBelief(goodBelief(n), []impl.Move{up, up}, [][]impl.See{nil, nil}); !ok {
			t.Error("a run that is as said has no answer")
		}
	}
}

// A belief on the way is too long, by its mean or its spread, by a move or a see, while the last one is short again. What would come out without that is told by the test.
func TestBeliefsThatAreTooLongOnTheWay(t *testing.T) {
	for _, c := range []struct {
		b     impl.Belief
		moves []impl.Move
		sees  [][]impl.See
		fine  bool
	}{
		// The mean, by moves: 399 noughts are told, 400 are not.
		{beliefOf(tenTo(398), "1"), []impl.Move{moveOf("10", "0", "0"), moveOf("1/10", "0", "0")}, [][]impl.See{nil, nil}, true},
		{beliefOf(tenTo(399), "1"), []impl.Move{moveOf("10", "0", "0"), moveOf("1/10", "0", "0")}, [][]impl.See{nil, nil}, false},
		{beliefOf("1/"+tenTo(398), "0"), []impl.Move{moveOf("1/10", "0", "0"), moveOf("10", "0", "0")}, [][]impl.See{nil, nil}, true},
		{beliefOf("1/"+tenTo(399), "0"), []impl.Move{moveOf("1/10", "0", "0"), moveOf("10", "0", "0")}, [][]impl.See{nil, nil}, false},
		{beliefOf(nines(400), "0"), []impl.Move{moveOf("1", "1", "0"), moveOf("1", "-1", "0")}, [][]impl.See{nil, nil}, false},
		{beliefOf(nines(399)+"8", "0"), []impl.Move{moveOf("1", "1", "0"), moveOf("1", "-1", "0")}, [][]impl.See{nil, nil}, true},
		{beliefOf(tenTo(399), "1"), []impl.Move{moveOf("10", "0", "0"), forget(1)}, [][]impl.See{nil, nil}, false},
		// The spread alone, by moves.
		{beliefOf("0", tenTo(397)), []impl.Move{moveOf("10", "0", "0"), moveOf("1/10", "0", "0")}, [][]impl.See{nil, nil}, true},
		{beliefOf("0", tenTo(398)), []impl.Move{moveOf("10", "0", "0"), moveOf("1/10", "0", "0")}, [][]impl.See{nil, nil}, false},
		{beliefOf("0", nines(400)), []impl.Move{moveOf("1", "0", "1"), forget(1)}, [][]impl.See{nil, nil}, false},
		{beliefOf("0", nines(399)+"8"), []impl.Move{moveOf("1", "0", "1"), forget(1)}, [][]impl.See{nil, nil}, true},
		// The mean behind the move, short again by what is seen in the same step: it is 0 then.
		{beliefOf(nines(400), "1"), []impl.Move{moveOf("1", "1", "0")}, [][]impl.See{{seeOf("1", "1", "-"+nines(400))}}, false},
		{beliefOf(nines(399)+"8", "1"), []impl.Move{moveOf("1", "1", "0")}, [][]impl.See{{seeOf("1", "1", "-"+nines(400))}}, true},
		// The mean behind the first of two sees, and the spread alone.
		{beliefOf("1/"+nines(250), "1"), []impl.Move{stay(1), forget(1)}, [][]impl.See{{seeOf("1", "1", "1/"+tenTo(200))}, nil}, false},
		{beliefOf("1/"+nines(190), "1"), []impl.Move{stay(1), forget(1)}, [][]impl.See{{seeOf("1", "1", "1/"+tenTo(200))}, nil}, true},
		{beliefOf("7", "1"), []impl.Move{stay(1), forget(1)}, [][]impl.See{{seeOf("1", "1/"+nines(400), "7")}, nil}, false},
		{beliefOf("7", "1"), []impl.Move{stay(1), forget(1)}, [][]impl.See{{seeOf("1", "1/"+nines(399), "7")}, nil}, true},
		{beliefOf("1 2", "0 0 | 0 "+nines(400)), []impl.Move{moveOf("1 0 | 0 1", "0 0", "0 0 | 0 1"), moveOf("1 0 | 0 0", "0 0", "0 0 | 0 0")}, [][]impl.See{nil, nil}, false},
		// With five moves the fourth one is too long.
		{beliefOf(tenTo(396), "0"), slices.Concat(slices.Repeat([]impl.Move{moveOf("10", "0", "0")}, 4), []impl.Move{forget(1)}), make([][]impl.See, 5), false},
		{beliefOf(tenTo(395), "0"), slices.Concat(slices.Repeat([]impl.Move{moveOf("10", "0", "0")}, 4), []impl.Move{forget(1)}), make([][]impl.See, 5), true},
	} {
		g := guessOf(t, c.b)
		for i, m := range c.moves {
			g = g.moved(t, m)
			for _, s := range c.sees[i] {
				g = g.saw(t, s)
			}
		}
		if last, fits := g.tell(); !fits || !isBelief(t, last) {
			t.Fatalf("the last belief of the test is too long: %.300q", c.b)
		}
		if _, ok := impl.RunBelief(c.b, c.moves, c.sees); ok != c.fine {
			t.Errorf("RunBelief of %.200q, %.300q, %.200q: %v", c.b, c.moves, c.sees, ok)
		}
		checkBeliefRun(t, c.b, c.moves, c.sees)
	}
}

// A walk is a run of a belief of one number, whose moves are its drift.
func TestWalksAreRuns(t *testing.T) {
	r := rand.New(rand.NewSource(152))
	for range 20 {
		w := drawnWalk(r, mostSteps, 2)
		m, p, _ := impl.FilterWalk(w)
		moves, sees := []impl.Move{}, [][]impl.See{}
		for i, s := range w.Seen {
			moves, sees = append(moves, moveOf("1", "0", w.Drift)), append(sees, nil)
			if i == 0 {
				moves[0] = stay(1)
			}
			if s != "" {
				sees[i] = []impl.See{seeOf("1", w.Noise, s)}
			}
			got, ok := impl.RunBelief(beliefOf(w.First, w.Spread), moves, sees)
			if !ok || !sameBelief(got, beliefOf(m[i], p[i])) {
				t.Errorf("FilterWalk of %q is %q and %q at %d, but RunBelief is %q %v", w, m[i], p[i], i, got, ok)
			}
		}
	}
}
