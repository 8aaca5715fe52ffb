package tests

import (
	"math/big"
	"math/rand"
	"testing"

	"loop.example/g00047/impl"
)

func TestTurnsByHand(t *testing.T) {
	for _, c := range []struct {
		turn     impl.Turn
		cos, sin string
	}{
		{straight, "1", "0"}, {around, "-1", "0"}, {quarter, "0", "1"}, {impl.Turn{P: -1, Q: 1}, "0", "-1"},
		{impl.Turn{P: 1, Q: 2}, "3/5", "4/5"}, {impl.Turn{P: -1, Q: 2}, "3/5", "-4/5"}, {impl.Turn{P: 2, Q: 1}, "-3/5", "4/5"}, {impl.Turn{P: -2, Q: 1}, "-3/5", "-4/5"},
		{impl.Turn{P: 1, Q: 3}, "4/5", "3/5"}, {impl.Turn{P: 2, Q: 3}, "5/13", "12/13"},
		{impl.Turn{P: mostTurn, Q: 1}, "-999999999999/1000000000001", "2000000/1000000000001"},
		{impl.Turn{P: -1, Q: mostTurn}, "999999999999/1000000000001", "-2000000/1000000000001"},
		{impl.Turn{P: 999999, Q: mostTurn}, "1999999/1999998000001", "1999998000000/1999998000001"},
	} {
		if cos, sin := impl.CosSin(c.turn); cos != c.cos || sin != c.sin {
			t.Errorf("CosSin(%v): %q %q", c.turn, cos, sin)
		}
		if turn, ok := impl.TurnOf(c.cos, c.sin); turn != c.turn || !ok {
			t.Errorf("TurnOf(%q, %q): %v %v", c.cos, c.sin, turn, ok)
		}
	}
}

// checkOneTurn: a good turn is the turn of its cosine and sine; any other has neither.
func checkOneTurn(t *testing.T, turn impl.Turn) {
	t.Helper()
	if impl.GoodTurn(turn) != isTurn(turn) {
		t.Errorf("GoodTurn(%v): %v", turn, !isTurn(turn))
	}
	cos, sin := impl.CosSin(turn)
	if !isTurn(turn) {
		if cos != "" || sin != "" {
			t.Errorf("CosSin(%v): %q %q", turn, cos, sin)
		}
		return
	}
	way := wayOfTurn(turn)
	if cos != textOf(way.re) || sin != textOf(way.im) {
		t.Errorf("CosSin(%v): %q %q", turn, cos, sin)
	}
	if got, ok := impl.TurnOf(cos, sin); got != turn || !ok {
		t.Errorf("TurnOf CosSin(%v): %v %v", turn, got, ok)
	}
	back := turnFor(way.mirrored())
	checkJoined(t, turn, back, straight)
	checkJoined(t, back, turn, straight)
	checkJoined(t, turn, straight, turn)
	checkJoined(t, straight, turn, turn)
}

func TestEveryTurnIsThatOfItsCosineAndSine(t *testing.T) {
	smallTurns(30, func(turn impl.Turn) { checkOneTurn(t, turn) })
	for _, turn := range append(edgeTurns(), wrongTurns()...) {
		checkOneTurn(t, turn)
	}
	r := rand.New(rand.NewSource(70))
	for range 1000 {
		checkOneTurn(t, drawnTurn(r, mostTurn))
		checkOneTurn(t, impl.Turn{P: r.Intn(2*mostTurn+1) - mostTurn, Q: r.Intn(2*mostTurn+1) - mostTurn})
	}
	for _, turn := range edgeTurns() {
		if !isTurn(turn) || !impl.GoodTurn(turn) {
			t.Errorf("good: %v", turn)
		}
	}
	for _, turn := range wrongTurns() {
		if isTurn(turn) || impl.GoodTurn(turn) {
			t.Errorf("not good: %v", turn)
		}
	}
}

// Whole circles in steps: so many times the turn is none, or half of all round, and never ahead of that.
func TestTurnsAllRound(t *testing.T) {
	for steps, turn := range map[int]impl.Turn{2: around, 4: quarter} {
		sum := straight
		for i := range steps {
			if i > 0 && sum == straight {
				t.Errorf("%v: all round after %d", turn, i)
			}
			sum = impl.JoinTurn(sum, turn)
		}
		if sum != straight {
			t.Errorf("%v: %v after %d", turn, sum, steps)
		}
	}
	checkJoined(t, quarter, quarter, around)
	checkJoined(t, impl.Turn{P: -1, Q: 1}, impl.Turn{P: -1, Q: 1}, around)
	checkJoined(t, around, around, straight)
	checkJoined(t, around, straight, around)
	checkJoined(t, around, quarter, impl.Turn{P: -1, Q: 1})
	checkJoined(t, around, impl.Turn{P: -1, Q: 1}, quarter)
	checkJoined(t, around, impl.Turn{P: 1, Q: 2}, impl.Turn{P: -2, Q: 1})
	checkJoined(t, around, impl.Turn{P: -1, Q: 2}, impl.Turn{P: 2, Q: 1})
	checkJoined(t, around, impl.Turn{P: mostTurn, Q: 1}, impl.Turn{P: -1, Q: mostTurn})
	checkJoined(t, around, impl.Turn{P: -999999, Q: mostTurn}, impl.Turn{P: mostTurn, Q: 999999})
	checkJoined(t, around, impl.Turn{P: 1, Q: mostTurn}, impl.Turn{P: -mostTurn, Q: 1})
}

// checkJoining: the joined turn's cosine and sine are those of the sum of both angles, whichever is first.
func checkJoining(t *testing.T, a impl.Turn, b impl.Turn) {
	t.Helper()
	want := turnFor(wayOfTurn(a).mul(wayOfTurn(b)))
	checkJoined(t, a, b, want)
	checkJoined(t, b, a, want)
	if want != (impl.Turn{}) && !impl.GoodTurn(want) {
		t.Errorf("JoinTurn(%v, %v): %v is not good", a, b, want)
	}
}

func TestJoinTurnIsOneBehindTheOther(t *testing.T) {
	smallTurns(4, func(a impl.Turn) {
		smallTurns(4, func(b impl.Turn) {
			if isTurn(a) && isTurn(b) {
				checkJoining(t, a, b)
				return
			}
			checkJoined(t, a, b, impl.Turn{})
		})
	})
	for _, a := range edgeTurns() {
		for _, b := range edgeTurns() {
			checkJoining(t, a, b)
		}
	}
	r := rand.New(rand.NewSource(71))
	for range 1000 {
		checkJoining(t, drawnTurn(r, 30), drawnTurn(r, 30))
		checkJoining(t, drawnTurn(r, 1200), drawnTurn(r, 1200))
		checkJoining(t, drawnTurn(r, mostTurn), drawnTurn(r, mostTurn))
	}
}

// Three turns: whichever two are joined first, where all of that is good.
func TestJoinTurnOfThree(t *testing.T) {
	r := rand.New(rand.NewSource(72))
	for range 1000 {
		a, b, c := drawnTurn(r, 60), drawnTurn(r, 60), drawnTurn(r, 60)
		one, two := impl.JoinTurn(impl.JoinTurn(a, b), c), impl.JoinTurn(a, impl.JoinTurn(b, c))
		if one != two || one == (impl.Turn{}) {
			t.Errorf("%v, %v and %v: %v and %v", a, b, c, one, two)
		}
	}
}

// The limit may be met exactly, and is asked for behind taking out the common divisor.
func TestJoinTurnAtTheLimit(t *testing.T) {
	for _, c := range []struct{ a, b, want impl.Turn }{
		{impl.Turn{P: 1, Q: 1000}, impl.Turn{P: 999, Q: 1000}, impl.Turn{P: mostTurn, Q: 999001}},
		{impl.Turn{P: -1, Q: 1000}, impl.Turn{P: -999, Q: 1000}, impl.Turn{P: -mostTurn, Q: 999001}},
		{impl.Turn{P: 1, Q: 1000}, impl.Turn{P: -1000, Q: 999}, impl.Turn{P: -999001, Q: mostTurn}},
		{impl.Turn{P: 1, Q: 1000}, impl.Turn{P: 1000, Q: 1}, around},
		{impl.Turn{P: 1, Q: 1000}, impl.Turn{P: 999, Q: 1001}, quarter},
		{impl.Turn{P: 1, Q: 1000}, impl.Turn{P: 998, Q: 2001}, impl.Turn{P: 1, Q: 2}},
		{impl.Turn{P: 1, Q: 1001}, impl.Turn{P: 1, Q: 1001}, impl.Turn{P: 1001, Q: 501000}},
		{impl.Turn{P: 1, Q: mostTurn}, impl.Turn{P: -1, Q: mostTurn}, straight},
		{impl.Turn{P: mostTurn, Q: 1}, impl.Turn{P: 1, Q: mostTurn}, around},
		{impl.Turn{P: 1, Q: 1000}, impl.Turn{P: 1, Q: 1000}, impl.Turn{P: 2000, Q: 999999}},
		{impl.Turn{P: 1, Q: 1002}, impl.Turn{P: 1, Q: 1002}, impl.Turn{}},
		{impl.Turn{P: 1, Q: 999}, impl.Turn{P: 1000, Q: 1001}, impl.Turn{}},
		{impl.Turn{P: -1, Q: 999}, impl.Turn{P: -1000, Q: 1001}, impl.Turn{}},
		{impl.Turn{P: 1, Q: 999}, impl.Turn{P: -2, Q: 1001}, impl.Turn{}},
		{impl.Turn{P: mostTurn, Q: 1}, impl.Turn{P: mostTurn, Q: 1}, impl.Turn{}},
	} {
		checkJoining(t, c.a, c.b)
		checkJoined(t, c.a, c.b, c.want)
	}
}

func TestTurnOfNoTurn(t *testing.T) {
	for _, c := range [][2]string{{"-1", "1"}, {"-1", "-1"}, {"-1", "1/2"}, {"1", "1"}, {"1", "-1"}, {"0", "0"}, {"2", "0"}, {"-2", "0"}, {"0", "2"}, {"0", "1/2"}, {"1/2", "1/2"}, {"3/5", "3/5"}, {"3/5", "-3/5"},
		{"4/5", "4/5"}, {"3/5", "0"}, {"0", "4/5"}, {"5/4", "3/4"}, {"-5/4", "3/4"}, {"6/5", "8/5"}, {"3/5", "12/13"}, {"1/3", "2/3"}, {"-3", "2"}, {nines(400), nines(400)}, {"1/" + nines(400), "1"}, {"1", "1/" + nines(400)}, {"-" + nines(400) + "/" + tenTo(399), "0"}} {
		if got, ok := impl.TurnOf(c[0], c[1]); got != (impl.Turn{}) || ok {
			t.Errorf("TurnOf(%.40q, %.40q): %v %v", c[0], c[1], got, ok)
		}
	}
	r := rand.New(rand.NewSource(73))
	for range 500 {
		cos, sin := impl.CosSin(drawnTurn(r, 50))
		other, another := impl.CosSin(drawnTurn(r, 50))
		way := spot{rat(t, cos), rat(t, another)}
		got, ok := impl.TurnOf(cos, another)
		if fits := way.square().Cmp(big.NewRat(1, 1)) == 0; ok != fits || fits != (got != impl.Turn{}) || fits && got != turnFor(way) {
			t.Errorf("TurnOf(%q, %q): %v %v", cos, another, got, ok)
		}
		if _, ok := impl.TurnOf(impl.MulFrac(other, "2"), impl.MulFrac(another, "2")); ok {
			t.Errorf("TurnOf twice %q, %q", other, another)
		}
		if sin != "0" {
			if _, ok := impl.TurnOf(cos, impl.AddFrac(sin, "1/"+nines(300))); ok {
				t.Errorf("TurnOf(%q, nearly %q)", cos, sin)
			}
		}
	}
}

// A cosine and a sine whose turn is beyond the limit, just so or by far; and the last ones that are not.
func TestTurnOfBeyondTheLimit(t *testing.T) {
	for _, c := range []struct {
		p, q int64
		fits bool
	}{
		{1, mostTurn, true}, {-1, mostTurn, true}, {mostTurn, 1, true}, {-mostTurn, 1, true}, {mostTurn, mostTurn - 1, true}, {mostTurn - 1, mostTurn, true},
		{1, mostTurn + 1, false}, {-1, mostTurn + 1, false}, {mostTurn + 1, 1, false}, {-mostTurn - 1, 1, false}, {mostTurn + 1, mostTurn, false}, {mostTurn, mostTurn + 1, false}, {-mostTurn - 1, mostTurn, false},
		{1, 1 << 32, false}, {1<<32 + 1, 2, false}, {1<<62 + 1, 2, false}, {-1 << 63, 1, false}, {1, 1<<63 - 1, false}, {-1 << 63, 1<<63 - 1, false},
	} {
		way := wayOf(c.p, c.q)
		got, ok := impl.TurnOf(textOf(way.re), textOf(way.im))
		if want := (impl.Turn{P: int(c.p), Q: int(c.q)}); ok != c.fits || c.fits && got != want || !c.fits && got != (impl.Turn{}) {
			t.Errorf("TurnOf of %d / %d: %v %v", c.p, c.q, got, ok)
		}
	}
	// Its numbers have hundreds of digits, the lower one 399: far beyond int.
	way := wayAlong(big.NewRat(1, 1), rat(t, tenTo(199)))
	for _, w := range []spot{way, way.mirrored(), way.by(big.NewRat(-1, 1))} {
		cos, sin := textOf(w.re), textOf(w.im)
		if got, ok := impl.TurnOf(cos, sin); !isFrac(cos) || !isFrac(sin) || got != (impl.Turn{}) || ok {
			t.Errorf("TurnOf of a far one: %v %v", got, ok)
		}
	}
}
