package tests

import (
	"fmt"
	"math/big"
	"math/rand"
	"testing"

	"loop.example/g00047/impl"
)

func TestGoodSpin(t *testing.T) {
	for _, s := range edgeSpins() {
		if !impl.GoodSpin(s) || !isSpin(s) {
			t.Errorf("good: %v", s)
		}
	}
	for _, s := range wrongSpins() {
		if impl.GoodSpin(s) || isSpin(s) {
			t.Errorf("not good: %v", s)
		}
	}
	for at := range 4 {
		for _, n := range []int{-1, 0, 1} {
			for _, s := range []impl.Spin{with(impl.Spin{A: 5, B: 5, C: 5, D: 5}, at, mostSpin+n), with(impl.Spin{}, at, -mostSpin+n)} {
				if impl.GoodSpin(s) != isSpin(s) {
					t.Errorf("GoodSpin(%v): %v", s, impl.GoodSpin(s))
				}
			}
		}
	}
}

func TestPlainSpinByHand(t *testing.T) {
	for _, c := range []struct{ s, want impl.Spin }{
		{impl.Spin{A: 1}, impl.Spin{A: 1}}, {impl.Spin{A: -1}, impl.Spin{A: 1}}, {impl.Spin{A: -12}, impl.Spin{A: 1}}, {impl.Spin{A: mostSpin}, impl.Spin{A: 1}}, {impl.Spin{A: -mostSpin}, impl.Spin{A: 1}},
		{impl.Spin{A: 2, B: -4, C: 6, D: -8}, impl.Spin{A: 1, B: -2, C: 3, D: -4}}, {impl.Spin{A: -2, B: -4, C: 6, D: -8}, impl.Spin{A: 1, B: 2, C: -3, D: 4}},
		{impl.Spin{A: 6, B: 10, C: 15}, impl.Spin{A: 6, B: 10, C: 15}}, {impl.Spin{A: -6, B: 10, C: 15, D: 30}, impl.Spin{A: 6, B: -10, C: -15, D: -30}},
		// The first number is 0, the first two, the first three.
		{impl.Spin{B: 4, C: -6, D: 2}, impl.Spin{B: 2, C: -3, D: 1}}, {impl.Spin{B: -4, C: 6, D: 2}, impl.Spin{B: 2, C: -3, D: -1}},
		{impl.Spin{C: 9, D: -6}, impl.Spin{C: 3, D: -2}}, {impl.Spin{C: -9, D: -6}, impl.Spin{C: 3, D: 2}}, {impl.Spin{C: -9, D: 6}, impl.Spin{C: 3, D: -2}},
		{impl.Spin{D: 7}, impl.Spin{D: 1}}, {impl.Spin{D: -7}, impl.Spin{D: 1}}, {impl.Spin{B: -5}, impl.Spin{B: 1}}, {impl.Spin{C: -5}, impl.Spin{C: 1}}, {impl.Spin{D: -mostSpin}, impl.Spin{D: 1}},
		{impl.Spin{A: -mostSpin, B: mostSpin, C: -mostSpin, D: 500000}, impl.Spin{A: 2, B: -2, C: 2, D: -1}},
		{impl.Spin{A: -mostSpin, B: 999999}, impl.Spin{A: mostSpin, B: -999999}}, {impl.Spin{A: -1, D: mostSpin}, impl.Spin{A: 1, D: -mostSpin}},
	} {
		checkSpin(t, fmt.Sprintf("PlainSpin(%v)", c.s), impl.PlainSpin(c.s), c.want)
	}
}

// checkPlain: the spin is good and plain, or the zero one.
func checkPlain(t *testing.T, s impl.Spin) {
	t.Helper()
	if s != (impl.Spin{}) && (!impl.GoodSpin(s) || impl.PlainSpin(s) != s) {
		t.Errorf("not plain: %v", s)
	}
}

func checkOneSpin(t *testing.T, s impl.Spin) {
	t.Helper()
	h := hamiltonOf(s)
	plain, back := impl.PlainSpin(s), impl.BackSpin(s)
	checkSpin(t, fmt.Sprintf("PlainSpin(%v)", s), plain, h.plain())
	checkSpin(t, fmt.Sprintf("BackSpin(%v)", s), back, h.back().plain())
	checkPlain(t, plain)
	checkPlain(t, back)
	checkSpin(t, fmt.Sprintf("there and back of %v", s), impl.JoinSpin(s, back), impl.Spin{A: 1})
	checkSpin(t, fmt.Sprintf("back and there of %v", s), impl.JoinSpin(back, s), impl.Spin{A: 1})
	checkSpin(t, fmt.Sprintf("back twice of %v", s), impl.BackSpin(back), plain)
	checkSpin(t, fmt.Sprintf("%v behind no turn", s), impl.JoinSpin(s, impl.Spin{A: -3}), plain)
	checkSpin(t, fmt.Sprintf("no turn behind %v", s), impl.JoinSpin(impl.Spin{A: 5}, s), plain)
}

func TestPlainSpinsAndTheirTurnsBack(t *testing.T) {
	smallSpins(3, func(s impl.Spin) { checkOneSpin(t, s) })
	for _, s := range edgeSpins() {
		checkOneSpin(t, s)
	}
	r := rand.New(rand.NewSource(51))
	for range 500 {
		checkOneSpin(t, drawnSpin(r))
	}
}

// A multiple of a spin stands for the same turn.
func TestMultiplesOfSpinsAreTheSameTurn(t *testing.T) {
	r := rand.New(rand.NewSource(52))
	v := impl.Vec{X: "1/3", Y: "-5", Z: "7/2"}
	smallSpins(2, func(s impl.Spin) {
		n := r.Intn(500000) + 1
		if r.Intn(2) == 0 {
			n = -n
		}
		m, plain := impl.Spin{A: n * s.A, B: n * s.B, C: n * s.C, D: n * s.D}, impl.PlainSpin(s)
		checkSpin(t, fmt.Sprintf("PlainSpin of %d times %v", n, s), impl.PlainSpin(m), plain)
		checkSpin(t, fmt.Sprintf("BackSpin of %d times %v", n, s), impl.BackSpin(m), impl.BackSpin(plain))
		checkSpin(t, fmt.Sprintf("JoinSpin of %d times %v", n, s), impl.JoinSpin(m, impl.Spin{A: 2, C: 1}), impl.JoinSpin(plain, impl.Spin{A: 2, C: 1}))
		a, okA := impl.TurnVec(m, v)
		b, okB := impl.TurnVec(plain, v)
		if a != b || !okA || !okB {
			t.Errorf("TurnVec by %v and %v: %v and %v", m, plain, a, b)
		}
		if back, ok := impl.SpinOf(impl.MatrixOf(m)); back != plain || !ok {
			t.Errorf("SpinOf of MatrixOf(%v): %v %v", m, back, ok)
		}
	})
}

func TestJoinSpinByHand(t *testing.T) {
	i, j, k := impl.Spin{B: 1}, impl.Spin{C: 1}, impl.Spin{D: 1}
	for _, c := range []struct{ a, b, want impl.Spin }{
		{i, j, k}, {j, k, i}, {k, i, j}, {j, i, k}, {i, i, impl.Spin{A: 1}}, {j, j, impl.Spin{A: 1}}, {k, k, impl.Spin{A: 1}},
		{impl.Spin{A: 1, B: 1}, impl.Spin{A: 1, C: 1}, impl.Spin{A: 1, B: 1, C: 1, D: 1}}, {impl.Spin{A: 1, C: 1}, impl.Spin{A: 1, B: 1}, impl.Spin{A: 1, B: 1, C: 1, D: -1}},
		{impl.Spin{A: 1, C: 1}, impl.Spin{A: 1, D: 1}, impl.Spin{A: 1, B: 1, C: 1, D: 1}}, {impl.Spin{A: 1, D: 1}, impl.Spin{A: 1, B: 1}, impl.Spin{A: 1, B: 1, C: 1, D: 1}},
		{impl.Spin{A: 1, B: 2, C: 3, D: 4}, impl.Spin{A: 5, B: 6, C: 7, D: 8}, impl.Spin{A: 10, B: -2, C: -5, D: -4}},
		// Beyond the limit ahead of taking the common divisor out, but not behind it.
		{impl.Spin{A: mostSpin}, impl.Spin{A: mostSpin}, impl.Spin{A: 1}}, {impl.Spin{A: mostSpin, B: mostSpin, C: mostSpin, D: mostSpin}, impl.Spin{A: -mostSpin, B: -mostSpin, C: -mostSpin, D: -mostSpin}, impl.Spin{A: 1, B: -1, C: -1, D: -1}},
		{impl.Spin{A: mostSpin, B: mostSpin}, impl.Spin{A: 500000, C: mostSpin}, impl.Spin{A: 1, B: 1, C: 2, D: 2}},
		{impl.Spin{A: 999999, B: mostSpin}, impl.Spin{A: 999999, B: -mostSpin}, impl.Spin{A: 1}},
		// At the limit just so, with both signs, with and without a common divisor.
		{impl.Spin{A: 1000, B: 1}, impl.Spin{A: 1000, C: 1}, impl.Spin{A: mostSpin, B: 1000, C: 1000, D: 1}},
		{impl.Spin{A: 2000, B: 2}, impl.Spin{A: 3000, C: 3}, impl.Spin{A: mostSpin, B: 1000, C: 1000, D: 1}},
		{impl.Spin{A: 1, B: -1000}, impl.Spin{A: 1000, C: 1}, impl.Spin{A: 1000, B: -mostSpin, C: 1, D: -1000}},
		{impl.Spin{A: -7, B: 7000}, impl.Spin{A: 1000, C: 1}, impl.Spin{A: 1000, B: -mostSpin, C: 1, D: -1000}},
		{impl.Spin{B: 1000, C: 1}, impl.Spin{B: 1000, D: 1}, impl.Spin{A: mostSpin, B: -1, C: 1000, D: 1000}},
		// Beyond it, by one and by much, in each place.
		{impl.Spin{A: 1000, B: 1}, impl.Spin{A: 1000, B: -1}, impl.Spin{A: 1}},
		{impl.Spin{A: 1000, B: 1}, impl.Spin{A: 1000, B: -1, C: 1}, impl.Spin{}},
		{impl.Spin{A: 3000, B: 3}, impl.Spin{A: 2000, B: -2, C: 2}, impl.Spin{}},
		{impl.Spin{A: 1, B: 1000}, impl.Spin{A: 1001, C: 1}, impl.Spin{}},
		{impl.Spin{A: 1, B: -1000}, impl.Spin{A: 1001, C: 1}, impl.Spin{}},
		{impl.Spin{A: 1, C: 1000}, impl.Spin{A: 1001, D: 1}, impl.Spin{}},
		{impl.Spin{A: 1, D: -1000}, impl.Spin{A: 1001, B: 1}, impl.Spin{}},
		{impl.Spin{A: mostSpin, B: 1}, impl.Spin{A: mostSpin, C: 1}, impl.Spin{}},
		{impl.Spin{A: mostSpin, B: 999999, C: 999998, D: 999997}, impl.Spin{A: 999996, B: -mostSpin, C: 1, D: -999995}, impl.Spin{}},
	} {
		checkSpin(t, fmt.Sprintf("JoinSpin(%v, %v)", c.a, c.b), impl.JoinSpin(c.a, c.b), c.want)
		checkSpin(t, fmt.Sprintf("the rules of %v and %v", c.a, c.b), hamiltonOf(c.a).mul(hamiltonOf(c.b)).plain(), c.want)
	}
}

func checkJoin(t *testing.T, a impl.Spin, b impl.Spin) {
	t.Helper()
	got := impl.JoinSpin(a, b)
	checkSpin(t, fmt.Sprintf("JoinSpin(%v, %v)", a, b), got, hamiltonOf(a).mul(hamiltonOf(b)).plain())
	checkPlain(t, got)
	if got == (impl.Spin{}) {
		return
	}
	checkSpin(t, fmt.Sprintf("%v and %v back", a, b), impl.JoinSpin(impl.BackSpin(b), impl.BackSpin(a)), impl.BackSpin(got))
}

func TestJoinSpinGoesByTheRules(t *testing.T) {
	smallSpins(1, func(a impl.Spin) {
		smallSpins(1, func(b impl.Spin) { checkJoin(t, a, b) })
	})
	for _, a := range edgeSpins() {
		for _, b := range edgeSpins() {
			checkJoin(t, a, b)
		}
	}
	r := rand.New(rand.NewSource(53))
	for range 3000 {
		checkJoin(t, drawnSpin(r), drawnSpin(r))
	}
}

func TestTurnVecByHand(t *testing.T) {
	v := impl.Vec{X: "1", Y: "2", Z: "3"}
	for _, c := range []struct {
		s    impl.Spin
		want impl.Vec
	}{
		{impl.Spin{A: 1}, v}, {impl.Spin{A: -4}, v}, {impl.Spin{B: 1}, impl.Vec{X: "1", Y: "-2", Z: "-3"}}, {impl.Spin{C: 3}, impl.Vec{X: "-1", Y: "2", Z: "-3"}}, {impl.Spin{D: -2}, impl.Vec{X: "-1", Y: "-2", Z: "3"}},
		{impl.Spin{A: 1, B: 1}, impl.Vec{X: "1", Y: "-3", Z: "2"}}, {impl.Spin{A: 1, C: 1}, impl.Vec{X: "3", Y: "2", Z: "-1"}}, {impl.Spin{A: 1, D: 1}, impl.Vec{X: "-2", Y: "1", Z: "3"}},
		{impl.Spin{A: 1, B: 1, C: 1, D: 1}, impl.Vec{X: "3", Y: "1", Z: "2"}}, {impl.Spin{A: 1, B: -1, C: -1, D: -1}, impl.Vec{X: "2", Y: "3", Z: "1"}},
		{impl.Spin{A: 2, D: 1}, impl.Vec{X: "-1", Y: "2", Z: "3"}}, {impl.Spin{A: 3, D: 1}, impl.Vec{X: "-2/5", Y: "11/5", Z: "3"}},
	} {
		got, ok := impl.TurnVec(c.s, v)
		if got != c.want || !ok {
			t.Errorf("TurnVec(%v, %v): got %v %v, want %v", c.s, v, got, ok, c.want)
		}
	}
}

// checkTurn: where it is brought, back again, and as long as before.
func checkTurn(t *testing.T, s impl.Spin, v impl.Vec) {
	t.Helper()
	what, from := fmt.Sprintf("TurnVec(%v, %.60q)", s, v), tripleOf(t, v)
	want := hamiltonOf(s).turn(from)
	got, ok := impl.TurnVec(s, v)
	checkVec(t, what, got, ok, want)
	if !ok {
		return
	}
	if end := tripleOf(t, got); end.dot(end).Cmp(from.dot(from)) != 0 {
		t.Errorf("%s: another length", what)
	}
	back, okBack := impl.TurnVec(impl.BackSpin(s), got)
	if back != v || !okBack {
		t.Errorf("%s and back: %.60q %v", what, back, okBack)
	}
}

func TestTurnVecGoesByTheRules(t *testing.T) {
	r := rand.New(rand.NewSource(54))
	smallSpins(1, func(s impl.Spin) { checkTurn(t, s, drawnVec(r, 3)) })
	for _, s := range edgeSpins() {
		for _, v := range edgeVecs() {
			checkTurn(t, s, v)
		}
	}
	for range 300 {
		checkTurn(t, drawnSpin(r), drawnVec(r, 4))
		checkTurn(t, drawnSpin(r), drawnVec(r, 130))
	}
}

// A vec turned by b and then by a is where both joined turn it.
func TestTurnsBehindOneAnother(t *testing.T) {
	r := rand.New(rand.NewSource(55))
	check := func(a impl.Spin, b impl.Spin, v impl.Vec) {
		both := impl.JoinSpin(a, b)
		first, _ := impl.TurnVec(b, v)
		second, ok := impl.TurnVec(a, first)
		once, okOnce := impl.TurnVec(both, v)
		if okOnce != (both != impl.Spin{}) || okOnce && (once != second || !ok) {
			t.Errorf("%v, and %v first, of %v: %v, but at once %v %v", a, b, v, second, once, okOnce)
		}
	}
	smallSpins(1, func(a impl.Spin) { check(a, drawnSpin(r), drawnVec(r, 5)) })
	for _, a := range edgeSpins() {
		check(a, drawnSpin(r), drawnVec(r, 5))
		check(drawnSpin(r), a, drawnVec(r, 5))
	}
	for range 500 {
		check(drawnSpin(r), drawnSpin(r), drawnVec(r, 20))
	}
}

// Where the turned vec has 400 digits there is an answer, where it has 401 there is none.
func TestTurnVecAtTheLongestNumbers(t *testing.T) {
	five := "5" + tenTo(399)[1:]
	// The turn brings x, y to 3/5 x - 4/5 y, 4/5 x + 3/5 y.
	spin := impl.Spin{A: 2, D: 1}
	for _, c := range []struct {
		x, y string
		fits bool
	}{
		{five, "0", true}, {"0", "-" + five, true}, {five, five, true},
		{nines(399) + "5", "0", true}, {nines(399) + "5", nines(399) + "5", false}, {nines(399) + "5", "-" + nines(399) + "5", false},
		{"1/" + tenTo(399), "0", true}, {"0", "-1/" + tenTo(399), true}, {"1/" + nines(400), "0", false}, {"0", "-1/" + nines(400), false},
		{nines(400), "0", false},
	} {
		v := impl.Vec{X: c.x, Y: c.y, Z: "0"}
		got, ok := impl.TurnVec(spin, v)
		checkVec(t, fmt.Sprintf("TurnVec of %.60q", v), got, ok, hamiltonOf(spin).turn(tripleOf(t, v)))
		if ok != c.fits {
			t.Errorf("TurnVec of %.60q: %v", v, ok)
		}
		// The part that is not turned stays as long as it likes, and the others let it down where they are too long.
		got, ok = impl.TurnVec(spin, impl.Vec{X: c.x, Y: c.y, Z: nines(400)})
		if ok != c.fits || ok && got.Z != nines(400) {
			t.Errorf("TurnVec of %.60q and nines: %.60q %v", v, got, ok)
		}
	}
}

// A part that comes out as 0 is told as 0, whatever stands in the others.
func TestTurnVecOntoAnAxis(t *testing.T) {
	for _, n := range []string{"25", "-50/3", nines(398), "1/" + nines(398)} {
		r := rat(t, n)
		v, _ := vecOf(triple{times(r, big.NewRat(3, 5)), times(r, big.NewRat(-4, 5)), new(big.Rat)})
		got, ok := impl.TurnVec(impl.Spin{A: 2, D: 1}, v)
		if want := (impl.Vec{X: n, Y: "0", Z: "0"}); got != want || !ok {
			t.Errorf("TurnVec of %.60q: %.60q %v", v, got, ok)
		}
	}
}
