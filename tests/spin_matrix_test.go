package tests

import (
	"fmt"
	"math/big"
	"math/rand"
	"slices"
	"testing"

	"loop.example/g00047/impl"
)

// matrixText are the rows of the exact matrix; it is a fault of the test if a number is too long.
func matrixText(t *testing.T, m [3]triple) [][]string {
	t.Helper()
	return [][]string{texts(t, m[0][:]), texts(t, m[1][:]), texts(t, m[2][:])}
}

func sameRows(a [][]string, b [][]string) bool { return slices.EqualFunc(a, b, slices.Equal) }

func cloneRows(m [][]string) [][]string {
	out := make([][]string, len(m))
	for i := range m {
		out[i] = slices.Clone(m[i])
	}
	return out
}

// determinant of three rows of good fractions.
func determinant(t *testing.T, m [][]string) *big.Rat {
	t.Helper()
	a, b, c := ratList(t, m[0]), ratList(t, m[1]), ratList(t, m[2])
	sum := new(big.Rat)
	for i := range 3 {
		j, k := (i+1)%3, (i+2)%3
		sum = plus(sum, times(a[i], minus(times(b[j], c[k]), times(b[k], c[j]))))
	}
	return sum
}

func transposed(m [][]string) [][]string {
	out := cloneRows(m)
	for r := range m {
		for c := range m[r] {
			out[c][r] = m[r][c]
		}
	}
	return out
}

func TestMatrixOfByHand(t *testing.T) {
	for _, c := range []struct {
		s    impl.Spin
		want [][]string
	}{
		{impl.Spin{A: 1}, [][]string{{"1", "0", "0"}, {"0", "1", "0"}, {"0", "0", "1"}}},
		{impl.Spin{A: -9}, [][]string{{"1", "0", "0"}, {"0", "1", "0"}, {"0", "0", "1"}}},
		{impl.Spin{B: 1}, [][]string{{"1", "0", "0"}, {"0", "-1", "0"}, {"0", "0", "-1"}}},
		{impl.Spin{C: -1}, [][]string{{"-1", "0", "0"}, {"0", "1", "0"}, {"0", "0", "-1"}}},
		{impl.Spin{D: 2}, [][]string{{"-1", "0", "0"}, {"0", "-1", "0"}, {"0", "0", "1"}}},
		{impl.Spin{A: 1, B: 1}, [][]string{{"1", "0", "0"}, {"0", "0", "-1"}, {"0", "1", "0"}}},
		{impl.Spin{A: 1, C: 1}, [][]string{{"0", "0", "1"}, {"0", "1", "0"}, {"-1", "0", "0"}}},
		{impl.Spin{A: 1, D: 1}, [][]string{{"0", "-1", "0"}, {"1", "0", "0"}, {"0", "0", "1"}}},
		{impl.Spin{A: 1, B: 1, C: 1, D: 1}, [][]string{{"0", "0", "1"}, {"1", "0", "0"}, {"0", "1", "0"}}},
		{impl.Spin{A: 1, B: 2, C: 3, D: 4}, [][]string{{"-2/3", "2/15", "11/15"}, {"2/3", "-1/3", "2/3"}, {"1/3", "14/15", "2/15"}}},
		{impl.Spin{B: 1, C: 1}, [][]string{{"0", "1", "0"}, {"1", "0", "0"}, {"0", "0", "-1"}}},
		{impl.Spin{B: 1, C: 2, D: -2}, [][]string{{"-7/9", "4/9", "-4/9"}, {"4/9", "-1/9", "-8/9"}, {"-4/9", "-8/9", "-1/9"}}},
	} {
		if got := impl.MatrixOf(c.s); !sameRows(got, c.want) {
			t.Errorf("MatrixOf(%v): got %v, want %v", c.s, got, c.want)
		}
	}
}

// checkMatrix: the matrix is that of the rules, a turn, and it has one plain spin.
func checkMatrix(t *testing.T, s impl.Spin) {
	t.Helper()
	m := impl.MatrixOf(s)
	if !sameRows(m, matrixText(t, hamiltonOf(s).matrix())) {
		t.Errorf("MatrixOf(%v): %v", s, m)
		return
	}
	if determinant(t, m).Cmp(big.NewRat(1, 1)) != 0 {
		t.Errorf("MatrixOf(%v) has the determinant %v", s, determinant(t, m))
	}
	if !sameRows(transposed(m), impl.MatrixOf(impl.BackSpin(s))) {
		t.Errorf("MatrixOf(%v) turned over is not that of the turn back", s)
	}
	for c := range 3 {
		unit := [3]string{"0", "0", "0"}
		unit[c] = "1"
		v, ok := impl.TurnVec(s, impl.Vec{X: unit[0], Y: unit[1], Z: unit[2]})
		if want := (impl.Vec{X: m[0][c], Y: m[1][c], Z: m[2][c]}); v != want || !ok {
			t.Errorf("column %d of MatrixOf(%v) is %v, but the turn brings it to %v %v", c, s, want, v, ok)
		}
	}
	before := cloneRows(m)
	if got, ok := impl.SpinOf(m); got != hamiltonOf(s).plain() || got != impl.PlainSpin(s) || !ok {
		t.Errorf("SpinOf of MatrixOf(%v): %v %v", s, got, ok)
	}
	if !sameRows(m, before) {
		t.Errorf("SpinOf changed the matrix of %v: %v", s, m)
	}
}

func TestMatricesHaveOnePlainSpin(t *testing.T) {
	smallSpins(2, func(s impl.Spin) { checkMatrix(t, s) })
	for _, s := range edgeSpins() {
		checkMatrix(t, s)
	}
	r := rand.New(rand.NewSource(56))
	for range 400 {
		checkMatrix(t, drawnSpin(r))
	}
}

// Half turns have no A: about each axis, in each plane of two, and slanted.
func TestSpinOfHalfTurns(t *testing.T) {
	r := rand.New(rand.NewSource(57))
	l := []impl.Spin{{B: 1}, {C: 1}, {D: 1}, {B: 1, C: 1}, {B: 1, C: -1}, {B: 1, D: 1}, {B: 1, D: -1}, {C: 1, D: 1}, {C: 1, D: -1}, {B: 1, C: 1, D: 1}, {B: 1, C: -1, D: -1},
		{B: 2, C: 3}, {B: 2, D: -3}, {C: 5, D: -4}, {B: 3, C: -4, D: 12}, {B: mostSpin, C: -999999, D: 1}, {B: 1, C: mostSpin}, {C: 1, D: -mostSpin}, {B: 1, C: -mostSpin, D: mostSpin}}
	for range 200 {
		s := impl.Spin{B: r.Intn(mostSpin), C: r.Intn(2*mostSpin) - mostSpin, D: r.Intn(2*mostSpin) - mostSpin}
		if r.Intn(3) == 0 {
			s.B = 0
		}
		if impl.GoodSpin(s) {
			l = append(l, impl.PlainSpin(s))
		}
	}
	for _, s := range l {
		checkMatrix(t, s)
		if got, ok := impl.SpinOf(matrixText(t, hamiltonOf(s).matrix())); got != s || !ok {
			t.Errorf("SpinOf of the half turn %v: %v %v", s, got, ok)
		}
		if both := impl.JoinSpin(s, s); both != (impl.Spin{A: 1}) {
			t.Errorf("the half turn %v twice: %v", s, both)
		}
	}
}

func checkNoSpin(t *testing.T, what string, m [][]string) {
	t.Helper()
	before := cloneRows(m)
	if s, ok := impl.SpinOf(m); s != (impl.Spin{}) || ok {
		t.Errorf("SpinOf of %.200s: %v %v, of %.200q", what, s, ok, m)
	}
	if !sameRows(m, before) {
		t.Errorf("SpinOf of %.200s changed its argument: %.200q", what, m)
	}
}

func negatedText(t *testing.T, s string) string {
	t.Helper()
	return negative(rat(t, s)).RatString()
}

// Mirrors, and turns behind them, have the determinant -1.
func TestSpinOfMirrors(t *testing.T) {
	r := rand.New(rand.NewSource(58))
	spins := append(edgeSpins(), impl.Spin{A: 1})
	for range 100 {
		spins = append(spins, drawnSpin(r))
	}
	for _, s := range spins {
		m := impl.MatrixOf(s)
		all := cloneRows(m)
		for at := range 3 {
			row, column := cloneRows(m), cloneRows(m)
			for i := range 3 {
				row[at][i] = negatedText(t, m[at][i])
				column[i][at] = negatedText(t, m[i][at])
				all[at][i] = row[at][i]
			}
			checkNoSpin(t, "a mirrored row", row)
			checkNoSpin(t, "a mirrored column", column)
			swapped := cloneRows(m)
			swapped[at], swapped[(at+1)%3] = swapped[(at+1)%3], swapped[at]
			if determinant(t, swapped).Cmp(big.NewRat(-1, 1)) != 0 {
				t.Fatal("the test has no mirror there")
			}
			checkNoSpin(t, "two rows swapped", swapped)
		}
		checkNoSpin(t, "all mirrored", all)
	}
}

func rowsOfOne(s string) [][]string { return [][]string{{s, s, s}, {s, s, s}, {s, s, s}} }

func TestSpinOfNoTurns(t *testing.T) {
	for _, s := range []string{"0", "1", "-1", "1/3", "-1/3", "2/3", nines(400), "1/" + nines(400)} {
		checkNoSpin(t, "one number everywhere", rowsOfOne(s))
	}
	for _, s := range []string{"0", "-1", "2", "1/2", "-1/3", "1/3", nines(400), "1/" + nines(400)} {
		checkNoSpin(t, "one number thrice", [][]string{{s, "0", "0"}, {"0", s, "0"}, {"0", "0", s}})
		for at := range 3 {
			m := impl.MatrixOf(impl.Spin{A: 1})
			m[at][at] = s
			checkNoSpin(t, "no turn but for one number", m)
		}
	}
	// The determinant is 1, but lengths change, or angles.
	checkNoSpin(t, "a stretch", [][]string{{"2", "0", "0"}, {"0", "1/2", "0"}, {"0", "0", "1"}})
	checkNoSpin(t, "a shear", [][]string{{"1", "1", "0"}, {"0", "1", "0"}, {"0", "0", "1"}})
	checkNoSpin(t, "a shear", [][]string{{"1", "0", "0"}, {"0", "1", "0"}, {"0", "-3/2", "1"}})
	// The squares of the numbers are those of a turn, but the signs are wrong.
	checkNoSpin(t, "wrong signs", [][]string{{"3/5", "4/5", "0"}, {"4/5", "3/5", "0"}, {"0", "0", "1"}})
	checkNoSpin(t, "wrong signs", [][]string{{"1", "0", "0"}, {"0", "3/5", "4/5"}, {"0", "4/5", "3/5"}})
	checkNoSpin(t, "wrong signs", [][]string{{"3/5", "4/5", "0"}, {"-4/5", "3/5", "0"}, {"0", "0", "-1"}})
}

// Any one number of a turn's matrix that is another one makes it none, and so does a multiple of all.
func TestSpinOfTurnsThatAreSpoilt(t *testing.T) {
	r := rand.New(rand.NewSource(59))
	for range 150 {
		m := impl.MatrixOf(drawnSpin(r))
		for row := range 3 {
			for column := range 3 {
				for _, by := range []string{"1", "-1", "1/" + nines(300), randomFrac(r, 3)} {
					if by == "0" {
						continue
					}
					spoilt := cloneRows(m)
					spoilt[row][column] = plus(rat(t, m[row][column]), rat(t, by)).RatString()
					checkNoSpin(t, "a spoilt turn", spoilt)
				}
			}
		}
		scaled := cloneRows(m)
		for row := range 3 {
			for column := range 3 {
				scaled[row][column] = times(rat(t, m[row][column]), big.NewRat(1, 2)).RatString()
			}
		}
		checkNoSpin(t, "half of a turn", scaled)
	}
}

// The matrix is that of a turn, but its plain spin is beyond the limit in one place, by one or by much.
func TestSpinOfTurnsBeyondTheLimit(t *testing.T) {
	great, _ := new(big.Int).SetString(nines(45), 10)
	for at := range 4 {
		for _, n := range []*big.Int{big.NewInt(mostSpin - 1), big.NewInt(mostSpin), big.NewInt(-mostSpin), big.NewInt(mostSpin + 1), big.NewInt(-mostSpin - 1), big.NewInt(1 << 40), big.NewInt(1<<62 + 1), new(big.Int).Lsh(big.NewInt(1), 64), new(big.Int).Lsh(big.NewInt(1), 65), great} {
			for _, rest := range []impl.Spin{{A: 1, B: 1, C: 1, D: 1}, {A: 7, B: -3, C: 11, D: 1}, with(impl.Spin{}, (at+1)%4, 1), with(impl.Spin{}, (at+3)%4, -1)} {
				h := hamiltonOf(with(rest, at, 0))
				h[at] = new(big.Rat).SetInt(n)
				m := matrixText(t, h.matrix())
				want := h.plain()
				got, ok := impl.SpinOf(m)
				if got != want || ok != (want != impl.Spin{}) {
					t.Errorf("SpinOf of the turn of %v in place %d of %v: got %v %v, want %v", n, at, rest, got, ok, want)
				}
				if n.CmpAbs(big.NewInt(mostSpin)) > 0 && ok {
					t.Errorf("%v in place %d of %v is good", n, at, rest)
				}
			}
		}
	}
}

// Numbers of great spins with a common divisor are plain again by the matrix alone.
func TestSpinOfLongMultiples(t *testing.T) {
	by := new(big.Rat).SetInt(new(big.Int).Exp(big.NewInt(7), big.NewInt(90), nil))
	for _, s := range edgeSpins() {
		h := hamiltonOf(s)
		for i := range h {
			h[i] = times(h[i], by)
		}
		if got, ok := impl.SpinOf(matrixText(t, h.matrix())); got != hamiltonOf(s).plain() || !ok {
			t.Errorf("SpinOf of the turn of many times %v: %v %v", s, got, ok)
		}
	}
}

func TestSpinOfOtherShapes(t *testing.T) {
	one := func() [][]string { return impl.MatrixOf(impl.Spin{A: 1}) }
	checkNoSpin(t, "no rows", nil)
	checkNoSpin(t, "no rows", [][]string{})
	checkNoSpin(t, "one row", one()[:1])
	checkNoSpin(t, "two rows", one()[:2])
	checkNoSpin(t, "four rows", append(one(), []string{"0", "0", "0"}))
	checkNoSpin(t, "four rows", append(one(), nil))
	checkNoSpin(t, "six rows", append(one(), one()...))
	for at := range 3 {
		for _, row := range [][]string{nil, {}, one()[at][:1], one()[at][:2], append(one()[at], "0"), append(one()[at], ""), append(one()[at], one()[at]...)} {
			m := one()
			m[at] = row
			checkNoSpin(t, fmt.Sprintf("a row of %d", len(row)), m)
		}
	}
	checkNoSpin(t, "rows that are nil", make([][]string, 3))
	checkNoSpin(t, "empty rows", [][]string{{}, {}, {}})
	checkNoSpin(t, "empty texts", rowsOfOne(""))
	checkNoSpin(t, "rows of two", [][]string{{"1", "0"}, {"0", "1"}, {"0", "0"}})
	checkNoSpin(t, "rows of four", [][]string{{"1", "0", "0", "0"}, {"0", "1", "0", "0"}, {"0", "0", "1", "0"}})
	checkNoSpin(t, "four rows of four", [][]string{{"1", "0", "0", "0"}, {"0", "1", "0", "0"}, {"0", "0", "1", "0"}, {"0", "0", "0", "1"}})
	checkNoSpin(t, "two rows of two", [][]string{{"1", "0"}, {"0", "1"}})
	checkNoSpin(t, "one row of nine", [][]string{{"1", "0", "0", "0", "1", "0", "0", "0", "1"}})
}
