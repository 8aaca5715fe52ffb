package tests

import (
	"math/big"
	"math/rand"
	"slices"
	"testing"

	"loop.example/g00047/impl"
)

func TestBestOf(t *testing.T) {
	for _, c := range []struct {
		q    impl.Quad
		want impl.Best
	}{
		// Without rows, and with rows that do not press.
		{quadOf("1", "-1", "", ""), bestOf("1", "", "-1/2")},
		{quadOf("1", "0", "", ""), bestOf("0", "", "0")},
		{quadOf("4", "6", "", ""), bestOf("-3/2", "", "-9/2")},
		{quadOf("1", "-1", "1", "2"), bestOf("1", "0", "-1/2")},
		{quadOf("1", "-1", "1 | -1", "2 2"), bestOf("1", "0 0", "-1/2")},
		{quadOf("2 1 | 1 2", "-3 -3", "", ""), bestOf("1 1", "", "-3")},
		{quadOf("2 1 | 1 2", "-4 -5", "1 1", "4"), bestOf("1 2", "0", "-7")},
		{quadOf("2 1 0 | 1 2 1 | 0 1 2", "-3 -4 -3", "", ""), bestOf("1 1 1", "", "-5")},
		// One row presses.
		{quadOf("1", "-1", "1", "1/2"), bestOf("1/2", "1/2", "-3/8")},
		{quadOf("1", "-1", "1", "0"), bestOf("0", "1", "0")},
		{quadOf("1", "-1", "1", "-1"), bestOf("-1", "2", "3/2")},
		{quadOf("1", "-1", "2", "1"), bestOf("1/2", "1/4", "-3/8")},
		{quadOf("1", "-1", "-1", "-2"), bestOf("2", "1", "0")},
		{quadOf("3", "-1", "-1/2", "-2"), bestOf("4", "22", "20")},
		{quadOf("1", "-1", "1 | -1", "1/2 5"), bestOf("1/2", "1/2 0", "-3/8")},
		{quadOf("1", "-1", "-1 | 1", "5 1/2"), bestOf("1/2", "0 1/2", "-3/8")},
		{quadOf("1 0 | 0 1", "-2 -2", "1 1", "2"), bestOf("1 1", "1", "-3")},
		{quadOf("1 0 | 0 1", "-2 -2", "1 0", "1"), bestOf("1 2", "1", "-7/2")},
		{quadOf("1 0 | 0 1", "-2 -2", "1 2", "1"), bestOf("1 0", "1", "-3/2")},
		{quadOf("2 1 | 1 2", "-3 -3", "1 0", "0"), bestOf("0 3/2", "3/2", "-9/4")},
		{quadOf("1 0 0 | 0 1 0 | 0 0 1", "0 0 0", "-1 -1 -1", "-3"), bestOf("1 1 1", "1", "3/2")},
		{quadOf("1 0 0 | 0 2 0 | 0 0 3", "0 0 0", "-1 -1 -1", "-11"), bestOf("6 3 2", "6", "33")},
		// Two rows press, and three.
		{quadOf("1 0 | 0 1", "-2 -3", "1 0 | 0 1", "1 1"), bestOf("1 1", "1 2", "-4")},
		{quadOf("1 0 | 0 1", "-2 -3", "0 1 | 1 0", "1 1"), bestOf("1 1", "2 1", "-4")},
		{quadOf("1 0 | 0 1", "-2 -3", "1 0 | -1 -1 | 0 1", "1 9 1"), bestOf("1 1", "1 0 2", "-4")},
		{quadOf("1 0 0 | 0 1 0 | 0 0 1", "-2 -3 -4", "1 0 0 | 0 1 0 | 0 0 1", "1 1 1"), bestOf("1 1 1", "1 2 3", "-15/2")},
		{quadOf("1 0 0 | 0 1 0 | 0 0 1", "-2 -3 -4", "0 0 -1 | 1 0 0 | 0 -1 0 | 0 1 0 | 0 0 1", "0 1 0 1 1"), bestOf("1 1 1", "0 1 0 2 3", "-15/2")},
		// A row that would press by itself presses no more beside another one.
		{quadOf("1 1/2 | 1/2 1", "-2 -2", "1 0 | 1 1", "1 1"), bestOf("1/2 1/2", "0 5/4", "-13/8")},
	} {
		got, ok := impl.BestOf(c.q)
		if !sameBest(got, c.want) || !ok {
			t.Errorf("BestOf of %v: %v %v, want %v", c.q, got, ok, c.want)
		}
		checkQuad(t, c.q)
	}
}

func TestBestOfNone(t *testing.T) {
	tiny := "1/" + nines(400)
	for _, q := range []impl.Quad{
		quadOf("1", "0", "0", "-1"),
		quadOf("1", "0", "0", "-"+tiny),
		quadOf("1", "5", "1 | -1", "0 -1"),
		quadOf("1", "-5", "1 | -1", "0 -"+tiny),
		quadOf("1", "0", "1 | -1", "-"+tiny+" 0"),
		quadOf("1", "0", "2 | -3", "2 -4"),
		quadOf("1", "0", "1 | 1 | 1 | 0 | 1", "1 2 3 -1 4"),
		quadOf("1", "0", "1 | 2 | 3 | 4 | -1", "1 1 1 1 -1"),
		quadOf("2 1 | 1 2", "1 -1", "1 1 | -1 -1", "1 -2"),
		// No two of them are against each other, all three are.
		quadOf("1 0 | 0 1", "3 -3", "1 0 | 0 1 | -1 -1", "0 0 -1"),
		quadOf("1 0 | 0 1", "3 -3", "1 0 | 0 1 | -1 -1 | 0 0 | 1 1", "0 0 -1 0 5"),
		// Nor any three, but all four.
		quadOf("1 0 0 | 0 1 0 | 0 0 1", "0 0 0", "1 0 0 | 0 1 0 | 0 0 1 | -1 -1 -1", "0 0 0 -1"),
		quadOf("2 1 0 | 1 2 1 | 0 1 2", "1 2 3", "-1 -1 -1 | 1 0 0 | 0 1 0 | 1 1 1 | 0 0 1", "-1 0 0 7 0"),
		quadOf("1 0 0 | 0 1 0 | 0 0 1", "0 0 0", "0 0 0", "-1"),
	} {
		got, ok := impl.BestOf(q)
		if got.Kind != impl.BestNone || len(got.X) != 0 || len(got.Press) != 0 || got.Value != "" || !ok {
			t.Errorf("BestOf of %.300v: %.300v %v", q, got, ok)
		}
		checkQuad(t, q)
	}
	// By ever so little it would fit, and then there is one.
	for _, c := range []struct {
		q    impl.Quad
		want impl.Best
	}{
		{quadOf("1", "5", "1 | -1", "1 -1"), bestOf("1", "0 6", "11/2")},
		{quadOf("1", "-5", "1 | -1", "0 0"), bestOf("0", "5 0", "0")},
		{quadOf("1 0 | 0 1", "3 -3", "1 0 | 0 1 | -1 -1", "0 0 0"), bestOf("0 0", "0 6 3", "0")},
		{quadOf("1 0 0 | 0 1 0 | 0 0 1", "0 0 0", "1 0 0 | 0 1 0 | 0 0 1 | -1 -1 -1", "0 0 0 0"), bestOf("0 0 0", "0 0 0 0", "0")},
	} {
		if got, ok := impl.BestOf(c.q); !sameBest(got, c.want) || !ok {
			t.Errorf("BestOf of %v: %v %v, want %v", c.q, got, ok, c.want)
		}
		checkQuad(t, c.q)
	}
}

// box has a row for each number not above 1, and one for each that presses nothing.
func box(n int, rows int) impl.Quad {
	q := impl.Quad{H: identity(n, "1"), F: slices.Repeat([]string{"0"}, n)}
	for i := range rows {
		row := slices.Repeat([]string{"0"}, n)
		row[i%n] = []string{"1", "-1"}[i/n%2]
		q.G, q.Limits = append(q.G, row), append(q.Limits, "1")
	}
	return q
}

// Every set of rows that may press does so, alone: each number is free, or at its limit above, or at its limit below.
func TestBestOfEveryMask(t *testing.T) {
	for n := 1; n <= mostState; n++ {
		for rows := range min(2*n, mostLimits) + 1 {
			seen := map[int]int{}
			eachTexts([]string{"-3", "1/2", "3"}, n, func(f []string) {
				q := box(n, rows)
				q.F = f
				want := impl.Best{Kind: impl.BestFound, Press: slices.Repeat([]string{"0"}, rows)}
				value, mask := new(big.Rat), 0
				for i, s := range f {
					x := negative(rat(t, s))
					row := i
					if s == "3" {
						row = i + n
					}
					if s != "1/2" && row < rows {
						x, want.Press[row], mask = quotient(x, whole(3)), "2", mask|1<<row
					}
					want.X = append(want.X, textOf(x))
					value = plus(value, plus(half(times(x, x)), times(x, rat(t, s))))
				}
				want.Value = textOf(value)
				if got := checkQuad(t, q); !sameBest(got, want) {
					t.Errorf("BestOf of %v: %v, want %v", q, got, want)
				}
				seen[mask]++
			})
			if n == mostState && rows == mostLimits && len(seen) != 18 {
				t.Errorf("%d masks were told", len(seen))
			}
		}
	}
}

// Every quad of one number with few rows, and of two with two, of few texts.
func TestBestOfSmallNumbers(t *testing.T) {
	found, none := 0, 0
	count := func(b impl.Best) {
		if b.Kind == impl.BestFound {
			found++
		} else {
			none++
		}
	}
	for rows := range 4 {
		eachTexts([]string{"-1", "0", "2"}, 2*rows+1, func(l []string) {
			q := impl.Quad{H: [][]string{{"2"}}, F: l[:1], Limits: l[1 : rows+1]}
			for _, s := range l[rows+1:] {
				q.G = append(q.G, []string{s})
			}
			count(checkQuad(t, q))
		})
	}
	eachTexts([]string{"-1", "0", "1"}, 7, func(l []string) {
		q := impl.Quad{H: [][]string{{"2", "1"}, {"1", "2"}}, F: []string{l[0], "1"}, G: [][]string{l[1:3], l[3:5]}, Limits: l[5:]}
		count(checkQuad(t, q))
	})
	if found < 1000 || none < 500 {
		t.Error(found, none)
	}
}

func TestBestOfDrawnNumbers(t *testing.T) {
	r := rand.New(rand.NewSource(241))
	kinds := map[int]int{}
	presses := map[int]int{}
	for i := range 720 {
		n, rows := 1+i%mostState, i/mostState%(mostLimits+1)
		for _, q := range []impl.Quad{drawnQuad(t, r, n, rows, 1+i%3), smallQuad(r, n, rows)} {
			b := checkQuad(t, q)
			kinds[b.Kind]++
			presses[rows-len(slices.DeleteFunc(slices.Clone(b.Press), func(s string) bool { return s != "0" }))]++
		}
	}
	if kinds[impl.BestFound] < 500 || kinds[impl.BestNone] < 100 || len(kinds) != 2 || presses[1] < 100 || presses[2] < 50 || presses[3] < 5 {
		t.Error(kinds, presses)
	}
}

// Numbers and presses are drawn first, and the quad made so that they are its best.
func TestBestsThatAreMade(t *testing.T) {
	r := rand.New(rand.NewSource(242))
	for i := range 300 {
		n, rows := 1+i%mostState, i/mostState%(mostLimits+1)
		q := drawnQuad(t, r, n, rows, 1)
		w, x, press, mask := bowlOf(t, q), ratList(t, drawnTexts(r, n, 1)), rats(make([]int64, rows)...), 0
		for row := range rows {
			sum := product(w.g[row], x)
			if r.Intn(2) == 0 && row < n {
				press[row], q.Limits[row], mask = rat(t, drawnLength(r, 1)), textOf(sum), mask|1<<row
			} else {
				q.Limits[row] = textOf(plus(sum, rat(t, drawnLength(r, 1))))
			}
		}
		for k, slope := range w.slopes(x, press) {
			q.F[k] = textOf(minus(w.f[k], slope))
		}
		want := impl.Best{Kind: impl.BestFound, X: texts(t, x), Press: texts(t, press), Value: textOf(bowlOf(t, q).value(x))}
		got := checkQuad(t, q)
		if !impl.BestHolds(q, want) {
			t.Errorf("BestHolds of %v, %v is false", q, want)
		}
		// Where a row of noughts presses, or one that is a multiple of another one, the same x is held in other ways too.
		_, _, only := bowlOf(t, q).standAt(mask)
		if !slices.Equal(got.X, want.X) || got.Value != want.Value || only && !sameBest(got, want) {
			t.Errorf("BestOf of %v: %v, want %v", q, got, want)
		}
	}
}

// Rows in another order have the same best, and where just one mask is told the same presses; a row times a number above 0, with its limit, has a press so many times less.
func TestBestOfRowsInAnotherOrder(t *testing.T) {
	r := rand.New(rand.NewSource(243))
	for i := range 200 {
		n, rows := 1+i%mostState, 1+i/mostState%mostLimits
		q := smallQuad(r, n, rows)
		b := checkQuad(t, q)
		order := r.Perm(rows)
		turned, press := cloneQuad(q), slices.Clone(b.Press)
		for to, from := range order {
			turned.G[to], turned.Limits[to] = slices.Clone(q.G[from]), q.Limits[from]
			if b.Kind == impl.BestFound {
				press[to] = b.Press[from]
			}
		}
		other := checkQuad(t, turned)
		only := len(bowlOf(t, q).masks()) <= 1
		if other.Kind != b.Kind || !slices.Equal(other.X, b.X) || other.Value != b.Value || only && !slices.Equal(other.Press, press) {
			t.Errorf("BestOf of %v: %v, of %v: %v", q, b, turned, other)
		}
		by, at := drawnLength(r, 2), r.Intn(rows)
		for k := range n {
			q.G[at][k] = impl.MulFrac(q.G[at][k], by)
		}
		q.Limits[at] = impl.MulFrac(q.Limits[at], by)
		if b.Kind == impl.BestFound {
			b.Press[at] = impl.DivFrac(b.Press[at], by)
		}
		if longer := checkQuad(t, q); !sameBest(longer, b) {
			t.Errorf("BestOf of %v: %v, want %v", q, longer, b)
		}
	}
}

// H and F times a number above 0: the same x, and presses and value so many times as great.
func TestBestOfGreaterCosts(t *testing.T) {
	r := rand.New(rand.NewSource(244))
	for i := range 100 {
		n, rows := 1+i%mostState, i/mostState%(mostLimits+1)
		q, by := drawnQuad(t, r, n, rows, 1), drawnLength(r, 2)
		b := checkQuad(t, q)
		for k := range n {
			for c := range n {
				q.H[k][c] = impl.MulFrac(q.H[k][c], by)
			}
			q.F[k] = impl.MulFrac(q.F[k], by)
		}
		if b.Kind == impl.BestFound {
			b.Value = impl.MulFrac(b.Value, by)
			for k := range b.Press {
				b.Press[k] = impl.MulFrac(b.Press[k], by)
			}
		}
		if got := checkQuad(t, q); !sameBest(got, b) {
			t.Errorf("BestOf of %v: %v, want %v", q, got, b)
		}
	}
}

// Everything moved by the same numbers, limits along: x is moved so, and presses stay.
func TestBestOfMovedQuads(t *testing.T) {
	r := rand.New(rand.NewSource(245))
	for i := range 100 {
		n, rows := 1+i%mostState, i/mostState%(mostLimits+1)
		q, by := smallQuad(r, n, rows), drawnTexts(r, n, 2)
		b := checkQuad(t, q)
		w, off := bowlOf(t, q), ratList(t, by)
		moved := cloneQuad(q)
		for k := range n {
			moved.F[k] = textOf(minus(w.f[k], product(w.h[k], off)))
		}
		for row := range rows {
			moved.Limits[row] = textOf(plus(w.limits[row], product(w.g[row], off)))
		}
		got := checkQuad(t, moved)
		for k := range b.X {
			b.X[k] = impl.AddFrac(b.X[k], by[k])
		}
		if got.Kind != b.Kind || !slices.Equal(got.X, b.X) || !slices.Equal(got.Press, b.Press) {
			t.Errorf("BestOf of %v, moved by %v: %v, want %v", q, by, got, b)
		}
	}
}

// A touch of chapter 7 with a firm matrix that is the same mirrored is the best of the z that are from 0 on: what parts is what presses there.
func TestBestOfTouches(t *testing.T) {
	r := rand.New(rand.NewSource(246))
	for i := range 100 {
		n := 1 + i%mostState
		q := drawnQuad(t, r, n, 0, 1)
		for k := range n {
			row := slices.Repeat([]string{"0"}, n)
			row[k] = "-1"
			q.G, q.Limits = append(q.G, row), append(q.Limits, "0")
		}
		touches, ok := impl.AllTouches(q.H, q.F)
		b := checkQuad(t, q)
		if !ok || len(touches) != 1 || !slices.Equal(touches[0].Z, b.X) || !slices.Equal(touches[0].W, b.Press) {
			t.Errorf("BestOf of %v: %v, touches %v %v", q, b, touches, ok)
		}
	}
}
