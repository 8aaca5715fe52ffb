package tests

import (
	"math/rand"
	"slices"
	"testing"

	"loop.example/g00047/impl"
)

func TestMoves(t *testing.T) {
	for _, c := range []struct {
		b    impl.Belief
		m    impl.Move
		want impl.Belief
	}{
		{beliefOf("3", "2"), moveOf("-1/2", "1", "1/2"), beliefOf("-1/2", "1")},
		{beliefOf("3", "2"), moveOf("1", "0", "0"), beliefOf("3", "2")},
		{beliefOf("3", "2"), moveOf("0", "7", "0"), beliefOf("7", "0")},
		{beliefOf("3", "0"), moveOf("2", "1", "0"), beliefOf("7", "0")},
		{beliefOf("3", "0"), moveOf("2", "1", "1/3"), beliefOf("7", "1/3")},
		{beliefOf("1 2", "1 0 | 0 1"), moveOf("1 1 | 0 1", "1 -1", "0 0 | 0 1"), beliefOf("4 1", "2 1 | 1 2")},
		{beliefOf("1 2", "2 1 | 1 3"), moveOf("0 2 | 1 0", "0 0", "0 0 | 0 0"), beliefOf("4 1", "12 2 | 2 2")},
		{beliefOf("1 2", "1 1 | 1 1"), moveOf("1 -1 | 1 1", "0 0", "1 2 | 2 4"), beliefOf("-1 3", "1 2 | 2 8")},
		{beliefOf("1 2", "0 0 | 0 0"), moveOf("1 -1 | 1 1", "0 0", "1 2 | 2 4"), beliefOf("-1 3", "1 2 | 2 4")},
		{beliefOf("1 2 3", "1 0 0 | 0 2 0 | 0 0 3"), moveOf("0 1 0 | 0 0 1 | 1 0 0", "0 0 1", "0 0 0 | 0 0 0 | 0 0 0"), beliefOf("2 3 2", "2 0 0 | 0 3 0 | 0 0 1")},
		{beliefOf("0 1 2", "1 0 0 | 0 1 0 | 0 0 1"), moveOf("1 1 1/2 | 0 1 1 | 0 0 1", "0 0 0", "0 0 0 | 0 0 0 | 0 0 1"), beliefOf("2 3 2", "9/4 3/2 1/2 | 3/2 2 1 | 1/2 1 2")},
	} {
		got, ok := impl.MoveBelief(c.b, c.m)
		if !sameBelief(got, c.want) || !ok {
			t.Errorf("MoveBelief of %q, %q: got %q %v, want %q", c.b, c.m, got, ok, c.want)
		}
		checkMove(t, c.b, c.m)
	}
}

func TestDrawnMoves(t *testing.T) {
	r := rand.New(rand.NewSource(139))
	for n := 1; n <= mostDim; n++ {
		for _, digits := range []int{1, 2, 5, 30} {
			for range 25 {
				checkMove(t, drawnBelief(t, r, n, digits), drawnMove(t, r, n, digits))
			}
		}
	}
}

// Two moves behind one another are one whose matrix is the product.
func TestMovesBehindOneAnother(t *testing.T) {
	r := rand.New(rand.NewSource(140))
	for n := 1; n <= mostDim; n++ {
		for range 20 {
			b, one, two := drawnBelief(t, r, n, 3), drawnMove(t, r, n, 3), drawnMove(t, r, n, 3)
			first, _ := impl.MoveBelief(b, one)
			want, ok := impl.MoveBelief(first, two)
			both, _ := guess{ratList(t, one.U), ratRows(t, one.Q)}.moved(t, two).tell()
			f := impl.Move{U: both.Mean, Q: both.Cov}
			for _, row := range rowsByColumns(ratRows(t, two.F), ratRows(t, one.F)) {
				f.F = append(f.F, texts(t, row))
			}
			got, okToo := impl.MoveBelief(b, f)
			if !sameBelief(got, want) || !ok || !okToo {
				t.Errorf("two moves of %q: %q %v, at once %q %v", b, want, ok, got, okToo)
			}
		}
	}
}

// Without a Q a move can be taken back: of three numbers by changing their places and their sizes.
func TestMovesThatAreTakenBack(t *testing.T) {
	r := rand.New(rand.NewSource(141))
	for n := 1; n <= mostDim; n++ {
		for range 10 {
			b, there, back := drawnBelief(t, r, n, 10), stay(n), stay(n)
			there.F, back.F = identity(n, "0"), identity(n, "0")
			for i, k := range r.Perm(n) {
				by := drawnLength(r, 10)
				there.F[i][k], there.U[i] = by, randomFrac(r, 10)
				back.F[k][i], back.U[k] = impl.DivFrac("1", by), impl.SubFrac("0", impl.DivFrac(there.U[i], by))
			}
			away, ok := impl.MoveBelief(b, there)
			got, okToo := impl.MoveBelief(away, back)
			if !sameBelief(got, b) || !ok || !okToo {
				t.Errorf("%q was moved by %q, and back by %q: %q", b, there, back, got)
			}
		}
	}
}

// A move makes no number surer than it is by the Q of it; without spread and without Q there is none.
func TestMovesWithoutSpread(t *testing.T) {
	r := rand.New(rand.NewSource(142))
	for n := 1; n <= mostDim; n++ {
		for range 10 {
			b, m := drawnBelief(t, r, n, 3), drawnMove(t, r, n, 3)
			b.Cov = identity(n, "0")
			got, ok := impl.MoveBelief(b, m)
			if !ok || !sameRows(got.Cov, m.Q) {
				t.Errorf("MoveBelief of %q, %q: %q %v", b, m, got, ok)
			}
			m.Q = identity(n, "0")
			got, ok = impl.MoveBelief(b, m)
			if !ok || !sameRows(got.Cov, b.Cov) {
				t.Errorf("MoveBelief of %q, %q: %q %v", b, m, got, ok)
			}
			b = drawnBelief(t, r, n, 3)
			got, ok = impl.MoveBelief(b, stay(n))
			if !ok || !sameBelief(got, b) {
				t.Errorf("%q stayed, but is %q %v", b, got, ok)
			}
			got, ok = impl.MoveBelief(b, forget(n))
			if !ok || !sameBelief(got, impl.Belief{Mean: slices.Repeat([]string{"1"}, n), Cov: identity(n, "1")}) {
				t.Errorf("%q was forgotten, but is %q %v", b, got, ok)
			}
		}
	}
}

// otherRows are lists of rows of n that have another shape than n rows of n.
func otherRows(n int, s string) [][][]string {
	all := [][][]string{nil, {}, identity(n-1, s), identity(n+1, s), identity(n, s)[1:], append(identity(n, s), slices.Repeat([]string{"0"}, n)), make([][]string, n)}
	for at := range n {
		for _, row := range [][]string{nil, {}, slices.Repeat([]string{"0"}, n-1), slices.Repeat([]string{"0"}, n+1), slices.Repeat([]string{"0"}, 1000)} {
			m := identity(n, s)
			m[at] = row
			all = append(all, m)
		}
	}
	return all
}

// otherLists are lists of other lengths than n.
func otherLists(n int) [][]string {
	return [][]string{nil, {}, slices.Repeat([]string{"0"}, n-1), slices.Repeat([]string{"0"}, n+1), slices.Repeat([]string{"0"}, 2*n), slices.Repeat([]string{"0"}, 1000)}
}

func TestMovesOfOtherShapes(t *testing.T) {
	for n := 1; n <= mostDim; n++ {
		b := goodBelief(n)
		for _, rows := range otherRows(n, "1") {
			m := goodMove(n)
			m.F = rows
			checkNoMove(t, b, m)
			m = goodMove(n)
			m.Q = rows
			checkNoMove(t, b, m)
			m.F = rows
			checkNoMove(t, b, m)
			checkNoBelief(t, impl.Belief{Mean: b.Mean, Cov: rows})
		}
		for _, l := range otherLists(n) {
			m := goodMove(n)
			m.U = l
			checkNoMove(t, b, m)
			checkNoBelief(t, impl.Belief{Mean: l, Cov: b.Cov})
		}
		for other := range mostDim + 2 {
			if other != n {
				checkNoMove(t, b, goodMove(other))
				checkNoMove(t, b, stay(other))
			}
		}
		checkNoMove(t, b, impl.Move{})
	}
}
