package tests

import (
	"math/big"
	"math/rand"
	"slices"
	"strings"
	"testing"

	"loop.example/g00047/impl"
)

func TestCharPoly(t *testing.T) {
	for _, c := range []struct {
		a    string
		want string
	}{
		{"3", "-3 1"},
		{"-3", "3 1"},
		{"0", "0 1"},
		{"-2/7", "2/7 1"},
		{"0 1 | -2 -3", "2 3 1"},
		{"0 0 | 0 0", "0 0 1"},
		{"1 0 | 0 1", "1 -2 1"},
		{"1 2 | 3 4", "-2 -5 1"},
		{"0 1 | -1 0", "1 0 1"},
		{"0 1 | 0 0", "0 0 1"},
		{"1/2 1/3 | -1/5 1/7", "29/210 -9/14 1"},
		{"0 0 0 | 0 0 0 | 0 0 0", "0 0 0 1"},
		{"1 0 0 | 0 1 0 | 0 0 1", "-1 3 -3 1"},
		{"1 0 0 | 0 2 0 | 0 0 3", "-6 11 -6 1"},
		{"0 1 0 | 0 0 1 | -5 -7 -11", "5 7 11 1"},
		{"0 0 -5 | 1 0 -7 | 0 1 -11", "5 7 11 1"},
		{"0 1 0 | 0 0 1 | 1 0 0", "-1 0 0 1"},
		{"1 2 3 | 4 5 6 | 7 8 9", "0 -18 -15 1"},
		{"1 2 3 | 4 5 6 | 7 8 10", "3 -12 -16 1"},
		{"-1 1/2 0 | 0 -1/3 2 | 1/4 0 1", "-7/12 -1 1/3 1"},
	} {
		got, ok := impl.CharPoly(square(c.a))
		checkNumbers(t, "CharPoly of "+c.a, got, ok, strings.Fields(c.want), true)
		checkChar(t, square(c.a))
	}
}

// Every matrix of up to two numbers with few entries, and drawn ones of three.
func TestCharPolyOfMany(t *testing.T) {
	entries := []string{"0", "1", "-1", "1/2", "-3"}
	for n := 1; n <= 2; n++ {
		eachTexts(entries, n*n, func(l []string) { checkChar(t, slices.Collect(slices.Chunk(l, n))) })
	}
	r := rand.New(rand.NewSource(199))
	for i := range 600 {
		checkChar(t, smallSquare(r, 1+i%mostState, -2, 2))
		checkChar(t, drawnSquare(r, 1+i%mostState, 1+i%7))
	}
}

// Below or above what stands along nothing but that counts, and what is mirrored has the same poles.
func TestCharPolyOfCorners(t *testing.T) {
	r := rand.New(rand.NewSource(200))
	for i := range 150 {
		n := 1 + i%mostState
		a, poles := drawnSquare(r, n, 2), rats(1)
		checkMirroredChar(t, a)
		for row := range n {
			for k := range row {
				a[row][k] = "0"
			}
			poles = polyProduct(poles, []*big.Rat{negative(rat(t, a[row][row])), whole(1)})
		}
		want := texts(t, poles)
		for _, m := range [][][]string{a, transposed(a)} {
			got, ok := impl.CharPoly(m)
			checkNumbers(t, "CharPoly of a corner", got, ok, want, true)
		}
	}
}

func checkMirroredChar(t *testing.T, a [][]string) {
	t.Helper()
	one, ok := impl.CharPoly(a)
	two, okToo := impl.CharPoly(transposed(a))
	if !ok || !okToo || !slices.Equal(one, two) {
		t.Errorf("CharPoly of %q: %q, mirrored %q", a, one, two)
	}
}

// The matrix with the goal in its last row has the goal, whatever it is.
func TestCharPolyOfGoals(t *testing.T) {
	r := rand.New(rand.NewSource(201))
	for i := range 150 {
		n := 1 + i%mostState
		goal := drawnGoal(r, n, 1+i%40)
		a := identity(n, "0")
		for k := range n {
			if k > 0 {
				a[k-1][k] = "1"
			}
			a[n-1][k] = impl.SubFrac("0", goal[k])
		}
		got, ok := impl.CharPoly(a)
		checkNumbers(t, "CharPoly of what was made for a goal", got, ok, goal, true)
		checkMirroredChar(t, a)
	}
}
