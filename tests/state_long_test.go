package tests

import (
	"math/rand"
	"slices"
	"strings"
	"testing"

	"loop.example/g00047/impl"
)

// Numbers of 400 digits are told, of 401 not, in each place of a goal; what comes up on the way may be longer.
func TestLongCharPolys(t *testing.T) {
	long, less, tiny := nines(400), nines(399)+"8", "1/"+nines(400)
	for _, c := range []struct {
		a    string
		fine bool
	}{
		{long, true},
		{"-" + long, true},
		{tiny, true},
		{tenTo(399) + "/" + long, true},
		// The number beside x alone.
		{less + " 0 | 0 1", true},
		{long + " 0 | 0 1", false},
		{"-" + long + " 0 | 0 -1", false},
		{long + " " + long + " | -1 -1", true},
		// The number without x alone.
		{tenTo(200) + " 0 | 0 " + tenTo(199), true},
		{tenTo(200) + " 0 | 0 " + tenTo(200), false},
		{"0 " + tenTo(200) + " | " + tenTo(200) + " 0", false},
		{"0 1/" + tenTo(200) + " | 1/" + tenTo(200) + " 0", false},
		{"0 1/" + tenTo(200) + " | 1/" + tenTo(199) + " 0", true},
		// In the midst of three, at the head and at the end.
		{"0 " + tenTo(200) + " 0 | " + tenTo(200) + " 0 0 | 0 0 0", false},
		{"0 " + tenTo(200) + " 0 | " + tenTo(199) + " 0 0 | 0 0 0", true},
		{"0 " + tenTo(200) + " 0 | 0 0 " + tenTo(199) + " | 1 0 0", true},
		{"0 " + tenTo(200) + " 0 | 0 0 " + tenTo(200) + " | 1 0 0", false},
		{less + " 0 0 | 0 1 0 | 0 0 0", true},
		{long + " 0 0 | 0 1 0 | 0 0 0", false},
		// On the way alone: the powers of these are longer than what is told.
		{long + " " + long + " | -" + long + " -" + long, true},
		{long + " -" + long + " | " + long + " -" + long, true},
		{"0 " + long + " | 0 0", true},
		{"0 " + long + " " + long + " | 0 0 " + long + " | 0 0 0", true},
		{"0 " + long + " | " + tiny + " 0", true},
		{"0 " + long + " 5 | " + tiny + " 0 0 | 0 0 1", true},
	} {
		if _, ok := impl.CharPoly(square(c.a)); ok != c.fine {
			t.Errorf("CharPoly of %.300q: %v", c.a, ok)
		}
		checkChar(t, square(c.a))
	}
}

// However long the columns are, the rank is told.
func TestLongRanks(t *testing.T) {
	long, tiny := nines(400), "1/"+nines(400)
	for _, c := range []struct {
		a    string
		b    string
		want int
	}{
		{long, long, 1},
		{long + " 0 | 0 " + long, long + " 1", 1},
		{long + " 0 | 0 " + nines(399) + "8", long + " 1", 2},
		{tiny + " 0 | 0 1/" + nines(399), tiny + " 1", 2},
		{long + " 0 0 | 0 " + long + " 0 | 0 0 1", long + " 1 1", 2},
		{long + " 0 0 | 0 -" + long + " 0 | 0 0 1", long + " 1 " + tiny, 3},
		{long + " 0 0 | 0 -" + long + " 0 | 0 0 1", "0 0 0", 0},
		{long + " " + long + " " + long + " | " + long + " " + long + " " + long + " | " + long + " " + long + " " + long, "1 2 3", 2},
		{long + " " + long + " " + long + " | " + long + " " + long + " " + long + " | " + long + " " + long + " " + long, "7 7 7", 1},
	} {
		if got, ok := impl.ControlRank(square(c.a), strings.Fields(c.b)); got != c.want || !ok {
			t.Errorf("ControlRank of %.300q, %.100q: %d %v, want %d", c.a, c.b, got, ok, c.want)
		}
		checkRank(t, square(c.a), strings.Fields(c.b))
	}
}

func TestLongGains(t *testing.T) {
	long, less, tiny := nines(400), nines(399)+"8", "1/"+nines(400)
	for _, c := range []struct {
		a    string
		b    string
		goal string
		fine bool
	}{
		{less, "1", "1 1", true},
		{long, "1", "1 1", false},
		{long, "1", "-1 1", true},
		{"-" + long, "1", "-1 1", false},
		{"1", tiny, "0 1", true},
		{"2", tiny, "0 1", false},
		{long, long, "0 1", true},
		{long, tiny, "0 1", false},
		{long, tiny, "-" + long + " 1", true},
		// ClosedBy could not tell what lies between: the gain is told all the same.
		{"0 1 | 0 0", "0 1", long + " " + long + " 1", true},
		{"0 1 | -1 0", "0 1", long + " 0 1", true},
		{"0 1 | 1 0", "0 1", long + " 0 1", false},
		{"0 1 | 0 1", "0 1", "0 " + long + " 1", false},
		{"0 1 | 0 -1", "0 1", "0 " + long + " 1", true},
		{"0 1 0 | 0 0 1 | 0 -1 0", "0 0 1", "0 " + long + " 0 1", true},
		{"0 1 0 | 0 0 1 | 0 1 0", "0 0 1", "0 " + long + " 0 1", false},
		{"0 1 0 | 0 0 1 | 1 0 0", "0 0 1", long + " 0 0 1", false},
		{"0 1 0 | 0 0 1 | 0 0 1", "0 0 1", "0 0 " + long + " 1", false},
	} {
		a, b, goal := square(c.a), strings.Fields(c.b), strings.Fields(c.goal)
		if _, ok := impl.PlaceGain(a, b, goal); ok != c.fine {
			t.Errorf("PlaceGain of %.300q, %.200q, %.200q: %v", c.a, c.b, c.goal, ok)
		}
		if _, ok := impl.WatchGain(transposed(a), b, goal); ok != c.fine {
			t.Errorf("WatchGain of %.300q mirrored, %.200q, %.200q: %v", c.a, c.b, c.goal, ok)
		}
		checkPlaced(t, a, b, goal)
		checkWatched(t, transposed(a), b, goal)
	}
}

func TestLongClosed(t *testing.T) {
	long, less, tiny := nines(400), nines(399)+"8", "1/"+nines(400)
	for n := 1; n <= mostState; n++ {
		for at := range n * n {
			a, b, k := identity(n, "0"), slices.Repeat([]string{"0"}, n), slices.Repeat([]string{"0"}, n)
			b[at/n], k[at%n] = "-1", "1"
			for _, c := range []struct {
				s    string
				fine bool
			}{{less, true}, {long, false}, {"-" + long, true}, {tiny, false}, {"1/" + nines(399), true}, {tenTo(399) + "/" + long, false}} {
				a[at/n][at%n] = c.s
				if _, ok := impl.ClosedBy(a, b, k); ok != c.fine {
					t.Errorf("ClosedBy of %.300q, %q, %q: %v", a, b, k, ok)
				}
				checkClosed(t, a, b, k)
			}
			a[at/n][at%n] = "1"
			b[at/n], k[at%n] = long, tiny
			checkClosed(t, a, b, k)
			k[at%n] = long
			checkClosed(t, a, b, k)
		}
	}
}

// A state that is too long to be told ends a run without any answer, wherever it stands.
func TestLongStates(t *testing.T) {
	long, less := nines(400), nines(399)+"8"
	for _, c := range []struct {
		a    string
		b    string
		x    string
		u    string
		fine bool
	}{
		{"1", "1", less, "1", true},
		{"1", "1", less, "1 1", false},
		{"1", "1", less, "1 -1 1 -1 1", true},
		{"1", "1", less, "1 1 -1", false},
		{"1", "1", long, "1 -1", false},
		{"1", "1", long, "-1 1 -1 1", true},
		{"1", "1", less, "0 0 0 1 1", false},
		{"1", "1", less, "0 0 0 0 1", true},
		{"10", "1", "1", "0 0 0 0 0", true},
		{tenTo(99), "0", "1", "1 1 1 1", true},
		{tenTo(100), "0", "1", "1 1 1 1", false},
		{tenTo(100), "0", "1", "1 1 1", true},
		{"1/" + tenTo(80), "0", "1", "1 1 1 1 1", false},
		{"1/" + tenTo(79), "0", "1", "1 1 1 1 1", true},
		// Nothing is left of it at the next step: it is not told all the same.
		{"0", "1", "0", "1 " + long + " 0", true},
		{"0", "2", "0", "1 " + long + " 0", false},
		{"0", long, "0", "1 10 0", false},
		// One number of several.
		{"1 0 | 0 1", "0 1", "5 " + less, "1", true},
		{"1 0 | 0 1", "0 1", "5 " + less, "1 1", false},
		{"1 0 0 | 0 1 0 | 0 0 1", "1 0 0", less + " 5 5", "1 1 -1", false},
		{"1 0 0 | 0 1 0 | 0 0 1", "0 1 0", "5 " + less + " 5", "1 1 -1", false},
		{"1 0 0 | 0 1 0 | 0 0 1", "0 1 0", "5 " + less + " 5", "1 -1 1", true},
		// On the way alone.
		{long, "-" + long, long, long, true},
		{long + " " + long + " | 1 1", "0 0", long + " -" + long, "1", true},
		{long + " " + long + " | 1 1", "1 0", long + " -" + long, long, true},
	} {
		s := system{a: square(c.a), b: strings.Fields(c.b), x: strings.Fields(c.x), u: strings.Fields(c.u)}
		if _, ok := impl.RunState(s.a, s.b, s.x, s.u); ok != c.fine {
			t.Errorf("RunState of %.200q, %.100q, %.100q, %.100q: %v", c.a, c.b, c.x, c.u, ok)
		}
		checkStates(t, s)
	}
}

// Drawn numbers of all lengths up to the greatest: mostly nothing can be told, but the rank.
func TestDrawnLongSystems(t *testing.T) {
	r := rand.New(rand.NewSource(212))
	for i := range 30 {
		drawnSystem(r, 1+i%mostState, []int{50, 100, 130, 200, 400}[i%5]).check(t)
	}
	for i := range 3 {
		n := 1 + i%mostState
		s := drawnSystem(r, n, 3)
		for k := range n {
			for c := range n {
				s.a[k][c] = longFrac(r)
			}
			s.b[k], s.c[k], s.k[k], s.x[k], s.goal[k] = longFrac(r), longFrac(r), longFrac(r), longFrac(r), longFrac(r)
		}
		s.check(t)
		if rank, ok := impl.ControlRank(s.a, s.b); rank != n || !ok {
			t.Errorf("ControlRank of long numbers: %d %v", rank, ok)
		}
	}
}
