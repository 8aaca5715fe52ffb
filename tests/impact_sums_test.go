package tests

import (
	"math/rand"
	"slices"
	"testing"

	"loop.example/g00047/impl"
)

func TestSumsOfBodies(t *testing.T) {
	a := impl.Body{Mass: "2", X: "1", Y: "3", U: "5", V: "7"}
	b := impl.Body{Mass: "1/2", X: "-2", Y: "1/3", U: "3", V: "-4"}
	for _, c := range []struct {
		l                   []impl.Body
		x, y, energy, whirl string
	}{
		{nil, "0", "0", "0", "0"},
		{[]impl.Body{}, "0", "0", "0", "0"},
		{[]impl.Body{a}, "10", "14", "74", "-16"},
		{[]impl.Body{b}, "3/2", "-2", "25/4", "7/2"},
		{[]impl.Body{a, b}, "23/2", "12", "321/4", "-25/2"},
		{[]impl.Body{b, a}, "23/2", "12", "321/4", "-25/2"},
		{[]impl.Body{a, a}, "20", "28", "148", "-32"},
		{slices.Repeat([]impl.Body{a}, 12), "120", "168", "888", "-192"},
		{slices.Repeat([]impl.Body{a}, 13), "", "", "", ""},
		{[]impl.Body{{Mass: "1", X: "9", Y: "9", U: "0", V: "0"}}, "0", "0", "0", "0"},
		{[]impl.Body{{Mass: "3", X: "0", Y: "1", U: "-1", V: "0"}}, "-3", "0", "3/2", "3"},
		{[]impl.Body{{Mass: "3", X: "1", Y: "0", U: "0", V: "1"}}, "0", "3", "3/2", "3"},
	} {
		good := len(c.l) <= 12
		if x, y, ok := impl.Momentum(c.l); x != c.x || y != c.y || ok != good {
			t.Errorf("Momentum of %q: %s %s %v, want %s %s", c.l, x, y, ok, c.x, c.y)
		}
		if got, ok := impl.Energy(c.l); got != c.energy || ok != good {
			t.Errorf("Energy of %q: %s %v, want %s", c.l, got, ok, c.energy)
		}
		if got, ok := impl.Whirl(c.l); got != c.whirl || ok != good {
			t.Errorf("Whirl of %q: %s %v, want %s", c.l, got, ok, c.whirl)
		}
		checkSumsOf(t, c.l)
	}
}

func TestSumsOfDrawnBodies(t *testing.T) {
	r := rand.New(rand.NewSource(93))
	for n := range mostBodies + 3 {
		for _, digits := range []int{1, 3, 10, 40, 100} {
			for range 8 {
				l := drawnBodies(r, n, digits)
				checkSumsOf(t, l)
				slices.Reverse(l)
				checkSumsOf(t, l)
			}
		}
	}
}

func TestSumsOfLongBodies(t *testing.T) {
	long, other := nines(400), "-"+nines(400)
	for _, c := range []struct {
		l                     []impl.Body
		moment, energy, whirl bool
	}{
		// Beyond the limit, alone.
		{[]impl.Body{{Mass: "2", X: "0", Y: "0", U: long, V: "0"}}, false, false, true},
		{[]impl.Body{{Mass: "2", X: "0", Y: "0", U: "0", V: long}}, false, false, true},
		{[]impl.Body{{Mass: "1", X: "0", Y: "0", U: long, V: long}}, true, false, true},
		{[]impl.Body{{Mass: "1/2", X: "0", Y: "0", U: "1/" + long, V: "0"}}, false, false, true},
		{[]impl.Body{{Mass: "1", X: long, Y: "0", U: "0", V: "2"}}, true, true, false},
		{[]impl.Body{{Mass: "1", X: "0", Y: long, U: "-2", V: "0"}}, true, true, false},
		{[]impl.Body{{Mass: long, X: "1", Y: "1", U: "1", V: "1"}}, true, true, true},
		{[]impl.Body{{Mass: long, X: "2", Y: "0", U: "1", V: "1"}}, true, true, false},
		// It comes up on the way, and falls away again.
		{[]impl.Body{{Mass: "9", X: "1", Y: "1", U: long, V: other}, {Mass: "9", X: "-1", Y: "-1", U: other, V: long}}, true, false, false},
		{[]impl.Body{{Mass: "9", X: "1", Y: "1", U: long, V: other}, {Mass: "9", X: "1", Y: "1", U: other, V: long}}, true, false, true},
		{[]impl.Body{{Mass: "1", X: long, Y: long, U: long, V: long}}, true, false, true},
		{[]impl.Body{{Mass: "1/" + tenTo(399), X: "0", Y: "0", U: tenTo(300), V: tenTo(300)}}, true, true, true},
		{[]impl.Body{{Mass: "1/" + tenTo(399), X: tenTo(300), Y: "0", U: "0", V: tenTo(300)}}, true, true, true},
		{[]impl.Body{{Mass: "1", X: "1", Y: "0", U: "0", V: long}, {Mass: "1", X: "1", Y: "0", U: "0", V: "1"}}, false, false, false},
		{[]impl.Body{{Mass: "1", X: "1", Y: "0", U: "0", V: long}, {Mass: "1", X: "1", Y: "0", U: "0", V: "1"}, {Mass: "1", X: "1", Y: "0", U: "0", V: "-1"}}, true, false, true},
		// One of the two sums alone.
		{[]impl.Body{{Mass: "2", X: "0", Y: "0", U: "1", V: long}}, false, false, true},
		{[]impl.Body{{Mass: "2", X: "0", Y: "0", U: long, V: "1"}}, false, false, true},
	} {
		if _, _, ok := impl.Momentum(c.l); ok != c.moment {
			t.Errorf("Momentum of %.300q: %v", c.l, ok)
		}
		if _, ok := impl.Energy(c.l); ok != c.energy {
			t.Errorf("Energy of %.300q: %v", c.l, ok)
		}
		if _, ok := impl.Whirl(c.l); ok != c.whirl {
			t.Errorf("Whirl of %.300q: %v", c.l, ok)
		}
		checkSumsOf(t, c.l)
	}
}
