package tests

import (
	"math/rand"
	"testing"

	"loop.example/g00047/impl"
)

func TestGoodTripsByHand(t *testing.T) {
	for _, c := range []struct {
		m, l string
		want bool
	}{
		{".", "", true}, {"#", "", true}, {".", "0>0", true}, {"..", "0>1 1>0", true}, {"..", "0>0 1>1", true},
		// From of one is To of another, all round.
		{"..|..", "0>1 1>2 2>3 3>0", true}, {".....", "0>4 4>3 3>2 2>1 1>0", true},
		// Five, and six.
		{"...|...", "0>5 1>4 2>3 3>2 4>1", true}, {"...|...", "0>5 1>4 2>3 3>2 4>1 5>0", false}, {"...|...", "0>0 1>1 2>2 3>3 4>4 5>5", false},
		// Two From alike, two To alike, both; the first and the last, too.
		{"...", "0>1 0>2", false}, {"...", "1>0 2>0", false}, {"...", "0>0 0>0", false}, {"...", "0>1 0>1", false}, {"...", "0>1 1>1", false}, {"...", "0>0 0>1", false},
		{"...|...", "0>5 1>4 2>3 3>2 0>1", false}, {"...|...", "0>5 1>4 2>3 3>2 4>5", false}, {"...|...", "0>5 1>4 2>3 2>2", false}, {"...|...", "0>5 1>4 2>3 4>3", false},
		// A path is not asked for.
		{".#.", "0>2 2>0", true}, {".#|#.", "0>3", true},
		// Walls, what is not known, numbers below 0 and beyond.
		{".#.", "0>1", false}, {".#.", "1>0", false}, {".#.", "1>1", false}, {".?.", "0>1", false}, {".?.", "1>0", false}, {".?.", "1>1", false},
		{"...", "-1>0", false}, {"...", "0>-1", false}, {"...", "3>0", false}, {"...", "0>3", false}, {"...", "0>1 1>3", false}, {"...", "0>1 -1>2", false}, {"...|...", "5>5", true}, {"...|...", "6>5", false}, {"...|...", "5>6", false},
		{"..#|?..", "0>1 1>4 4>5 5>0", true}, {"..#|?..", "0>1 1>4 4>3 5>0", false}, {"..#|?..", "0>1 1>4 4>5 2>0", false},
	} {
		m, l := cellsOf(c.m), tripsOf(c.l)
		if got := impl.GoodTrips(m, l); got != c.want {
			t.Errorf("GoodTrips of %s, %s: %v", c.m, c.l, got)
		}
		checkTrips(t, m, l)
	}
	for _, m := range []impl.Cells{open(1, 1), open(1, mostWide), open(mostWide, 1), open(mostWide, mostWide), cellsOf("#")} {
		if !impl.GoodTrips(m, nil) || !impl.GoodTrips(m, []impl.Trip{}) {
			t.Errorf("GoodTrips of %v, nobody, is false", m)
		}
	}
}

// All maps of up to four cells, any two trips among all numbers that may be cells, and one more.
func TestGoodTripsOfAllSmallMaps(t *testing.T) {
	for _, sides := range [][2]int{{1, 1}, {2, 1}, {1, 2}, {3, 1}, {2, 2}} {
		n := sides[0]*sides[1] + 2
		eachMap(sides[0], sides[1], func(m impl.Cells) {
			for code := range n * n * n * n {
				checkTrips(t, m, []impl.Trip{{From: code%n - 1, To: code/n%n - 1}, {From: code/n/n%n - 1, To: code/n/n/n - 1}})
			}
		})
	}
}

func TestGoodTripsOfDrawnMaps(t *testing.T) {
	r := rand.New(rand.NewSource(331))
	seen := map[bool]int{}
	for range 1000 {
		m := drawnCells(r, drawnBetween(r, 1, mostWide), drawnBetween(r, 1, mostWide), drawnBetween(r, 2, 20))
		l := drawnTrips(r, m, drawnBetween(r, 0, mostCrowd+1))
		checkTrips(t, m, l)
		if len(l) > 0 && r.Intn(3) > 0 {
			l[r.Intn(len(l))].From = r.Intn(len(m.Cells))
			l[r.Intn(len(l))].To = r.Intn(len(m.Cells))
		}
		checkTrips(t, m, l)
		seen[impl.GoodTrips(m, l)]++
	}
	if seen[true] < 100 || seen[false] < 100 {
		t.Errorf("only %v", seen)
	}
}
