package tests

import (
	"math/big"
	"math/rand"
	"slices"
	"strings"
	"testing"

	"loop.example/g00047/impl"
)

func TestControlRank(t *testing.T) {
	for _, c := range []struct {
		a    string
		b    string
		want int
	}{
		{"5", "0", 0},
		{"0", "0", 0},
		{"0", "1", 1},
		{"5", "-1/3", 1},
		{"1 2 | 3 4", "0 0", 0},
		{"0 0 | 0 0", "1 2", 1},
		{"1 0 | 0 1", "1 2", 1},
		{"1/2 0 | 0 1/2", "1 -2", 1},
		// a b is b three times.
		{"1 2 | 2 1", "1 1", 1},
		{"1 0 | 0 2", "1 0", 1},
		{"1 0 | 0 2", "0 1", 1},
		{"1 0 | 0 2", "1 1", 2},
		{"0 1 | 0 0", "0 1", 2},
		{"0 1 | 0 0", "1 0", 1},
		{"0 1 | -2 -3", "0 1", 2},
		{"1 2 3 | 4 5 6 | 7 8 9", "0 0 0", 0},
		{"0 0 0 | 0 0 0 | 0 0 0", "0 0 1", 1},
		{"2 0 0 | 0 2 0 | 0 0 2", "1 2 3", 1},
		{"1 0 0 | 0 2 0 | 0 0 3", "0 1 0", 1},
		{"1 0 0 | 0 2 0 | 0 0 3", "1 0 1", 2},
		{"1 0 0 | 0 2 0 | 0 0 2", "1 1 1", 2},
		{"1 0 0 | 0 2 0 | 0 0 3", "1 1 1", 3},
		{"0 1 0 | 0 0 1 | 0 0 0", "0 0 1", 3},
		{"0 1 0 | 0 0 1 | 0 0 0", "0 1 0", 2},
		{"0 1 0 | 0 0 1 | 0 0 0", "1 0 0", 1},
		// The second column is 0, and the third one so as well.
		{"0 0 0 | 0 0 0 | 1 0 0", "0 5 0", 1},
		{"0 1 0 | 0 0 1 | -5 -7 -11", "0 0 1/9", 3},
		{"1/2 1/3 0 | 0 1/5 1/7 | 1/9 0 1", "0 0 1", 3},
	} {
		if got, ok := impl.ControlRank(square(c.a), strings.Fields(c.b)); got != c.want || !ok {
			t.Errorf("ControlRank of %s, %s: %d %v, want %d", c.a, c.b, got, ok, c.want)
		}
		checkRank(t, square(c.a), strings.Fields(c.b))
	}
}

// Every rank from 0 to n comes up for each n, in what is drawn too.
func TestControlRankOfMany(t *testing.T) {
	seen := map[[2]int]int{}
	count := func(a [][]string, b []string) {
		checkRank(t, a, b)
		rank, _ := impl.ControlRank(a, b)
		seen[[2]int{len(a), rank}]++
	}
	for n := 1; n <= 2; n++ {
		eachTexts([]string{"0", "1", "-2"}, n*n, func(l []string) {
			eachTexts([]string{"0", "1", "-1/2"}, n, func(b []string) { count(slices.Collect(slices.Chunk(l, n)), b) })
		})
	}
	r := rand.New(rand.NewSource(202))
	for i := range 1200 {
		s := smallSystem(r, 1+i%mostState)
		count(s.a, s.b)
		count(drawnSquare(r, 1+i%mostState, 3), drawnTexts(r, 1+i%mostState, 3))
	}
	for n := 1; n <= mostState; n++ {
		for rank := range n + 1 {
			if seen[[2]int{n, rank}] < 2 {
				t.Errorf("the rank %d of %d came up %d times", rank, n, seen[[2]int{n, rank}])
			}
		}
	}
}

func TestPlaceGain(t *testing.T) {
	for _, c := range []struct {
		a    string
		b    string
		goal string
		want string
	}{
		{"3", "1", "0 1", "3"},
		{"3", "2", "-1/2 1", "5/4"},
		{"0", "-1", "5 1", "-5"},
		{"0 1 | -2 -3", "0 1", "0 0 1", "-2 -3"},
		{"0 1 | -2 -3", "0 1", "2 3 1", "0 0"},
		{"0 1 | 0 0", "0 1", "1/4 -1 1", "1/4 -1"},
		{"1 1 | 0 1", "0 1", "0 0 1", "1 2"},
		{"1 1 | 0 1", "1/2 1", "0 0 1", "1 3/2"},
		{"1 0 | 0 2", "1 1", "0 0 1", "-1 4"},
		{"0 1 0 | 0 0 1 | 0 0 0", "0 0 1", "5 7 11 1", "5 7 11"},
		{"0 1 0 | 0 0 1 | 1 2 3", "0 0 -1", "0 0 0 1", "-1 -2 -3"},
		{"1 0 0 | 0 2 0 | 0 0 3", "1 1 1", "0 0 0 1", "1/2 -8 27/2"},
	} {
		a, b, goal := square(c.a), strings.Fields(c.b), strings.Fields(c.goal)
		got, ok := impl.PlaceGain(a, b, goal)
		checkNumbers(t, "PlaceGain of "+c.a+", "+c.b+", "+c.goal, got, ok, strings.Fields(c.want), true)
		checkPlaced(t, a, b, goal)
	}
}

// Where the rank is below n there is no gain, also for the goal that there is already.
func TestNoGainBelowTheRank(t *testing.T) {
	for _, c := range [][2]string{
		{"5", "0"}, {"0", "0"}, {"1 2 | 3 4", "0 0"}, {"0 0 | 0 0", "1 2"}, {"1 0 | 0 1", "1 2"}, {"1 2 | 2 1", "1 1"}, {"1 0 | 0 2", "1 0"},
		{"0 1 | 0 0", "1 0"}, {"0 0 0 | 0 0 0 | 0 0 0", "1 1 1"}, {"1 0 0 | 0 2 0 | 0 0 3", "1 0 1"}, {"1 0 0 | 0 2 0 | 0 0 2", "1 1 1"},
		{"0 1 0 | 0 0 1 | 0 0 0", "0 1 0"}, {"0 1 0 | 0 0 1 | 0 0 0", "1 0 0"},
	} {
		a, b := square(c[0]), strings.Fields(c[1])
		own, ok := impl.CharPoly(a)
		if !ok {
			t.Fatal("no goal")
		}
		zero := append(slices.Repeat([]string{"0"}, len(a)), "1")
		for _, goal := range [][]string{own, zero, goodSystem(len(a), 0).goal} {
			got, ok := impl.PlaceGain(a, b, goal)
			checkNumbers(t, "PlaceGain of "+c[0]+", "+c[1], got, ok, nil, false)
			got, ok = impl.WatchGain(transposed(a), b, goal)
			checkNumbers(t, "WatchGain of mirrored "+c[0]+", "+c[1], got, ok, nil, false)
			checkPlaced(t, a, b, goal)
			checkWatched(t, transposed(a), b, goal)
		}
	}
}

func TestClosedBy(t *testing.T) {
	for _, c := range []struct {
		a    string
		b    string
		k    string
		want string
	}{
		{"3", "2", "5", "-7"},
		{"1/2", "1/3", "-1/5", "17/30"},
		{"0 1 | -2 -3", "0 1", "-2 -3", "0 1 | 0 0"},
		{"0 0 | 0 0", "1 2", "3 5", "-3 -5 | -6 -10"},
		{"1 2 | 3 4", "0 0", "3 5", "1 2 | 3 4"},
		{"1 2 | 3 4", "3 5", "0 0", "1 2 | 3 4"},
		{"1 2 3 | 4 5 6 | 7 8 9", "1 0 -1", "1 2 3", "0 0 0 | 4 5 6 | 8 10 12"},
		{"0 0 0 | 0 0 0 | 0 0 0", "1 2 3", "1/5 1/7 1/11", "-1/5 -1/7 -1/11 | -2/5 -2/7 -2/11 | -3/5 -3/7 -3/11"},
	} {
		a, b, k := square(c.a), strings.Fields(c.b), strings.Fields(c.k)
		if got, ok := impl.ClosedBy(a, b, k); !sameRows(got, square(c.want)) || !ok {
			t.Errorf("ClosedBy of %s, %s, %s: %q %v, want %s", c.a, c.b, c.k, got, ok, c.want)
		}
		checkClosed(t, a, b, k)
	}
	r := rand.New(rand.NewSource(203))
	for i := range 400 {
		n := 1 + i%mostState
		checkClosed(t, drawnSquare(r, n, 1+i%9), drawnTexts(r, n, 1+i%5), drawnTexts(r, n, 1+i%7))
	}
}

func TestWatchGain(t *testing.T) {
	for _, c := range []struct {
		a    string
		c    string
		goal string
		want string
	}{
		{"3", "1", "0 1", "3"},
		{"3", "2", "-1/2 1", "5/4"},
		{"0 1 | -2 -3", "1 0", "0 0 1", "-3 7"},
		{"1 1 | 0 1", "1 0", "0 0 1", "2 1"},
		{"1 1 | 0 1", "1 0", "1/4 -1 1", "1 1/4"},
		{"1 0 | 0 2", "1 1", "0 0 1", "-1 4"},
		{"0 1 0 | 0 0 1 | 0 0 0", "1 0 0", "5 7 11 1", "11 7 5"},
		{"0 0 1 | 1 0 2 | 0 1 3", "0 0 1", "0 0 0 1", "1 2 3"},
	} {
		a, row, goal := square(c.a), strings.Fields(c.c), strings.Fields(c.goal)
		got, ok := impl.WatchGain(a, row, goal)
		checkNumbers(t, "WatchGain of "+c.a+", "+c.c+", "+c.goal, got, ok, strings.Fields(c.want), true)
		checkWatched(t, a, row, goal)
	}
	// What can be placed by b can't always be watched by the same numbers, nor the other way round.
	a, l, goal := square("0 1 | 0 0"), []string{"0", "1"}, []string{"1/4", "-1", "1"}
	if _, ok := impl.PlaceGain(a, l, goal); !ok {
		t.Error("PlaceGain has no gain")
	}
	got, ok := impl.WatchGain(a, l, goal)
	checkNumbers(t, "WatchGain of what is not watched", got, ok, nil, false)
	got, ok = impl.PlaceGain(transposed(a), l, goal)
	checkNumbers(t, "PlaceGain of what is not placed", got, ok, nil, false)
	if _, ok := impl.WatchGain(transposed(a), l, goal); !ok {
		t.Error("WatchGain has no gain")
	}
}

// Every small matrix of up to two numbers with every small list, and drawn ones of all sizes.
func TestGainsOfMany(t *testing.T) {
	for n := 1; n <= 2; n++ {
		goal := goodSystem(n, 0).goal
		eachTexts([]string{"0", "1", "-2"}, n*n, func(l []string) {
			eachTexts([]string{"0", "1", "-1/2"}, n, func(b []string) {
				a := slices.Collect(slices.Chunk(l, n))
				checkPlaced(t, a, b, goal)
				checkWatched(t, a, b, goal)
			})
		})
	}
	r := rand.New(rand.NewSource(204))
	for i := range 600 {
		s := drawnSystem(r, 1+i%mostState, 1+i%6)
		if i%2 == 0 {
			s = smallSystem(r, 1+i/2%mostState)
		}
		checkPlaced(t, s.a, s.b, s.goal)
		checkWatched(t, s.a, s.c, s.goal)
	}
}

// Poles are told by their places, real ones and in pairs; they stand there when the loop is closed, and what settles dies out.
func TestPolesStandWhereTheyArePlaced(t *testing.T) {
	r := rand.New(rand.NewSource(205))
	for i := range 120 {
		n := 1 + i%mostState
		s := goodSystem(n, 0)
		poles := rats(1)
		for len(poles) <= n {
			half := small(r, 4)
			if len(poles) == n || r.Intn(2) == 0 {
				poles = polyProduct(poles, []*big.Rat{half, whole(1)})
				continue
			}
			// half and the same up and down: x^2 - 2 half x + half^2 + up^2.
			up := plus(small(r, 4), whole(5))
			poles = polyProduct(poles, []*big.Rat{plus(times(half, half), times(up, up)), times(whole(-2), half), whole(1)})
		}
		s.goal = texts(t, poles)
		k, ok := impl.PlaceGain(s.a, s.b, s.goal)
		if !ok {
			t.Fatalf("no gain for %q", s)
		}
		closed, _ := impl.ClosedBy(s.a, s.b, k)
		got, ok := impl.CharPoly(closed)
		checkNumbers(t, "CharPoly of what is closed", got, ok, s.goal, true)
		l, ok := impl.WatchGain(s.a, s.c, s.goal)
		if !ok {
			t.Fatalf("nothing watched for %q", s)
		}
		watched, _ := impl.ClosedBy(s.a, l, s.c)
		got, ok = impl.CharPoly(watched)
		checkNumbers(t, "CharPoly of what is watched", got, ok, s.goal, true)
	}
}

// With all poles at 0 a state is 0 after as many steps as it has numbers, whatever it was.
func TestPolesAtNoughtStopAtOnce(t *testing.T) {
	r := rand.New(rand.NewSource(206))
	for i := range 60 {
		n := 1 + i%mostState
		s := goodSystem(n, 0)
		zero := slices.Repeat([]string{"0"}, n)
		k, ok := impl.PlaceGain(s.a, s.b, append(slices.Clone(zero), "1"))
		if !ok {
			t.Fatal("no gain")
		}
		closed, _ := impl.ClosedBy(s.a, s.b, k)
		states, ok := impl.RunState(closed, zero, drawnTexts(r, n, 3), slices.Repeat([]string{"7"}, n))
		if !ok || !slices.Equal(states[n-1], zero) {
			t.Errorf("%q closed by %q: %q %v", s, k, states, ok)
		}
	}
}
