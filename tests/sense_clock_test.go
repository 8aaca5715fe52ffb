package tests

import (
	"math"
	"math/big"
	"math/rand"
	"slices"
	"testing"

	"loop.example/g00047/impl"
)

func clockOf(rate string, ahead string) impl.Clock { return impl.Clock{Rate: rate, Ahead: ahead} }

// ticksOf are pairs of Here and There.
func ticksOf(l ...int) []impl.Tick {
	out := []impl.Tick{}
	for i := 0; i < len(l); i += 2 {
		out = append(out, impl.Tick{Here: l[i], There: l[i+1]})
	}
	return out
}

func TestClocks(t *testing.T) {
	for _, c := range []struct {
		l      []impl.Tick
		rate   string
		ahead  string
		misses string
	}{
		{ticksOf(0, 1, 1, 3, 2, 5), "2", "1", "0"},
		{ticksOf(0, 0, 1, 1), "1", "0", "0"},
		{ticksOf(1, 5, 2, 5), "0", "5", "0"},
		{ticksOf(3, 1, -3, 4), "-1/2", "5/2", "0"},
		{ticksOf(0, 0, 3, 1), "1/3", "0", "0"},
		{ticksOf(0, 0, 1, 1, 2, 0), "0", "1/3", "2/3"},
		{ticksOf(0, 0, 1, 0, 2, 1), "1/2", "-1/6", "1/6"},
		{ticksOf(0, 0, 0, 2, 1, 3), "2", "1", "2"},
		{ticksOf(0, 0, 0, 2, 0, 4, 1, 3), "1", "2", "8"},
		{ticksOf(5, 0, 5, 0, 6, 7), "7", "-35", "0"},
		{ticksOf(-1, 1, 0, 0, 1, 1, 2, 4), "1", "1", "4"},
		{ticksOf(-mostTick, -mostTick, mostTick, mostTick), "1", "0", "0"},
		{ticksOf(-mostTick, mostTick, mostTick, -mostTick), "-1", "0", "0"},
		{ticksOf(mostTick-1, -mostTick, mostTick, mostTick), "2000000000", "-1999999999000000000", "0"},
	} {
		got, ok := impl.ClockOf(c.l)
		if got != clockOf(c.rate, c.ahead) || !ok {
			t.Errorf("ClockOf of %v: %q %v, want %s, %s", c.l, got, ok, c.rate, c.ahead)
		}
		if s, ok := impl.Misses(c.l, got); s != c.misses || !ok {
			t.Errorf("Misses of %v, %q: %s %v, want %s", c.l, got, s, ok, c.misses)
		}
		checkClock(t, c.l)
	}
}

// No other Rate and Ahead miss the ticks by less, by what Misses tells.
func TestNoClockMissesLess(t *testing.T) {
	r := rand.New(rand.NewSource(112))
	others := []string{"0", "1", "-1", "1/2", "-1/2", "1/1000", "-1/1000", "1/" + tenTo(50), "-1/" + tenTo(50), "7", tenTo(9)}
	for n := 2; n <= mostTicks; n++ {
		for _, most := range []int{2, 10, 1000, mostTick} {
			l := drawnTicks(r, n, most)
			c, ok := impl.ClockOf(l)
			if !ok {
				continue
			}
			least, _ := impl.Misses(l, c)
			for i := range len(others) * len(others) {
				other := clockOf(impl.AddFrac(c.Rate, others[i%len(others)]), impl.AddFrac(c.Ahead, others[i/len(others)]))
				more, ok := impl.Misses(l, other)
				if order, good := impl.CmpFrac(least, more); !ok || !good || order > 0 || order == 0 && other != c {
					t.Fatalf("%q misses %v by %s, %q by %s", other, l, more, c, least)
				}
			}
		}
	}
}

func TestClocksOfDrawnTicks(t *testing.T) {
	r := rand.New(rand.NewSource(113))
	for n := range mostTicks + 2 {
		for _, most := range []int{1, 2, 10, 1000, mostTick} {
			for range 20 {
				checkClock(t, drawnTicks(r, n, most))
			}
		}
	}
}

func TestClocksOfSmallTicks(t *testing.T) {
	for i := range 729 {
		at := func(by int) int { return i/by%3 - 1 }
		checkClock(t, ticksOf(at(1), at(3), at(9), at(27), at(81), at(243)))
		checkClock(t, ticksOf(at(1), at(3), at(9), at(27)))
	}
}

// Ticks that lie on a line are told by it, and missed by 0.
func TestTicksOnALine(t *testing.T) {
	r := rand.New(rand.NewSource(114))
	for n := 2; n <= mostTicks; n++ {
		rate, ahead := drawnBetween(r, -1000, 1000), drawnBetween(r, -1000, 1000)
		l := []impl.Tick{}
		for i := range n {
			here := drawnBetween(r, -999999, 999998)
			if i == 1 {
				here = l[0].Here + 1
			}
			l = append(l, impl.Tick{Here: here, There: rate*here + ahead})
		}
		want := clockOf(whole(int64(rate)).RatString(), whole(int64(ahead)).RatString())
		if c, ok := impl.ClockOf(l); c != want || !ok {
			t.Errorf("ClockOf of %v: %q %v, want %q", l, c, ok, want)
		}
		if s, ok := impl.Misses(l, want); s != "0" || !ok {
			t.Errorf("Misses of %v, %q: %s %v", l, want, s, ok)
		}
		for _, k := range l {
			if s := impl.ThereAt(want, k.Here); s != whole(int64(k.There)).RatString() {
				t.Errorf("ThereAt of %q, %d: %s", want, k.Here, s)
			}
		}
	}
}

func checkNoClock(t *testing.T, l []impl.Tick) {
	t.Helper()
	if c, ok := impl.ClockOf(l); c != (impl.Clock{}) || ok {
		t.Errorf("ClockOf of %.200v: %q %v", l, c, ok)
	}
}

func TestTicksWithoutAClock(t *testing.T) {
	checkNoClock(t, nil)
	checkNoClock(t, []impl.Tick{})
	for _, here := range []int{0, 1, -1, 7, mostTick, -mostTick} {
		for n := 1; n <= mostTicks; n++ {
			l := make([]impl.Tick, n)
			for i := range l {
				l[i] = impl.Tick{Here: here, There: i * i}
			}
			checkNoClock(t, l)
			checkMisses(t, l, clockOf("2", "1/3"))
			if n > 1 {
				l[n-1].Here = here - 1 + 2*(here&1)
				if upTo(mostTick, l[n-1].Here) {
					if _, ok := impl.ClockOf(l); !ok {
						t.Errorf("ClockOf of %v is false", l)
					}
				}
				checkClock(t, l)
			}
		}
	}
}

func checkNoMisses(t *testing.T, l []impl.Tick, c impl.Clock) {
	t.Helper()
	if s, ok := impl.Misses(l, c); s != "" || ok {
		t.Errorf("Misses of %.200v, %.60q: %.60q %v", l, c, s, ok)
	}
}

func TestTicksAtTheirLimits(t *testing.T) {
	for n := 1; n <= mostTicks; n++ {
		for at := range n {
			for _, most := range []int{mostTick, -mostTick} {
				l := ticksOf(slices.Repeat([]int{1, 2}, n)...)
				l[at].Here = most
				checkClock(t, l)
				l[at].There = -most
				checkClock(t, l)
				if s, ok := impl.Misses(l, clockOf("1", "1")); s == "" || !ok {
					t.Errorf("Misses of %v: %s %v", l, s, ok)
				}
			}
			for _, wrong := range []int{mostTick + 1, -mostTick - 1, math.MaxInt, math.MinInt} {
				l := ticksOf(slices.Repeat([]int{1, 2}, n)...)
				l[0].Here = 7
				l[at].Here = wrong
				checkNoClock(t, l)
				checkNoMisses(t, l, clockOf("1", "1"))
				l[at] = impl.Tick{Here: 3, There: wrong}
				checkNoClock(t, l)
				checkNoMisses(t, l, clockOf("1", "1"))
			}
		}
	}
	for _, n := range []int{mostTicks + 1, mostTicks + 2, 1000} {
		l := make([]impl.Tick, n)
		for i := range l {
			l[i] = impl.Tick{Here: i, There: i}
		}
		checkNoClock(t, l)
		checkNoMisses(t, l, clockOf("1", "0"))
		if c, ok := impl.ClockOf(l[:mostTicks]); c != clockOf("1", "0") || !ok {
			t.Errorf("ClockOf of %d ticks: %q %v", mostTicks, c, ok)
		}
		checkMisses(t, l[:mostTicks], clockOf("1/2", "0"))
	}
}

func TestThereAt(t *testing.T) {
	for _, c := range []struct {
		clock impl.Clock
		here  int
		want  string
	}{
		{clockOf("2", "1"), 3, "7"},
		{clockOf("1/2", "1/3"), 1, "5/6"},
		{clockOf("1/2", "1/2"), -1, "0"},
		{clockOf("0", "-5/7"), math.MinInt, "-5/7"},
		{clockOf("1", "0"), math.MinInt, "-9223372036854775808"},
		{clockOf("1", "0"), math.MaxInt, "9223372036854775807"},
		{clockOf("-1", "0"), math.MinInt, "9223372036854775808"},
		{clockOf("2", "1"), math.MaxInt, "18446744073709551615"},
		{clockOf("-1/2", "-1"), math.MinInt, "4611686018427387903"},
		{clockOf(nines(400), "0"), 1, nines(400)},
		{clockOf(nines(400), "0"), -1, "-" + nines(400)},
		{clockOf(nines(400), "0"), 2, ""},
		{clockOf(nines(400), "1"), 1, ""},
		{clockOf(nines(400), "-1"), -1, ""},
		{clockOf("1", nines(400)), 0, nines(400)},
		{clockOf("1", nines(400)), 1, ""},
		{clockOf("1", "-"+nines(400)), -1, ""},
		{clockOf("1/"+nines(400), "0"), 1, "1/" + nines(400)},
		{clockOf("1/"+nines(400), "1/2"), 1, ""},
		{clockOf("1/"+nines(400), "1/2"), 0, "1/2"},
		// What comes up on the way may be longer than what is told.
		{clockOf(nines(400), "-"+nines(400)), 2, nines(400)},
		{clockOf("-"+nines(400), nines(400)), 1, "0"},
		{clockOf(tenTo(399), "-"+nines(400)), 10, "1"},
		{clockOf("1/"+tenTo(399), "0"), math.MaxInt, "9223372036854775807/" + tenTo(399)},
	} {
		if got := impl.ThereAt(c.clock, c.here); got != c.want {
			t.Errorf("ThereAt of %.60q, %d: %.60q, want %.60q", c.clock, c.here, got, c.want)
		}
		checkThere(t, c.clock, c.here)
	}
}

func TestThereAtOfDrawnClocks(t *testing.T) {
	r := rand.New(rand.NewSource(115))
	heres := []int{0, 1, -1, 2, 10, -10, mostTick, mostTick + 1, math.MaxInt, math.MinInt}
	for _, a := range ordinary() {
		for _, b := range ordinary()[:40] {
			checkThere(t, clockOf(a, b), heres[r.Intn(len(heres))])
			checkThere(t, clockOf(b, a), int(r.Uint64()))
		}
	}
	for range 300 {
		checkThere(t, clockOf(randomFrac(r, 400), randomFrac(r, 400)), drawnBetween(r, -100, 100))
		checkThere(t, clockOf(randomFrac(r, 200), randomFrac(r, 200)), int(r.Uint64()))
	}
}

func TestMisses(t *testing.T) {
	for _, c := range []struct {
		l     []impl.Tick
		clock impl.Clock
		want  string
	}{
		{nil, clockOf("1", "0"), "0"},
		{nil, clockOf(nines(400), "1/"+nines(400)), "0"},
		{ticksOf(0, 0), clockOf("5", "3"), "9"},
		{ticksOf(1, 0), clockOf("5", "3"), "64"},
		{ticksOf(1, 9, 2, 9), clockOf("5", "3"), "17"},
		{ticksOf(1, 0, 1, 0, 1, 0), clockOf("1/2", "1/3"), "25/12"},
		{ticksOf(0, 0), clockOf("0", nines(200)), ""},
		{ticksOf(-mostTick, mostTick), clockOf("1", "0"), "4000000000000000000"},
	} {
		if c.want == "" {
			n := rat(t, c.clock.Ahead)
			c.want = textOf(times(n, n))
		}
		if s, ok := impl.Misses(c.l, c.clock); s != c.want || !ok {
			t.Errorf("Misses of %v, %.60q: %.60q %v, want %.60q", c.l, c.clock, s, ok, c.want)
		}
		checkMisses(t, c.l, c.clock)
	}
}

// 200 nines squared have 400 digits, 1 and 200 noughts squared have 401.
func TestMissesThatAreTooLong(t *testing.T) {
	none := ticksOf(0, 0)
	for _, sign := range []string{"", "-"} {
		for _, s := range []string{nines(200), "1/" + nines(200), nines(200) + "/" + tenTo(199)} {
			if told, ok := impl.Misses(none, clockOf("0", sign+s)); told == "" || !ok {
				t.Errorf("Misses by %.60q: %.60q %v", s, told, ok)
			}
			checkMisses(t, none, clockOf("0", sign+s))
			checkMisses(t, ticksOf(1, 0), clockOf(sign+s, "0"))
		}
		for _, s := range []string{tenTo(200), "1/" + tenTo(200), nines(201), "1/" + nines(201), nines(400), "1/" + nines(400), nines(200) + "/" + tenTo(200)} {
			checkNoMisses(t, none, clockOf("0", sign+s))
			checkNoMisses(t, ticksOf(1, 0), clockOf(sign+s, "0"))
			checkMisses(t, none, clockOf("0", sign+s))
		}
	}
	// One square fits, two of them do not.
	checkMisses(t, slices.Repeat(none, 1), clockOf("0", nines(200)))
	checkNoMisses(t, slices.Repeat(none, 2), clockOf("0", nines(200)))
	checkNoMisses(t, slices.Repeat(none, mostTicks), clockOf("0", nines(200)))
}

// The squares are of fractions with lower numbers of 500 digits and more, but their sum is 1.
func TestMissesThatAreTooLongOnTheWayAlone(t *testing.T) {
	x, y, length := big.NewInt(1), big.NewInt(0), big.NewInt(1)
	for range 360 {
		x, y = new(big.Int).Sub(new(big.Int).Mul(x, big.NewInt(3)), new(big.Int).Mul(y, big.NewInt(4))), new(big.Int).Add(new(big.Int).Mul(x, big.NewInt(4)), new(big.Int).Mul(y, big.NewInt(3)))
		length.Mul(length, big.NewInt(5))
	}
	first, second := new(big.Rat).SetFrac(x, length), new(big.Rat).SetFrac(y, length)
	c := clockOf(textOf(minus(second, first)), textOf(first))
	if s, ok := impl.Misses(ticksOf(0, 0, 1, 0), c); s != "1" || !ok {
		t.Errorf("Misses of %.60q: %.60q %v", c, s, ok)
	}
	checkNoMisses(t, ticksOf(0, 0), c)
	checkNoMisses(t, ticksOf(1, 0), c)
	far := clockOf(nines(400), "-"+nines(400)[:398]+"89")
	if s, ok := impl.Misses(ticksOf(1, 10, 1, 10), far); s != "0" || !ok {
		t.Errorf("Misses of %.60q: %.60q %v", far, s, ok)
	}
}

func TestMissesOfDrawnClocks(t *testing.T) {
	r := rand.New(rand.NewSource(116))
	for n := range mostTicks + 2 {
		for _, digits := range []int{1, 5, 40, 95, 100, 190, 400} {
			checkMisses(t, drawnTicks(r, n, 1000), clockOf(randomFrac(r, digits), randomFrac(r, digits)))
			checkMisses(t, drawnTicks(r, n, mostTick), clockOf(randomFrac(r, digits), randomFrac(r, 3)))
			checkMisses(t, drawnTicks(r, n, mostTick+1), clockOf(randomFrac(r, 3), randomFrac(r, digits)))
		}
	}
}
