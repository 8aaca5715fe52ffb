package tests

import (
	"math/rand"
	"slices"
	"testing"

	"loop.example/g00047/impl"
)

func TestDemand(t *testing.T) {
	for _, c := range []struct {
		chores   string
		at, want int
	}{
		{"1/1/1", 0, 0}, {"1/1/1", 1, 1}, {"1/1/1", 2, 2}, {"1/1/1", 1000000, 1000000},
		// Due, a Period behind it, and one tick less each.
		{"9/2/5", 0, 0}, {"9/2/5", 4, 0}, {"9/2/5", 5, 2}, {"9/2/5", 6, 2}, {"9/2/5", 9, 2}, {"9/2/5", 13, 2}, {"9/2/5", 14, 4}, {"9/2/5", 22, 4}, {"9/2/5", 23, 6},
		{"60/60/60", 59, 0}, {"60/60/60", 60, 60}, {"60/60/60", 119, 60}, {"60/60/60", 120, 120}, {"60/60/60", 1000000, 999960}, {"60/1/1", 0, 0}, {"60/1/1", 1, 1}, {"60/1/1", 60, 1}, {"60/1/1", 61, 2},
		{"4/1/4 6/2/6 12/4/12", 3, 0}, {"4/1/4 6/2/6 12/4/12", 4, 1}, {"4/1/4 6/2/6 12/4/12", 6, 3}, {"4/1/4 6/2/6 12/4/12", 11, 4}, {"4/1/4 6/2/6 12/4/12", 12, 11}, {"4/1/4 6/2/6 12/4/12", 24, 22},
		// One of them is not due yet.
		{"5/2/2 60/7/50", 49, 20}, {"5/2/2 60/7/50", 50, 27}, {"60/7/50 5/2/2", 49, 20},
		// More than there is time for.
		{"1/1/1 1/1/1 1/1/1 1/1/1 1/1/1 1/1/1", 7, 42}, {"1/1/1 1/1/1 1/1/1 1/1/1 1/1/1 1/1/1", 1000000, 6000000},
		{"9/2/5", 1000000, 222222}, {"9/2/5", 999999, 222222}, {"9/1/1", 1000000, 111112}, {"9/1/1", 999999, 111111},
		// Beyond, and of no good chores.
		{"9/2/5", -1, 0}, {"9/2/5", 1000001, 0}, {"1/1/1", 1000001, 0}, {"", 5, 0}, {"9/1/1 0/1/1", 5, 0}, {"5/3/2", 1000, 0},
	} {
		if got := checkDemand(t, choresOf(c.chores), c.at); got != c.want {
			t.Errorf("DemandAt of %q at %d: %d, want %d", c.chores, c.at, got, c.want)
		}
	}
}

// Each chore at each edge that the words name.
func TestDemandAtEdges(t *testing.T) {
	for _, c := range smallChores(longestPeriod) {
		if (c.Period+c.Need+c.Due)%3 != 0 && c.Period > 12 {
			continue
		}
		for _, at := range []int{-1, 0, c.Due - 1, c.Due, c.Due + c.Period - 1, c.Due + c.Period, c.Due + 7*c.Period - 1, c.Due + 7*c.Period} {
			checkDemand(t, []impl.Chore{c}, at)
		}
		for at, want := range map[int]int{c.Due - 1: 0, c.Due: c.Need, c.Due + c.Period - 1: c.Need, c.Due + c.Period: 2 * c.Need} {
			if got, ok := impl.DemandAt([]impl.Chore{c}, at); got != want || !ok {
				t.Fatalf("DemandAt of %v at %d: %d %v, want %d", c, at, got, ok, want)
			}
		}
	}
}

// From 0 on, tick by tick; and the last ticks that may be asked for.
func TestAllDemand(t *testing.T) {
	for _, l := range choreLists(2, 5) {
		for at := -1; at <= 30; at++ {
			checkDemand(t, l, at)
		}
	}
	r := rand.New(rand.NewSource(442))
	for range 300 {
		l := drawnChores(r, 1+r.Intn(mostChores), longestPeriod)
		for at := range 200 {
			checkDemand(t, l, at)
		}
		checkDemand(t, l, r.Intn(lastAsked+1))
		for at := lastAsked - 1; at <= lastAsked+2; at++ {
			checkDemand(t, l, at)
		}
	}
}

// A cycle later there is a cycle's load more.
func TestDemandGoesRound(t *testing.T) {
	r := rand.New(rand.NewSource(443))
	for range 2000 {
		l := drawnChores(r, 1+r.Intn(3), 30)
		cycle, _ := checkCycle(t, l)
		work := 0
		for _, c := range l {
			work += cycle / c.Period * c.Need
		}
		for range 10 {
			at := r.Intn(lastAsked - cycle)
			now, ok := impl.DemandAt(l, at)
			then, good := impl.DemandAt(l, at+cycle)
			if !ok || !good || then != now+work {
				t.Fatalf("DemandAt of %v: %d at %d, %d at %d, and %d in a cycle", l, now, at, then, at+cycle, work)
			}
		}
	}
}

func TestNeverLate(t *testing.T) {
	for _, c := range []struct {
		chores    string
		never, ok bool
	}{
		// Load below 1.
		{"60/1/1", true, true}, {"60/1/60", true, true}, {"60/59/59", true, true}, {"4/1/4 6/2/6 12/4/12", true, true}, {"4/1/1 6/2/3 12/4/11", true, true}, {"4/1/1 6/2/3 12/4/10", false, true},
		// Of 1.
		{"1/1/1", true, true}, {"60/60/60", true, true}, {"2/1/2 2/1/2", true, true}, {"2/1/1 2/1/2", true, true}, {"2/1/2 3/1/3 6/1/6", true, true}, {"60/10/60 60/10/60 60/10/60 60/10/60 60/10/60 60/10/60", true, true},
		// Above 1.
		{"1/1/1 60/1/60", false, true}, {"2/1/2 3/2/3", false, true}, {"60/59/60 59/1/59", false, true}, {"1/1/1 1/1/1", false, true}, {"1/1/1 1/1/1 1/1/1 1/1/1 1/1/1 1/1/1", false, true}, {"60/60/60 60/60/60", false, true},
		// Load enough, but too much is due at once: at 1, at 5, at 59.
		{"2/1/1 2/1/1", false, true}, {"2/1/1 3/1/1", false, true}, {"9/3/5 9/3/5", false, true}, {"9/2/5 9/3/5", true, true}, {"60/30/59 60/30/59", false, true}, {"60/30/60 60/30/60", true, true}, {"60/29/59 60/30/59", true, true},
		{"10/1/1 10/1/1", false, true}, {"10/1/1 10/1/2", true, true}, {"10/1/2 10/1/1", true, true}, {"60/1/1 60/1/2 60/1/3 60/1/4 60/1/5 60/1/6", true, true}, {"60/1/1 60/1/2 60/1/3 60/1/4 60/1/5 60/1/5", false, true},
		// Who would be late first is so behind many jobs.
		{"45/30/42 57/19/57", false, true}, {"60/45/60 56/14/47", false, true}, {"57/15/57 9/1/3 56/35/51", false, true}, {"14/6/13 53/15/45 59/17/59", false, true}, {"60/14/47 54/25/54 56/17/56", false, true}, {"50/25/50 54/18/54 42/7/35", false, true},
		// A Due that is one more is enough.
		{"60/45/60 56/14/52", false, true}, {"60/45/60 56/14/53", true, true}, {"50/25/50 54/18/54 42/7/36", false, true}, {"50/25/50 54/18/54 42/7/37", true, true}, {"45/30/43 57/19/57", false, true}, {"45/30/44 57/19/57", true, true},
		// A cycle next to 10^6, the greatest Due beyond it.
		{"27/1/27 13/1/13 7/1/7 37/1/37 11/1/11", true, true}, {"27/1/27 13/1/13 7/1/7 37/1/37 11/1/11 39/1/39", true, true}, {"27/1/1 13/1/1 7/1/7 37/1/37 11/1/11", false, true}, {"27/27/27 13/1/13 7/1/7 37/1/37 11/1/11", false, true},
		// No such cycle, whatever the load is.
		{"43/1/43 38/1/38 36/1/36 17/1/17 8/1/8", false, false}, {"59/1/59 58/1/58 57/1/57 55/1/55 53/1/53 47/1/47", false, false},
		{"43/43/43 38/1/38 36/1/36 17/1/17 8/1/8", false, false}, {"59/59/59 58/58/58 57/57/57 55/55/55 53/53/53 47/47/47", false, false},
		{"43/1/1 38/1/1 36/1/1 17/1/1 8/1/1", false, false},
		{"", false, false}, {"5/3/2", false, false}, {"2/1/1 0/1/1", false, false}, {"9/1/9 9/1/9 9/1/9 9/1/9 9/1/9 9/1/9 9/1/9", false, false},
	} {
		if never, ok := checkNever(t, choresOf(c.chores)); never != c.never || ok != c.ok {
			t.Errorf("NeverLate of %q: %v %v", c.chores, never, ok)
		}
	}
}

// Where more is due than there was time for at one time alone.
func TestLateAtOneTimeAlone(t *testing.T) {
	for _, c := range []struct {
		chores string
		at     int
	}{
		{"2/1/1 3/1/1", 1}, {"10/1/1 10/1/1", 1}, {"12/6/7 15/7/15", 31}, {"18/15/15 30/4/30", 33}, {"20/7/15 29/4/29 4/2/3", 35}, {"13/6/10 22/11/18", 62}, {"45/30/43 57/19/57", 628},
		// Late in cycles of 36, of 840 and of 9450 ticks.
		{"9/6/8 12/4/10", 35}, {"60/45/60 56/14/52", 780}, {"50/25/50 54/18/54 42/7/36", 8100},
	} {
		l := choresOf(c.chores)
		cycle, _ := exactCycle(l)
		if above := aboveAt(l, cycle); !slices.Equal(above, []int{c.at}) {
			t.Errorf("%q: more is due at %v", c.chores, above)
		}
		if never, ok := impl.NeverLate(l); never || !ok {
			t.Errorf("NeverLate of %q: %v %v", c.chores, never, ok)
		}
	}
}

// All lists of up to three chores of Periods up to 5; those with one such time, and with none, come up often.
func TestAllNeverLate(t *testing.T) {
	seen := map[string]int{}
	for _, l := range choreLists(3, 5) {
		never, _ := checkNever(t, l)
		cycle, _ := exactCycle(l)
		switch above := aboveAt(l, cycle); {
		case never:
			seen["never"]++
		case len(above) == 1:
			seen["once"]++
		case above[0] > 9:
			seen["only later"]++
		}
	}
	if seen["never"] < 1000 || seen["once"] < 50 || seen["only later"] < 10 {
		t.Error(seen)
	}
}

func TestDrawnNeverLate(t *testing.T) {
	r := rand.New(rand.NewSource(444))
	seen := map[[2]bool]int{}
	for range 3000 {
		never, ok := checkNever(t, drawnChores(r, 1+r.Intn(mostChores), []int{8, 20, longestPeriod}[r.Intn(3)]))
		seen[[2]bool{never, ok}]++
	}
	if seen[[2]bool{true, true}] < 100 || seen[[2]bool{false, true}] < 100 || seen[[2]bool{false, false}] < 50 {
		t.Error(seen)
	}
}

// Neither the order of the chores nor a longer Due makes anybody late.
func TestNeverLateHoldsOn(t *testing.T) {
	r := rand.New(rand.NewSource(445))
	for range 2000 {
		l := drawnChores(r, 1+r.Intn(4), 20)
		never, ok := checkNever(t, l)
		turned := slices.Clone(l)
		slices.Reverse(turned)
		if again, good := impl.NeverLate(turned); again != never || good != ok {
			t.Fatalf("NeverLate of %v: %v %v, of %v: %v %v", turned, again, good, l, never, ok)
		}
		at := r.Intn(len(l))
		turned[at].Due = turned[at].Period
		if again, _ := impl.NeverLate(turned); never && !again {
			t.Fatalf("NeverLate of %v, but not of %v", l, turned)
		}
	}
}
