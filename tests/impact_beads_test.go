package tests

import (
	"fmt"
	"math/big"
	"math/rand"
	"slices"
	"strings"
	"testing"

	"loop.example/g00047/impl"
)

// row reads beads: mass, place and speed of each, with bars between.
func row(s string) []impl.Bead {
	l := []impl.Bead{}
	for _, one := range strings.Split(s, "|") {
		if f := strings.Fields(one); len(f) == 3 {
			l = append(l, impl.Bead{Mass: f[0], At: f[1], Speed: f[2]})
		}
	}
	return l
}

// toldMeets writes what was met.
func toldMeets(l []impl.Meeting) string {
	parts := []string{}
	for _, m := range l {
		parts = append(parts, fmt.Sprint(m.Time, ":", m.Left))
	}
	return strings.Join(parts, " ")
}

type runCase struct {
	from, e, until, to, met string
}

func runCases() []runCase {
	return []runCase{
		// Two of them, ordinarily: ahead of the meeting, at it exactly, just ahead of it, behind it.
		{"1 0 1 | 1 2 0", "1", "3", "1 2 0 | 1 3 1", "2:0"},
		{"1 0 1 | 1 2 0", "1", "2", "1 2 0 | 1 2 1", "2:0"},
		{"1 0 1 | 1 2 0", "1", "1", "1 1 1 | 1 2 0", ""},
		{"1 0 1 | 1 2 0", "1", "199/100", "1 199/100 1 | 1 2 0", ""},
		{"1 0 1 | 1 2 0", "1", "201/100", "1 2 0 | 1 201/100 1", "2:0"},
		{"1 0 1 | 1 2 0", "1", "0", "1 0 1 | 1 2 0", ""},
		{"1 0 1 | 1 2 0", "0", "4", "1 3 1/2 | 1 3 1/2", "2:0"},
		{"1 0 1 | 1 2 0", "1/2", "4", "1 5/2 1/4 | 1 7/2 3/4", "2:0"},
		{"3 0 4 | 1 2 0", "1", "1", "3 3 2 | 1 5 6", "1/2:0"},
		{"1 0 4 | 3 2 0", "1", "1", "1 1 -2 | 3 3 2", "1/2:0"},
		{"1 -1 0 | 1 0 -1", "1", "1", "1 -1 -1 | 1 -1 0", "1:0"},
		// None or one of them.
		{"", "1", "5", "", ""},
		{"", "0", "0", "", ""},
		{"2 1/2 -3", "1", "5", "2 -29/2 -3", ""},
		{"2 1/2 -3", "0", "0", "2 1/2 -3", ""},
		// At one place from the beginning: a faster one, a slower one, alike ones.
		{"1 0 1 | 1 0 0", "1", "0", "1 0 0 | 1 0 1", "0:0"},
		{"1 0 1 | 1 0 0", "1", "1", "1 0 0 | 1 1 1", "0:0"},
		{"1 0 0 | 1 0 1", "1", "1", "1 0 0 | 1 1 1", ""},
		{"1 0 1 | 1 0 1", "1", "1", "1 1 1 | 1 1 1", ""},
		{"1 0 1 | 1 0 1", "0", "0", "1 0 1 | 1 0 1", ""},
		{"1 0 1 | 1 5 1", "1", "100", "1 100 1 | 1 105 1", ""},
		// Three and four at one place, at the beginning and later.
		{"1 0 3 | 1 0 2 | 1 0 1", "1", "0", "1 0 1 | 1 0 2 | 1 0 3", "0:0 0:1 0:0"},
		{"1 0 1 | 1 0 1 | 1 0 0", "1", "1", "1 0 0 | 1 1 1 | 1 1 1", "0:1 0:0"},
		{"1 0 1 | 1 0 0 | 1 0 0", "1", "1", "1 0 0 | 1 0 0 | 1 1 1", "0:0 0:1"},
		{"1 -1 1 | 1 0 0 | 1 1 -1", "1", "2", "1 -1 -1 | 1 0 0 | 1 1 1", "1:0 1:1 1:0"},
		{"1 -2 2 | 1 -1 1 | 1 1 -1 | 1 2 -2", "1", "1", "1 0 -2 | 1 0 -1 | 1 0 1 | 1 0 2", "1:0 1:1 1:0 1:2 1:1 1:0"},
		{"1 0 1 | 2 0 0 | 1 0 -1", "1", "0", "1 0 -13/27 | 2 0 -10/27 | 1 0 11/9", "0:0 0:1 0:0"},
		// Two pairs at one time, next to one another and apart.
		{"1 0 1 | 1 1 0 | 1 5 1 | 1 6 0", "1", "1", "1 1 0 | 1 1 1 | 1 6 0 | 1 6 1", "1:0 1:2"},
		{"1 0 1 | 1 1 0 | 1 2 1 | 1 3 0", "1", "3", "1 1 0 | 1 3 0 | 1 3 1 | 1 5 1", "1:0 1:2 3:1"},
		{"1 0 0 | 1 1 -1 | 1 2 0 | 1 3 -1", "0", "1", "1 0 -1/2 | 1 0 -1/2 | 1 2 -1/2 | 1 2 -1/2", "1:0 1:2"},
		// The right pair is earlier.
		{"1 0 1 | 1 9 0 | 1 10 -2", "1", "1/2", "1 1/2 1 | 1 9 -2 | 1 9 0", "1/2:1"},
		{"1 0 1 | 1 9 0 | 1 10 -2", "1", "10", "1 -10 -2 | 1 9 0 | 1 10 1", "1/2:1 10/3:0 9:1"},
		// Two that go on together, and two others that do so later.
		{"1 0 1 | 1 1 0 | 3 3 4 | 1 11 0", "0", "4", "1 5/2 1/2 | 1 5/2 1/2 | 3 17 3 | 1 17 3", "1:0 2:2"},
	}
}

func TestRuns(t *testing.T) {
	for _, c := range runCases() {
		to, met, ok := impl.RunBeads(row(c.from), c.e, c.until)
		if !ok || !slices.Equal(to, row(c.to)) || toldMeets(met) != c.met {
			t.Errorf("RunBeads of %s, %s, %s: %q %s %v, want %s %s", c.from, c.e, c.until, to, toldMeets(met), ok, c.to, c.met)
		}
		checkRun(t, row(c.from), c.e, c.until)
	}
}

func TestRunsOfDrawnBeads(t *testing.T) {
	r, met, over := rand.New(rand.NewSource(94)), 0, 0
	for n := range mostBodies + 1 {
		for range 60 {
			l, until := drawnBeads(r, n, 1+r.Int63n(5)), textOf(big.NewRat(r.Int63n(12), 1+r.Int63n(3)))
			for _, e := range []string{"0", "1", "1/2", "9/10"} {
				checkRun(t, l, e, until)
				_, m, ok := impl.RunBeads(l, e, until)
				met = max(met, len(m))
				if !ok {
					over++
				}
			}
		}
	}
	if met < mostMeets-1 || over < 20 {
		t.Error("too few meetings:", met, over)
	}
}

// Longer numbers: most runs end by a number that is too long to be told.
func TestRunsOfLongBeads(t *testing.T) {
	r := rand.New(rand.NewSource(95))
	for _, digits := range []int{3, 10, 30, 80} {
		for n := range 6 {
			for range 10 {
				l := make([]impl.Bead, n)
				for i := range l {
					l[i] = impl.Bead{Mass: drawnLength(r, digits), At: randomFrac(r, digits), Speed: randomFrac(r, digits)}
				}
				slices.SortFunc(l, func(a impl.Bead, b impl.Bead) int { return rat(t, a.At).Cmp(rat(t, b.At)) })
				for _, e := range []string{"0", "1", "1/2"} {
					checkRun(t, l, e, strings.TrimPrefix(randomFrac(r, digits), "-"))
				}
			}
		}
	}
}

// Beads as heavy as one another that keep their energy change their speeds: what is seen is as if they went through each other, one meeting for every two that do.
func TestRunsOfAlikeBeads(t *testing.T) {
	r := rand.New(rand.NewSource(96))
	for range 400 {
		l, until := drawnBeads(r, 1+r.Intn(7), 6), textOf(big.NewRat(r.Int63n(20), 3))
		through := make([]*big.Rat, len(l))
		for i := range l {
			l[i].Mass = "5/7"
			through[i] = plus(rat(t, l[i].At), times(rat(t, l[i].Speed), rat(t, until)))
		}
		passed := 0
		for i := range l {
			for j := range i {
				if order := through[j].Cmp(through[i]); order > 0 || order == 0 && rat(t, l[j].Speed).Cmp(rat(t, l[i].Speed)) > 0 {
					passed++
				}
			}
		}
		slices.SortFunc(through, (*big.Rat).Cmp)
		got, met, ok := impl.RunBeads(l, "1", until)
		if !ok || len(met) != passed || len(got) != len(l) {
			t.Fatalf("RunBeads of %q until %s: %v %v, want %d meetings", l, until, met, ok, passed)
		}
		for i := range got {
			if rat(t, got[i].At).Cmp(through[i]) != 0 {
				t.Errorf("RunBeads of %q until %s: bead %d at %s, want %s", l, until, i, got[i].At, through[i])
			}
		}
	}
}

// Who runs for a while and then goes on from there has run for both.
func TestRunsGoOn(t *testing.T) {
	r, seen := rand.New(rand.NewSource(97)), 0
	for range 600 {
		l, e := drawnBeads(r, r.Intn(6), 4), []string{"0", "1/3", "1"}[r.Intn(3)]
		first, second := big.NewRat(r.Int63n(9), 2), big.NewRat(r.Int63n(9), 2)
		at, met, ok := impl.RunBeads(l, e, textOf(first))
		end, more, okToo := impl.RunBeads(at, e, textOf(second))
		all, every, okAll := impl.RunBeads(l, e, textOf(plus(first, second)))
		if !ok || !okToo || len(met)+len(more) > mostMeets {
			if okAll {
				t.Errorf("RunBeads of %q, %s, %s and %s: true", l, e, first, second)
			}
			continue
		}
		for i, m := range more {
			more[i].Time = textOf(plus(rat(t, m.Time), first))
		}
		if !okAll || !slices.Equal(all, end) || !slices.Equal(every, append(met, more...)) {
			t.Errorf("RunBeads of %q, %s, %s and %s: %q %v, in two %q %v %v", l, e, first, second, all, every, end, met, more)
		}
		if len(met) > 0 && len(more) > 0 {
			seen++
		}
	}
	if seen < 50 {
		t.Error("too few go on with meetings on both sides:", seen)
	}
}

// passing are beads that will meet so many times, one meeting after the other: the last ones stand, and each of the first ones passes as many of them as it may.
func passing(times int) []impl.Bead {
	l := make([]impl.Bead, mostBodies)
	for i := range l {
		l[i] = impl.Bead{Mass: "1", At: fmt.Sprint(i), Speed: "0"}
	}
	for i := 10; i >= 0 && times > 0; i-- {
		// As fast as its place from the right, and a bit more, it passes all behind it but those as fast.
		n := min(times, 11-i)
		l[i].Speed = textOf(plus(speedBelow(l[i+1:], n), big.NewRat(1, 1000)))
		times -= n
	}
	return l
}

// speedBelow is the greatest of the n least speeds.
func speedBelow(l []impl.Bead, n int) *big.Rat {
	speeds := []*big.Rat{}
	for _, b := range l {
		r, _ := new(big.Rat).SetString(b.Speed)
		speeds = append(speeds, r)
	}
	slices.SortFunc(speeds, (*big.Rat).Cmp)
	return speeds[n-1]
}

func TestRunsOfAsManyMeetingsAsMayBe(t *testing.T) {
	long := tenTo(9)
	for n := range 28 {
		l := passing(n)
		_, met, ok := impl.RunBeads(l, "1", long)
		if ok != (n <= mostMeets) || ok && len(met) != n || !ok && len(met) != 0 {
			t.Errorf("%d meetings: %v %v", n, met, ok)
		}
		checkRun(t, l, "1", long)
	}
	// One more that would be behind the end is none too many.
	most, last := passing(mostMeets), passing(mostMeets+1)
	_, met, _ := impl.RunBeads(most, "1", long)
	if len(met) != mostMeets {
		t.Fatal("meetings:", met)
	}
	all, _ := exactMeets(pearlsOf(t, last), whole(1), rat(t, long), 100)
	end := rat(t, all[mostMeets].Time)
	if rat(t, all[mostMeets-1].Time).Cmp(end) == 0 {
		t.Fatal("the last two meet at one time:", all)
	}
	for _, c := range []struct {
		until *big.Rat
		fine  bool
	}{{end, false}, {plus(end, big.NewRat(1, 100)), false}, {half(plus(end, rat(t, all[mostMeets-1].Time))), true}, {rat(t, all[mostMeets-1].Time), true}} {
		if _, met, ok := impl.RunBeads(last, "1", textOf(c.until)); ok != c.fine || ok && len(met) != mostMeets {
			t.Errorf("until %s: %v %v", c.until, met, ok)
		}
		checkRun(t, last, "1", textOf(c.until))
	}
}

// Beads at one place that lose energy may meet for ever: that is too many, at once or later.
func TestRunsWithoutEnd(t *testing.T) {
	for _, c := range []string{"1 0 1 | 1 0 0 | 1 0 0", "1 0 1 | 1 0 0 | 1 0 -1", "1 0 1 | 1 0 1 | 1 0 0", "1 0 1 | 1 5 0 | 1 5 0", "1 0 2 | 1 1 0 | 1 2 -2", "1 0 1 | 1 1 0 | 2 3 0"} {
		for _, until := range []string{"0", "1/2", "1", "7", "20"} {
			checkRun(t, row(c), "0", until)
			checkRun(t, row(c), "1/100", until)
		}
		if to, met, ok := impl.RunBeads(row(c), "0", "7"); len(to) != 0 || len(met) != 0 || ok {
			t.Errorf("RunBeads of %s: %q %v %v", c, to, met, ok)
		}
	}
}

func TestRunsOfAllNumbersOfBeads(t *testing.T) {
	for n := range 15 {
		l := make([]impl.Bead, n)
		for i := range l {
			l[i] = impl.Bead{Mass: "1", At: "0", Speed: fmt.Sprint(i)}
		}
		if ok := impl.GoodBeads(l); ok != (n <= mostBodies) {
			t.Errorf("GoodBeads of %d: %v", n, ok)
		}
		if to, met, ok := impl.RunBeads(l, "1", "2"); ok != (n <= mostBodies) || len(met) != 0 || ok && len(to) != n || !ok && len(to) != 0 {
			t.Errorf("RunBeads of %d: %v %v %v", n, to, met, ok)
		}
		checkRun(t, l, "0", "2")
	}
}

func TestBeadsInOrder(t *testing.T) {
	for _, c := range []struct {
		s    string
		good bool
	}{
		{"1 0 0 | 1 0 0", true}, {"1 0 0 | 1 1 0", true}, {"1 1 0 | 1 0 0", false}, {"1 1/3 0 | 1 1/2 0", true}, {"1 1/2 0 | 1 1/3 0", false}, {"1 -1 0 | 1 -2 0", false}, {"1 -2 0 | 1 -1 0", true},
		{"1 9 0 | 1 10 0", true}, {"1 10 0 | 1 9 0", false}, {"1 0 0 | 1 1 0 | 1 0 0", false}, {"1 0 0 | 1 2 0 | 1 1 0", false}, {"1 1 0 | 1 0 0 | 1 2 0", false}, {"1 0 0 | 1 2 0 | 1 2 0 | 1 3 0", true},
		{"1 -1/2 5 | 1 1/2 -5", true}, {"1 1/2 5 | 1 -1/2 5", false}, {"1 0 9 | 1 0 -9", true}, {"0 0 9 | 1 0 -9", false}, {"1 0 9 | 0 0 -9", false}, {"-1 0 9 | 1 0 -9", false}, {"1 0 9 | -1/2 0 -9", false},
	} {
		if impl.GoodBeads(row(c.s)) != c.good {
			t.Errorf("GoodBeads of %s: %v", c.s, !c.good)
		}
		if _, _, ok := impl.RunBeads(row(c.s), "1", "0"); ok != c.good {
			t.Errorf("RunBeads of %s: %v", c.s, ok)
		}
		checkRun(t, row(c.s), "1", "1")
	}
}

// What is told has at most 400 digits; what comes up on the way may have more.
func TestRunsOfLongNumbers(t *testing.T) {
	nine, ninths, sixths := nines(400), strings.Repeat("1", 400), "6"+tenTo(399)[1:]
	for _, c := range []struct {
		from, e, until string
		fine           bool
	}{
		// The place, or the speed, behind the way.
		{"1 0 " + nine, "1", "1", true},
		{"1 0 " + nine, "1", "2", false},
		{"1 " + nine + " 1", "1", "0", true},
		{"1 " + nine + " 1", "1", "1", false},
		{"1 " + nine + " -1", "1", nine, true},
		{"1 0 1/" + nine, "1", "1", true},
		{"1 0 1/" + nine, "1", "1/2", false},
		{"2 0 " + sixths + " | 1 0 0", "1", "0", true},
		{"2 0 " + nine + " | 1 0 0", "1", "0", false},
		{"2 0 999" + tenTo(397)[1:] + " | 1 0 0 | 2 0 0", "1", "0", true},
		{"2 0 " + nine + " | 1 0 0 | 1 " + nine + " 0", "1", "0", false},
		// The time of a meeting that is done, and of one that is not.
		{"1 0 10 | 1 1/" + nine + " 0", "1", "1", false},
		{"1 0 10 | 1 1/" + nine + " 0", "1", "0", true},
		{"1 0 9 | 1 1/" + nine + " 0", "1", "1", false},
		{"1 0 1 | 1 1/" + nine + " 0", "1", "1", true},
		{"1 0 1/2 | 1 " + nine + " 0", "1", "0", true},
		{"1 0 1/2 | 1 " + nine + " 0", "1", nine, true},
		{"1 0 " + ninths + " | 1 " + nine + " 0", "1", "9", true},
		{"1 0 " + ninths + " | 1 " + nine + " 0", "1", "10", false},
		// A speed that is given on again: four thirds of nine, for a third of the time.
		{"2 0 " + nine + " | 1 0 0 | 2 " + times(rat(t, ninths), whole(4)).RatString() + " 0", "1", "1/3", true},
		{"2 0 " + nine + " | 1 0 0 | 2 " + times(rat(t, ninths), whole(4)).RatString() + " 0", "1", "1/4", false},
		// Masses as long as may be, alike ones and others.
		{nine + " 0 1 | " + nine + " 2 0", "1", "3", true},
		{"1/" + nine + " 0 1 | 1/" + nine + " 2 0", "0", "3", true},
		{nine + " 0 1 | " + tenTo(399) + " 2 0", "1", "2", false},
		{nine + " 0 1 | " + tenTo(399) + " 2 0", "1", "1", true},
	} {
		to, met, ok := impl.RunBeads(row(c.from), c.e, c.until)
		if ok != c.fine || !ok && (len(to) != 0 || len(met) != 0) {
			t.Errorf("RunBeads of %.200q, %s, %.40s: %.300q %.100s %v", row(c.from), c.e, c.until, to, toldMeets(met), ok)
		}
		checkRun(t, row(c.from), c.e, c.until)
	}
}

// All beads at one place, of long numbers: the speeds grow with every meeting, and it ends all the same.
func TestRunsOfTheLongestNumbers(t *testing.T) {
	r := rand.New(rand.NewSource(98))
	l := make([]impl.Bead, mostBodies)
	for i := range l {
		l[i] = impl.Bead{Mass: drawnLength(r, 400), At: "0", Speed: randomFrac(r, 400)}
	}
	if to, met, ok := impl.RunBeads(l, tenTo(399)+"/"+nines(400), nines(400)); len(to) != 0 || len(met) != 0 || ok {
		t.Error("numbers that are too long:", to, met)
	}
}
