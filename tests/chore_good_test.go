package tests

import (
	"math/big"
	"math/rand"
	"slices"
	"strings"
	"testing"

	"loop.example/g00047/impl"
)

func TestGoodChores(t *testing.T) {
	for _, c := range []struct {
		chores string
		good   bool
	}{
		{"", false}, {"1/1/1", true}, {"60/1/1", true}, {"60/60/60", true}, {"60/1/60", true}, {"60/59/60", true},
		{strings.Repeat("4/1/3 ", 6), true}, {strings.Repeat("4/1/3 ", 7), false}, {strings.Repeat("60/60/60 ", 6), true}, {strings.Repeat("1/1/1 ", 7), false},
		// Period.
		{"0/1/1", false}, {"0/0/0", false}, {"61/1/1", false}, {"61/61/61", false},
		// Need.
		{"5/0/5", false}, {"5/0/0", false}, {"5/1/5", true}, {"5/5/5", true}, {"5/6/6", false}, {"5/6/5", false},
		// Due.
		{"5/3/2", false}, {"5/3/3", true}, {"5/3/4", true}, {"5/3/5", true}, {"5/3/6", false}, {"5/1/0", false}, {"60/1/61", false},
		// Wherever it stands.
		{"4/1/3 5/3/2", false}, {"5/3/2 4/1/3", false}, {"4/1/3 4/1/3 4/1/3 4/1/3 4/1/3 5/3/6", false},
	} {
		if got := checkChores(t, choresOf(c.chores)); got != c.good {
			t.Errorf("GoodChores of %q: %v", c.chores, got)
		}
	}
}

// All numbers a little beyond their limits, in each place of a list.
func TestAllChores(t *testing.T) {
	good := 0
	for period := -1; period <= longestPeriod+2; period++ {
		for need := -1; need <= longestPeriod+2; need++ {
			for due := -1; due <= longestPeriod+2; due++ {
				one := impl.Chore{Period: period, Need: need, Due: due}
				if checkChores(t, []impl.Chore{one}) {
					good++
				}
				place := (period + need + due + 3) % mostChores
				checkChores(t, slices.Insert(slices.Repeat([]impl.Chore{{Period: 9, Need: 2, Due: 5}}, mostChores-1), place, one))
			}
		}
	}
	// Of a Period n there are as many as pairs of numbers up to it, each pair once.
	if good != 60*61*62/6 {
		t.Error("good ones:", good)
	}
	for many := range 20 {
		l := slices.Repeat([]impl.Chore{{Period: 9, Need: 2, Due: 5}}, many)
		if got := checkChores(t, l); got != (many >= 1 && many <= 6) {
			t.Errorf("GoodChores of %d: %v", many, got)
		}
	}
}

func TestLoads(t *testing.T) {
	for _, c := range []struct{ chores, load string }{
		{"1/1/1", "1"}, {"60/1/1", "1/60"}, {"60/60/60", "1"}, {"60/45/50", "3/4"},
		{"4/1/4 6/2/6 12/4/12", "11/12"}, {"6/1/6 3/1/3", "1/2"},
		// Of 1 exactly.
		{"2/1/2 2/1/2", "1"}, {"2/1/2 3/1/3 6/1/6", "1"}, {"7/3/7 7/4/4", "1"}, {"6/1/6 6/1/6 6/1/6 6/1/6 6/1/6 6/1/6", "1"},
		// Just below, and just above.
		{"59/58/58 60/1/60", "3539/3540"}, {"60/59/59 59/1/59", "3541/3540"}, {"2/1/1 3/2/2", "7/6"},
		{"1/1/1 1/1/1", "2"}, {"1/1/1 1/1/1 1/1/1 1/1/1 1/1/1 1/1/1", "6"}, {"60/60/60 2/1/2", "3/2"},
		// The Due counts for nothing.
		{"5/2/2", "2/5"}, {"5/2/5", "2/5"},
		{"59/1/1 58/1/1 57/1/1 55/1/1 53/1/1 47/1/1", "2941193969/26723373270"},
		{"", ""}, {"5/3/2", ""}, {"2/1/1 0/1/1", ""},
	} {
		if got := checkLoad(t, choresOf(c.chores)); got != c.load {
			t.Errorf("LoadOf of %q: %q, want %q", c.chores, got, c.load)
		}
	}
}

// Sums below 1, of 1 and above it all come up, and each is a good fraction.
func TestDrawnLoads(t *testing.T) {
	r := rand.New(rand.NewSource(438))
	seen := map[int]int{}
	for range 20000 {
		l := drawnChores(r, 1+r.Intn(mostChores), []int{3, 12, longestPeriod}[r.Intn(3)])
		load := checkLoad(t, l)
		sum, _ := new(big.Rat).SetString(load)
		seen[sum.Cmp(big.NewRat(1, 1))]++
		if !impl.GoodFrac(load) {
			t.Fatalf("LoadOf of %v: %q", l, load)
		}
	}
	for _, l := range choreLists(3, 3) {
		checkLoad(t, l)
	}
	if seen[-1] < 100 || seen[0] < 100 || seen[1] < 100 {
		t.Error("below, at and above 1:", seen)
	}
}

// periods are chores of these Periods, each with a Need of 1.
func periods(l ...int) []impl.Chore {
	all := []impl.Chore{}
	for _, n := range l {
		all = append(all, impl.Chore{Period: n, Need: 1, Due: n})
	}
	return all
}

func TestCycles(t *testing.T) {
	for _, c := range []struct {
		periods string
		cycle   int
	}{
		{"1", 1}, {"60", 60}, {"59", 59},
		// Alike.
		{"7 7", 7}, {"1 1 1 1 1 1", 1}, {"60 60 60 60 60 60", 60},
		// Multiples of one another.
		{"4 8", 8}, {"8 4", 8}, {"2 4 8 16 32", 32}, {"32 16 8 4 2 1", 32}, {"60 30 15 5 1", 60},
		// Without a common divisor.
		{"7 8", 56}, {"7 8 9", 504}, {"2 3 5 7 11 13", 30030}, {"60 59", 3540}, {"59 60 53", 187620},
		// With some in common.
		{"4 6", 12}, {"6 4", 12}, {"4 6 9 10", 180}, {"60 48", 240}, {"60 54 56 50", 37800}, {"12 18 27 8 36 24", 216},
		// The longest ones, and those next to 10^6: there is none of just so many.
		{"27 13 7 37 11", 999999}, {"37 11 27 13 7 39", 999999}, {"25 37 23 47", 999925}, {"23 19 52 11 16", 999856},
		{"43 38 36 17 8", 0}, {"53 37 10 51", 0}, {"32 47 19 35", 0}, {"59 58 57 55 53 47", 0}, {"60 59 58 57 53 49", 0},
		// Beyond on the way, in any order.
		{"59 53 47 43 1 1", 0}, {"1 1 59 53 47 43", 0},
		{"", 0}, {"0", 0}, {"61", 0}, {"4 61", 0}, {"1 1 1 1 1 1 1", 0},
	} {
		got, ok := checkCycle(t, periods(listOf(c.periods)...))
		if got != c.cycle || ok != (c.cycle > 0) {
			t.Errorf("CycleOf of %q: %d %v, want %d", c.periods, got, ok, c.cycle)
		}
	}
}

// All pairs of Periods, and drawn lists: half of these within 10^6, half beyond.
func TestDrawnCycles(t *testing.T) {
	for a := 1; a <= longestPeriod; a++ {
		for b := 1; b <= longestPeriod; b++ {
			checkCycle(t, periods(a, b))
			checkCycle(t, periods(b, a, 48))
		}
	}
	r := rand.New(rand.NewSource(439))
	within, beyond := 0, 0
	for range 5000 {
		l := drawnChores(r, 1+r.Intn(mostChores), longestPeriod)
		cycle, ok := checkCycle(t, l)
		if !ok {
			beyond++
			continue
		}
		within++
		for _, c := range l {
			if cycle%c.Period != 0 {
				t.Fatalf("CycleOf of %v: %d", l, cycle)
			}
		}
	}
	if within < 500 || beyond < 500 {
		t.Error("within and beyond:", within, beyond)
	}
}
