package tests

import (
	"math/rand"
	"slices"
	"testing"

	"loop.example/g00047/impl"
)

// evenPrices has so many rows of so many numbers, all the same.
func evenPrices(rows int, long int, asked int) [][]int {
	all := [][]int{}
	for range rows {
		all = append(all, slices.Repeat([]int{asked}, long))
	}
	return all
}

func TestGoodPrices(t *testing.T) {
	for _, c := range []struct {
		prices string
		good   bool
	}{
		{"0", true}, {"100000", true}, {"4 1|2 3", true}, {"0 0|0 0", true}, {"100000 0|0 100000", true},
		// One number beyond its limits, wherever it stands.
		{"-1", false}, {"100001", false}, {"-1 1|2 3", false}, {"4 -1|2 3", false}, {"4 1|-1 3", false}, {"4 1|2 -1", false},
		{"100001 1|2 3", false}, {"4 100001|2 3", false}, {"4 1|100001 3", false}, {"4 1|2 100001", false},
		// Rows that are shorter or longer than there are rows.
		{"", false}, {"1 2", false}, {"1|2", false}, {"1 2|3", false}, {"1|2 3", false}, {"1 2|", false}, {"|1 2", false}, {"1 2 3|4 5", false}, {"1 2|3 4 5", false}, {"1 2 3|4 5 6", false}, {"1 2|3 4|5 6", false},
		{"1 2 3|4 5 6|7 8", false}, {"1 2 3|4 5 6|7 8 9 1", false}, {"1 2 3|4 5 6|7 8 9", true}, {"1 2 3|4 5|6 7 8 9", false}, {"|", false}, {"||", false},
	} {
		prices := pathsOf(c.prices)
		if got := checkPrices(t, prices); got != c.good {
			t.Errorf("GoodPrices of %v: %v", prices, got)
		}
		if _, _, ok := impl.BestAssign(prices); ok != c.good {
			t.Errorf("BestAssign of %v: %v", prices, ok)
		}
	}
}

// 0 to 8 rows, each of 0 to 8 numbers.
func TestSizesOfPrices(t *testing.T) {
	for rows := range 9 {
		for long := range 9 {
			for _, asked := range []int{0, 1, mostAsked} {
				prices := evenPrices(rows, long, asked)
				want := rows == long && rows >= 1 && rows <= 6
				if got := checkPrices(t, prices); got != want {
					t.Errorf("GoodPrices of %d rows of %d numbers: %v", rows, long, got)
				}
				who := countUp(0, rows)
				if _, ok := checkAssign(t, prices, who); ok != want {
					t.Errorf("AssignCost of %d rows of %d numbers: %v", rows, long, ok)
				}
				market{prices, who, 0}.check(t)
			}
		}
	}
}

// One row that is longer or shorter by a number, at each place; the numbers are as many as there should be where two are so.
func TestRowsOfOtherLengths(t *testing.T) {
	for n := 1; n <= mostRobots; n++ {
		for at := range n {
			short, long := evenPrices(n, n, 1), evenPrices(n, n, 1)
			short[at], long[at] = short[at][1:], append(long[at], 1)
			both := clonePaths(short)
			both[(at+1)%n] = append(both[(at+1)%n], 1)
			for _, prices := range [][][]int{short, long, both} {
				if got := checkPrices(t, prices); got != (n == 1 && len(prices[0]) == 1) {
					t.Errorf("GoodPrices of %v: %v", prices, got)
				}
				market{prices, countUp(0, n), 0}.check(t)
			}
		}
	}
}

// Each number at its limits and one beyond, at each place.
func TestLimitsOfPrices(t *testing.T) {
	for n := 1; n <= mostRobots; n++ {
		for robot := range n {
			for task := range n {
				for asked, good := range map[int]bool{-1: false, 0: true, 1: true, mostAsked - 1: true, mostAsked: true, mostAsked + 1: false} {
					prices := evenPrices(n, n, 7)
					prices[robot][task] = asked
					if got := checkPrices(t, prices); got != good {
						t.Errorf("GoodPrices of %v: %v", prices, got)
					}
					market{prices, countUp(0, n), n - 1}.check(t)
				}
			}
		}
	}
}

func TestAssignCost(t *testing.T) {
	for _, c := range []struct {
		prices string
		who    string
		cost   int
		good   bool
	}{
		{"4 1|2 3", "0 1", 7, true}, {"4 1|2 3", "1 0", 3, true}, {"0", "0", 0, true}, {"100000", "0", 100000, true}, {"5", "0", 5, true},
		{"1 2 3|40 50 60|700 800 900", "0 1 2", 951, true}, {"1 2 3|40 50 60|700 800 900", "2 0 1", 843, true}, {"1 2 3|40 50 60|700 800 900", "1 2 0", 762, true},
		// Of a wrong length.
		{"4 1|2 3", "", 0, false}, {"4 1|2 3", "0", 0, false}, {"4 1|2 3", "0 1 2", 0, false}, {"4 1|2 3", "0 1 0", 0, false}, {"0", "", 0, false}, {"0", "0 1", 0, false},
		// A task twice.
		{"4 1|2 3", "0 0", 0, false}, {"4 1|2 3", "1 1", 0, false}, {"1 2 3|40 50 60|700 800 900", "0 1 0", 0, false}, {"1 2 3|40 50 60|700 800 900", "2 2 1", 0, false}, {"1 2 3|40 50 60|700 800 900", "2 1 1", 0, false},
		// A task below 0, and one too great.
		{"4 1|2 3", "-1 0", 0, false}, {"4 1|2 3", "0 -1", 0, false}, {"4 1|2 3", "2 0", 0, false}, {"4 1|2 3", "0 2", 0, false}, {"4 1|2 3", "1 2", 0, false}, {"0", "1", 0, false}, {"0", "-1", 0, false}, {"4 1|2 3", "0 64", 0, false}, {"4 1|2 3", "0 65", 0, false},
		// Prices that are not good.
		{"4 1|2 -3", "0 1", 0, false}, {"4 1|2 -3", "1 0", 0, false}, {"4 1|2", "1 0", 0, false}, {"4 1", "0", 0, false}, {"4 1|2 100001", "1 0", 0, false},
	} {
		got, ok := checkAssign(t, pathsOf(c.prices), listOf(c.who))
		if got != c.cost || ok != c.good {
			t.Errorf("AssignCost of %q, %q: %d %v, want %d %v", c.prices, c.who, got, ok, c.cost, c.good)
		}
	}
	// The greatest of all.
	if got, ok := impl.AssignCost(evenPrices(6, 6, mostAsked), listOf("5 4 3 2 1 0")); got != 600000 || !ok {
		t.Error(got, ok)
	}
	if got, ok := impl.AssignCost(evenPrices(6, 6, 0), listOf("5 4 3 2 1 0")); got != 0 || !ok {
		t.Error(got, ok)
	}
}

// All lists of up to four numbers in -1..4 as who, of one up to four robots.
func TestAllShortWhos(t *testing.T) {
	prices := [][][]int{nil, {{3}}, {{3, 5}, {7, 11}}, {{3, 5, 7}, {11, 13, 17}, {19, 23, 29}}, {{3, 5, 7, 9}, {11, 13, 17, 19}, {23, 29, 31, 37}, {41, 43, 47, 53}}}
	good := 0
	for _, who := range listsUpTo(4, countUp(-1, 6)...) {
		for _, p := range prices {
			if _, ok := checkAssign(t, p, who); ok {
				good++
			}
			checkDues(t, p, who)
			for gone := -1; gone <= len(p); gone++ {
				checkHandOver(t, p, who, gone)
			}
		}
	}
	if good != 1+2+6+24 {
		t.Error("good ones:", good)
	}
}

// Every who of drawn prices, with one task that is another one, too.
func TestAssignCostOfEveryWho(t *testing.T) {
	r := rand.New(rand.NewSource(471))
	for n := 1; n <= mostRobots; n++ {
		for range 10 {
			prices := drawnPrices(r, n)
			for _, who := range everyWho[n] {
				if _, ok := checkAssign(t, prices, who); !ok {
					t.Fatalf("AssignCost of %v, %v", prices, who)
				}
				other := slices.Clone(who)
				at, task := r.Intn(n), drawnBetween(r, -1, n)
				other[at] = task
				if _, ok := checkAssign(t, prices, other); ok != (who[at] == task) {
					t.Fatalf("AssignCost of %v, %v: %v", prices, other, ok)
				}
			}
		}
	}
}
