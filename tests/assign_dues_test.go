package tests

import (
	"math/rand"
	"slices"
	"testing"

	"loop.example/g00047/impl"
)

func TestDues(t *testing.T) {
	for _, c := range []struct {
		prices string
		who    string
		dues   string
		good   bool
	}{
		{"4 1|2 3", "1 0", "0 0", true}, {"4 1|2 3", "0 1", "", false}, {"0", "0", "0", true}, {"100000", "0", "0", true},
		// The first one would rather have the task 0, so its own has to be cheaper by 1.
		{"1 2|1 9", "1 0", "0 -1", true}, {"1 2|1 9", "0 1", "", false},
		// Both would rather have the task 0; who has the other one is paid what it saves there.
		{"0 5|0 7", "1 0", "0 -5", true}, {"0 5|0 5", "1 0", "0 -5", true}, {"0 5|0 5", "0 1", "0 -5", true}, {"0 5|0 6", "0 1", "", false},
		// A chain: the due of each task hangs on that of the one ahead of it.
		{"0 9 9|0 3 9|9 0 4", "0 1 2", "0 -3 -7", true}, {"9 9 0|3 9 0|0 4 9", "2 0 1", "-3 -7 0", true},
		// The chain with who in another order, and prices as great as may be.
		{"100000 100000 100000 100000 100000 100000|0 100000 100000 100000 100000 100000|100000 0 100000 100000 100000 100000|100000 100000 0 100000 100000 100000|100000 100000 100000 0 100000 100000|100000 100000 100000 100000 0 100000", "0 1 2 3 4 5", "", false},
		{"0 100000 100000|0 100000 100000|0 0 100000", "0 1 2", "", false}, {"0 100000 100000|0 0 100000|0 0 100000", "0 1 2", "0 0 -100000", true},
		// Dues that are less, though only a third one asks for it.
		{"5 5 5|0 5 5|5 0 5", "0 1 2", "", false}, {"5 5 5|0 5 5|5 0 5", "2 0 1", "0 0 0", true},
		// Not good.
		{"4 1|2 3", "1 1", "", false}, {"4 1|2 3", "1", "", false}, {"4 1|2 3", "1 0 2", "", false}, {"4 1|2 3", "1 -1", "", false}, {"4 1|2 3", "1 2", "", false}, {"4 1|2 -3", "1 0", "", false}, {"4 1|2", "1 0", "", false},
	} {
		prices, who := pathsOf(c.prices), listOf(c.who)
		dues, ok := checkDues(t, prices, who)
		if !slices.Equal(dues, listOf(c.dues)) || ok != c.good {
			t.Errorf("DuesOf of %q, %q: %v %v, want %q %v", c.prices, c.who, dues, ok, c.dues, c.good)
		}
		if ok {
			checkShown(t, prices, who)
		}
	}
}

// ladder has prices in which each robot but the first would rather have the task ahead of its own, by saves.
func ladder(n int, saves int) [][]int {
	return squareFilled(n, func(robot int, task int) int {
		switch {
		case robot == task:
			return saves
		case robot == task+1:
			return 0
		}
		return mostAsked
	})
}

// Up to six robots, each due less than the one ahead of it; the robots in every order.
func TestDuesOfLadders(t *testing.T) {
	for n := 1; n <= mostRobots; n++ {
		for _, saves := range []int{0, 1, mostAsked / n} {
			want := []int{}
			for task := range n {
				want = append(want, -saves*task)
			}
			down := ladder(n, saves)
			for _, order := range everyWho[n] {
				// The robot i stands where the robot order[i] was.
				prices := [][]int{}
				for _, robot := range order {
					prices = append(prices, slices.Clone(down[robot]))
				}
				dues, ok := checkDues(t, prices, order)
				if !ok || !slices.Equal(dues, want) {
					t.Fatalf("DuesOf of %v, %v: %v %v, want %v", prices, order, dues, ok, want)
				}
			}
		}
	}
}

// The least due there may be: all ask nothing for one task, and as much as may be for the others.
func TestLeastDue(t *testing.T) {
	for n := 2; n <= mostRobots; n++ {
		for free := range n {
			prices := evenPrices(n, n, mostAsked)
			for robot := range n {
				prices[robot][free] = 0
			}
			want := slices.Repeat([]int{-mostAsked}, n)
			want[free] = 0
			for _, who := range [][]int{everyWho[n][0], everyWho[n][len(everyWho[n])-1], everyWho[n][len(everyWho[n])/2]} {
				if dues, ok := checkDues(t, prices, who); !ok || !slices.Equal(dues, want) {
					t.Errorf("DuesOf of %v, %v: %v %v", prices, who, dues, ok)
				}
				checkShown(t, prices, who)
			}
		}
	}
}

// All could go on by one task: it costs as much, or less by 1, or more by 1.
func TestDuesOfRings(t *testing.T) {
	for n := 2; n <= mostRobots; n++ {
		stays, goesOn := countUp(0, n), append(countUp(1, n-1), 0)
		for _, last := range []int{4, 5, 6} {
			ring := squareFilled(n, func(robot int, task int) int {
				if task == robot || task == (robot+1)%n {
					return 5
				}
				return 9
			})
			ring[n-1][0] = last
			for i, who := range [][]int{stays, goesOn} {
				if dues, ok := checkDues(t, ring, who); ok != (last == 5 || i == 0 == (last == 6)) {
					t.Errorf("DuesOf of %v, %v: %v %v", ring, who, dues, ok)
				} else if ok {
					checkShown(t, ring, who)
				}
			}
		}
	}
}

// Of every who of drawn prices: dues just where it costs least.
func TestDuesOfEveryWho(t *testing.T) {
	r := rand.New(rand.NewSource(474))
	several := 0
	for n := 1; n <= mostRobots; n++ {
		for range 40 {
			for _, prices := range [][][]int{drawnPrices(r, n), drawnTied(r, n)} {
				all, least := cheapestWhos(prices)
				for _, who := range everyWho[n] {
					if dues, ok := impl.DuesOf(prices, who); ok != (exactPrice(prices, who) == least) || !ok && len(dues) != 0 {
						t.Fatalf("DuesOf of %v, %v: %v %v", prices, who, dues, ok)
					}
				}
				// Those of drawn ones of all that cost least.
				for range min(len(all), 3) {
					who := all[r.Intn(len(all))]
					checkDues(t, prices, who)
					checkShown(t, prices, who)
				}
				if len(all) > 1 {
					several++
				}
			}
		}
	}
	if several < 100 {
		t.Error("several cost least only so often:", several)
	}
}

// Dues that will do for one who that costs least will do for each, so the greatest ones are the same.
func TestDuesOfSeveralWho(t *testing.T) {
	r := rand.New(rand.NewSource(475))
	for range 300 {
		prices := drawnTied(r, 2+r.Intn(mostRobots-1))
		all, _ := cheapestWhos(prices)
		dues, _ := checkDues(t, prices, all[0])
		for _, who := range all {
			if other, ok := impl.DuesOf(prices, who); !ok || !slices.Equal(other, dues) {
				t.Fatalf("DuesOf of %v: of %v %v, of %v %v %v", prices, all[0], dues, who, other, ok)
			}
		}
	}
}

func TestHandOver(t *testing.T) {
	for _, c := range []struct {
		prices string
		who    string
		gone   int
		tasks  string
		good   bool
	}{
		{"4 1|2 3", "1 0", 0, "|0 1", true}, {"4 1|2 3", "1 0", 1, "0 1|", true}, {"4 1|2 3", "0 1", 0, "|0 1", true}, {"4 1|2 3", "0 1", 1, "0 1|", true},
		// Each robot, and the one that asks least: not the one that is gone, though it asks nothing.
		{"9 9 3|9 9 2|9 9 0", "0 1 2", 2, "0|1 2|", true}, {"9 9 2|9 9 3|9 9 0", "0 1 2", 2, "0 2|1|", true}, {"0 9 9|2 9 9|1 9 9", "0 1 2", 0, "|1|0 2", true}, {"9 2 9|9 0 9|9 1 9", "0 1 2", 1, "0||1 2", true},
		// What counts is the price of that task alone.
		{"0 0 5|9 9 4|1 1 1", "0 1 2", 2, "0|1 2|", true}, {"5 0 0|4 9 9|1 1 1", "2 1 0", 2, "2|0 1|", true},
		// Several that ask the same: the first one.
		{"7 7 7|7 7 7|7 7 7", "0 1 2", 0, "|0 1|2", true}, {"7 7 7|7 7 7|7 7 7", "0 1 2", 1, "0 1||2", true}, {"7 7 7|7 7 7|7 7 7", "0 1 2", 2, "0 2|1|", true}, {"7 7 7|7 7 7|7 7 7", "2 1 0", 0, "|1 2|0", true}, {"7 7 7 8|7 7 7 6|7 7 7 6|7 7 7 0", "0 1 2 3", 3, "0|1 3|2|", true},
		// The tasks rise, whichever was its own.
		{"7 0|7 0", "1 0", 0, "|0 1", true}, {"7 0|7 0", "1 0", 1, "0 1|", true}, {"7 0|7 0", "0 1", 1, "0 1|", true},
		// who need not cost least, prices may be the least and the greatest.
		{"0 100000|100000 0", "1 0", 0, "|0 1", true}, {"100000 100000 100000|0 0 0|100000 100000 100000", "1 2 0", 1, "1 2||0", true},
		// Just one robot, and robots that there aren't.
		{"5", "0", 0, "", false}, {"5", "0", 1, "", false}, {"5", "0", -1, "", false}, {"4 1|2 3", "1 0", -1, "", false}, {"4 1|2 3", "1 0", 2, "", false}, {"4 1|2 3", "1 0", 3, "", false},
		// Not good.
		{"4 1|2 3", "1 1", 0, "", false}, {"4 1|2 3", "1", 0, "", false}, {"4 1|2 3", "1 0 2", 0, "", false}, {"4 1|2 3", "1 0 2", 2, "", false}, {"4 1|2 3", "-1 0", 0, "", false}, {"4 1|2 3", "2 0", 0, "", false}, {"4 1|2 -3", "1 0", 0, "", false}, {"4 1|2", "1 0", 0, "", false}, {"4 1|2 3", "", 0, "", false},
	} {
		want := pathsOf(c.tasks)
		if !c.good {
			want = nil
		}
		if got, ok := checkHandOver(t, pathsOf(c.prices), listOf(c.who), c.gone); !samePaths(got, want) || ok != c.good {
			t.Errorf("HandOver of %q, %q, %d: %v %v, want %q %v", c.prices, c.who, c.gone, got, ok, c.tasks, c.good)
		}
	}
}

// Each robot of drawn prices is gone, and some that there aren't.
func TestHandOverOfEachRobot(t *testing.T) {
	r := rand.New(rand.NewSource(476))
	for range 3000 {
		m := drawnMarket(r)
		n := len(m.who)
		for gone := -2; gone <= n+2; gone++ {
			tasks, ok := checkHandOver(t, m.prices, m.who, gone)
			if ok != (n > 1 && gone >= 0 && gone < n) {
				t.Fatalf("HandOver of %v, %v, %d: %v %v", m.prices, m.who, gone, tasks, ok)
			}
			if !ok {
				continue
			}
			// Each task once, the lists rise, and who is gone has none.
			all := slices.Concat(tasks...)
			slices.Sort(all)
			if !slices.Equal(all, countUp(0, n)) || len(tasks[gone]) != 0 || slices.ContainsFunc(tasks, func(l []int) bool { return !slices.IsSorted(l) }) {
				t.Fatalf("HandOver of %v, %v, %d: %v", m.prices, m.who, gone, tasks)
			}
		}
	}
}

// The greatest fleet: one asks least by 1, whoever it is.
func TestHandOverToWhoAsksLeast(t *testing.T) {
	for n := 2; n <= mostRobots; n++ {
		for gone := range n {
			for heir := range n {
				for _, asked := range []int{0, mostAsked - 1} {
					prices := evenPrices(n, n, asked+1)
					prices[heir] = slices.Repeat([]int{asked}, n)
					tasks, _ := checkHandOver(t, prices, countUp(0, n), gone)
					want := heir
					if heir == gone && gone > 0 {
						want = 0
					} else if heir == gone {
						want = 1
					}
					if len(tasks[want]) != 2 || !slices.Contains(tasks[want], gone) {
						t.Fatalf("HandOver of %v, %d: %v", prices, gone, tasks)
					}
				}
			}
		}
	}
}
