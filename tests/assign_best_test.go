package tests

import (
	"math/rand"
	"slices"
	"testing"

	"loop.example/g00047/impl"
)

func TestBestAssign(t *testing.T) {
	for _, c := range []struct {
		prices string
		who    string
		cost   int
	}{
		{"4 1|2 3", "1 0", 3}, {"1 4|3 2", "0 1", 3}, {"0", "0", 0}, {"100000", "0", 100000},
		// The first one does not have what is cheapest for it.
		{"1 2|1 9", "1 0", 3}, {"1 2 9|1 9 9|9 9 1", "1 0 2", 4},
		// Several cost the same: the least list.
		{"1 1|1 1", "0 1", 2}, {"1 2|3 4", "0 1", 5}, {"0 0 0|0 0 0|0 0 0", "0 1 2", 0}, {"5 1 1|1 5 1|1 1 5", "1 2 0", 3}, {"5 5 1|5 1 5|1 5 5", "2 1 0", 3}, {"9 0 0|0 9 9|0 9 9", "1 0 2", 9}, {"9 0 0|9 0 0|0 9 9", "1 2 0", 0},
		// All others cost more by 1.
		{"100000 99999|99999 100000", "1 0", 199998}, {"0 1|1 1", "0 1", 1}, {"1 0|1 1", "1 0", 1}, {"1 1|0 1", "1 0", 1}, {"1 1|1 0", "0 1", 1},
		{"7 5 9 8|9 4 3 7|3 8 1 8|8 7 6 4", "1 2 0 3", 15},
	} {
		who, cost := checkBestAssign(t, pathsOf(c.prices))
		if !slices.Equal(who, listOf(c.who)) || cost != c.cost {
			t.Errorf("BestAssign of %q: %v %d, want %q %d", c.prices, who, cost, c.who, c.cost)
		}
	}
}

// All prices alike: all cost the same, and the least list is that in which each robot has the task of its number.
func TestBestAssignOfPricesAlike(t *testing.T) {
	for n := 1; n <= mostRobots; n++ {
		for _, asked := range []int{0, 1, 7, mostAsked - 1, mostAsked} {
			prices := evenPrices(n, n, asked)
			who, cost := checkBestAssign(t, prices)
			if !slices.Equal(who, countUp(0, n)) || cost != n*asked {
				t.Errorf("BestAssign of %v: %v %d", prices, who, cost)
			}
			for _, other := range everyWho[n] {
				if dues, ok := impl.DuesOf(prices, other); !ok || slices.Min(dues) != 0 || slices.Max(dues) != 0 {
					t.Errorf("DuesOf of %v, %v: %v %v", prices, other, dues, ok)
				}
			}
		}
	}
}

// One who costs nothing, all else as much as may be: it is found, whichever it is.
func TestBestAssignFindsEveryWho(t *testing.T) {
	for n := 1; n <= mostRobots; n++ {
		for _, want := range everyWho[n] {
			for _, far := range []int{1, mostAsked} {
				prices := evenPrices(n, n, far)
				for robot, task := range want {
					prices[robot][task] = 0
				}
				if who, cost := checkBestAssign(t, prices); !slices.Equal(who, want) || cost != 0 {
					t.Fatalf("BestAssign of %v: %v %d", prices, who, cost)
				}
				checkDues(t, prices, want)
				checkShown(t, prices, want)
			}
		}
	}
}

// All small prices against all who there are, and the dues of each who.
func TestAllSmallPrices(t *testing.T) {
	many := 0
	for _, small := range []struct {
		n       int
		numbers []int
	}{{1, []int{0, 1, 5, mostAsked}}, {2, []int{0, 1, 2, 3, 4}}, {2, []int{0, 7, mostAsked}}, {3, []int{0, 1, 3}}, {3, []int{0, mostAsked}}} {
		eachPrices(small.n, small.numbers, func(prices [][]int) {
			many++
			checkBestAssign(t, prices)
			for _, who := range everyWho[small.n] {
				if _, ok := checkDues(t, prices, who); ok {
					checkShown(t, prices, who)
				}
				for gone := range small.n {
					checkHandOver(t, prices, who, gone)
				}
			}
		})
	}
	if many != 4+625+81+19683+512 {
		t.Error("prices:", many)
	}
}

// All prices of four robots that ask 0 or 1.
func TestAllSmallPricesOfFour(t *testing.T) {
	tied := 0
	eachPrices(4, []int{0, 1}, func(prices [][]int) {
		checkBestAssign(t, prices)
		all, _ := cheapestWhos(prices)
		if len(all) > 1 {
			tied++
		}
		checkDues(t, prices, all[0])
		checkShown(t, prices, all[len(all)-1])
	})
	if tied < 10000 {
		t.Error("several cost least only so often:", tied)
	}
}

func TestBestAssignOfDrawnPrices(t *testing.T) {
	r := rand.New(rand.NewSource(472))
	tied := 0
	for n := 1; n <= mostRobots; n++ {
		for range 400 {
			for _, prices := range [][][]int{drawnPrices(r, n), drawnTied(r, n)} {
				checkBestAssign(t, prices)
				if all, _ := cheapestWhos(prices); len(all) > 1 {
					tied++
				}
			}
		}
	}
	if tied < 1000 {
		t.Error("several cost least only so often:", tied)
	}
}

// What all robots ask more for a task, or a robot for all tasks, changes who does what for nobody.
func TestBestAssignOfMovedPrices(t *testing.T) {
	r := rand.New(rand.NewSource(473))
	for range 500 {
		n := 1 + r.Intn(mostRobots)
		prices := squareFilled(n, func(int, int) int { return r.Intn(20) })
		robots, tasks := drawnUpTo(r, n, 1000), drawnUpTo(r, n, 1000)
		moved, more := squareFilled(n, func(robot int, task int) int { return prices[robot][task] + robots[robot] + tasks[task] }), 0
		for i := range n {
			more += robots[i] + tasks[i]
		}
		who, cost := checkBestAssign(t, prices)
		other, dear := checkBestAssign(t, moved)
		if !slices.Equal(who, other) || dear != cost+more {
			t.Fatalf("BestAssign of %v: %v %d, but of %v: %v %d", prices, who, cost, moved, other, dear)
		}
		// Dues are not above 0, so they don't move along with the tasks; they do with the robots.
		asking := squareFilled(n, func(robot int, task int) int { return prices[robot][task] + robots[robot] })
		dues, _ := checkDues(t, prices, who)
		if same, ok := checkDues(t, asking, who); !ok || !slices.Equal(dues, same) {
			t.Fatalf("DuesOf of %v: %v, but of %v: %v %v", prices, dues, asking, same, ok)
		}
	}
}
