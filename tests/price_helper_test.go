package tests

import (
	"math/rand"
	"slices"
	"testing"

	"loop.example/g00047/impl"
)

const (
	mostRobots = 6
	mostAsked  = 100000
)

// everyWho are, by the number of robots, all ways to share out the tasks, the least list first.
var everyWho = func() [][][]int {
	all := [][][]int{}
	for n := range mostRobots + 1 {
		all = append(all, sharings(n))
	}
	return all
}()

func sharings(n int) [][]int {
	all := [][]int{{}}
	for range n {
		longer := [][]int{}
		for _, who := range all {
			for task := range n {
				if !slices.Contains(who, task) {
					longer = append(longer, append(slices.Clone(who), task))
				}
			}
		}
		all = longer
	}
	return all
}

// arePrices says by the test's own word whether the prices are good.
func arePrices(prices [][]int) bool {
	for _, row := range prices {
		if len(row) != len(prices) || slices.ContainsFunc(row, func(n int) bool { return !isAmong(n, mostAsked+1) }) {
			return false
		}
	}
	return isAmong(len(prices)-1, mostRobots)
}

// isWho says whether who is one of all ways to share out the tasks.
func isWho(prices [][]int, who []int) bool {
	return arePrices(prices) && slices.ContainsFunc(everyWho[len(prices)], func(w []int) bool { return slices.Equal(w, who) })
}

// checkPrices asks GoodPrices of anything.
func checkPrices(t *testing.T, prices [][]int) bool {
	t.Helper()
	got := impl.GoodPrices(prices)
	if got != arePrices(prices) {
		t.Fatalf("GoodPrices of %v: %v", prices, got)
	}
	return got
}

func exactPrice(prices [][]int, who []int) int {
	sum := 0
	for robot, task := range who {
		sum += prices[robot][task]
	}
	return sum
}

// checkAssign asks AssignCost of anything.
func checkAssign(t *testing.T, prices [][]int, who []int) (int, bool) {
	t.Helper()
	want, good := 0, isWho(prices, who)
	if good {
		want = exactPrice(prices, who)
	}
	got, ok := impl.AssignCost(prices, who)
	if got != want || ok != good {
		t.Fatalf("AssignCost of %v, %v: %d %v, want %d %v", prices, who, got, ok, want, good)
	}
	return got, ok
}

// cheapestWhos are all that cost least, the least list first, and what they cost.
func cheapestWhos(prices [][]int) ([][]int, int) {
	all, least := [][]int{}, 0
	for _, who := range everyWho[len(prices)] {
		cost := exactPrice(prices, who)
		if len(all) == 0 || cost < least {
			all, least = nil, cost
		}
		if cost == least {
			all = append(all, who)
		}
	}
	return all, least
}

// checkBestAssign asks BestAssign of anything.
func checkBestAssign(t *testing.T, prices [][]int) ([]int, int) {
	t.Helper()
	who, cost, ok := impl.BestAssign(prices)
	if !arePrices(prices) {
		if len(who) != 0 || cost != 0 || ok {
			t.Fatalf("BestAssign of %v: %v %d %v", prices, who, cost, ok)
		}
		return who, cost
	}
	all, least := cheapestWhos(prices)
	if !slices.Equal(who, all[0]) || cost != least || !ok {
		t.Fatalf("BestAssign of %v: %v %d %v, want %v %d", prices, who, cost, ok, all[0], least)
	}
	if told, ok := impl.AssignCost(prices, who); told != cost || !ok {
		t.Fatalf("BestAssign of %v: %v for %d, but AssignCost says %d %v", prices, who, cost, told, ok)
	}
	return who, cost
}

// leastChain goes along all chains of tasks that are not used yet: who has a task looks at the next one, and what it would save there counts.
func leastChain(prices [][]int, who []int, task int, used []int) int {
	robot, least := slices.Index(who, task), 0
	for next := range prices {
		if !slices.Contains(used, next) {
			least = min(least, prices[robot][next]-prices[robot][task]+leastChain(prices, who, next, append(slices.Clone(used), next)))
		}
	}
	return least
}

// exactDues has false where who costs more than another one does.
func exactDues(prices [][]int, who []int) ([]int, bool) {
	if !isWho(prices, who) {
		return nil, false
	}
	if _, least := cheapestWhos(prices); exactPrice(prices, who) != least {
		return nil, false
	}
	dues := []int{}
	for task := range prices {
		dues = append(dues, leastChain(prices, who, task, []int{task}))
	}
	return dues, true
}

// checkDues asks DuesOf of anything.
func checkDues(t *testing.T, prices [][]int, who []int) ([]int, bool) {
	t.Helper()
	got, ok := impl.DuesOf(prices, who)
	if want, good := exactDues(prices, who); !slices.Equal(got, want) || ok != good {
		t.Fatalf("DuesOf of %v, %v: %v %v, want %v %v", prices, who, got, ok, want, good)
	}
	return got, ok
}

// envies says whether a robot would rather have another task than its own.
func envies(prices [][]int, who []int, dues []int) bool {
	for robot, own := range who {
		for task := range prices {
			if prices[robot][own]+dues[own] > prices[robot][task]+dues[task] {
				return true
			}
		}
	}
	return false
}

// areDues: none is above 0, and nobody would rather have another task.
func areDues(prices [][]int, who []int, dues []int) bool {
	return len(dues) == len(prices) && slices.Max(dues) <= 0 && !envies(prices, who, dues)
}

// areGreatest: no set of dues could be greater by 1. Where a greater list would do, so would these dues with 1 more wherever it is greater, so there is nothing else to try.
func areGreatest(prices [][]int, who []int, dues []int) bool {
	for set := 1; set < 1<<len(dues); set++ {
		more := slices.Clone(dues)
		for task := range more {
			more[task] += set >> task & 1
		}
		if areDues(prices, who, more) {
			return false
		}
	}
	return true
}

// leastByDues is what all pay at least with these dues, each the task that is cheapest for it, less the dues themselves: whoever does what, it costs no less.
func leastByDues(prices [][]int, dues []int) int {
	sum := 0
	for _, due := range dues {
		sum -= due
	}
	for _, row := range prices {
		paid := []int{}
		for task, asked := range row {
			paid = append(paid, asked+dues[task])
		}
		sum += slices.Min(paid)
	}
	return sum
}

// checkShown: the dues of who are as the words say, by the words alone, and show that it costs least.
func checkShown(t *testing.T, prices [][]int, who []int) {
	t.Helper()
	dues, ok := impl.DuesOf(prices, who)
	if !ok || !areDues(prices, who, dues) || !areGreatest(prices, who, dues) {
		t.Fatalf("DuesOf of %v, %v: %v %v", prices, who, dues, ok)
	}
	if least := leastByDues(prices, dues); least != exactPrice(prices, who) {
		t.Fatalf("DuesOf of %v, %v: %v show %d, but it costs %d", prices, who, dues, least, exactPrice(prices, who))
	}
}

// heirOf is the first of the others that asks the least that any of them asks.
func heirOf(prices [][]int, task int, gone int) int {
	asked := []int{}
	for robot, row := range prices {
		if robot != gone {
			asked = append(asked, row[task])
		}
	}
	for robot, row := range prices {
		if robot != gone && row[task] == slices.Min(asked) {
			return robot
		}
	}
	return -1
}

// exactHandOver deals out the tasks one by one, from the first on.
func exactHandOver(prices [][]int, who []int, gone int) ([][]int, bool) {
	if !isWho(prices, who) || !isAmong(gone, len(who)) || len(who) == 1 {
		return nil, false
	}
	tasks := make([][]int, len(who))
	for task := range prices {
		robot := slices.Index(who, task)
		if robot == gone {
			robot = heirOf(prices, task, gone)
		}
		tasks[robot] = append(tasks[robot], task)
	}
	return tasks, true
}

// checkHandOver asks HandOver of anything.
func checkHandOver(t *testing.T, prices [][]int, who []int, gone int) ([][]int, bool) {
	t.Helper()
	got, ok := impl.HandOver(prices, who, gone)
	if want, good := exactHandOver(prices, who, gone); !samePaths(got, want) || ok != good {
		t.Fatalf("HandOver of %v, %v, %d: %v %v, want %v %v", prices, who, gone, got, ok, want, good)
	}
	return got, ok
}

// market is what all functions that know prices are asked of at once.
type market struct {
	prices [][]int
	who    []int
	gone   int
}

func (m market) clone() market {
	return market{clonePaths(m.prices), slices.Clone(m.who), m.gone}
}

func (m market) same(o market) bool {
	return samePaths(m.prices, o.prices) && slices.Equal(m.who, o.who) && m.gone == o.gone
}

func (m market) check(t *testing.T) {
	t.Helper()
	checkPrices(t, m.prices)
	checkAssign(t, m.prices, m.who)
	checkBestAssign(t, m.prices)
	checkDues(t, m.prices, m.who)
	checkHandOver(t, m.prices, m.who, m.gone)
}

// squareFilled has so many rows, each of as many numbers, as a function has them.
func squareFilled(n int, at func(robot int, task int) int) [][]int {
	rows := [][]int{}
	for robot := range n {
		row := []int{}
		for task := range n {
			row = append(row, at(robot, task))
		}
		rows = append(rows, row)
	}
	return rows
}

// eachPrices hands on all prices of n robots, each one of the numbers.
func eachPrices(n int, numbers []int, see func([][]int)) {
	picks := make([]int, n*n)
	for {
		see(squareFilled(n, func(robot int, task int) int { return numbers[picks[robot*n+task]] }))
		at := 0
		for at < len(picks) && picks[at] == len(numbers)-1 {
			picks[at] = 0
			at++
		}
		if at == len(picks) {
			return
		}
		picks[at]++
	}
}

// drawnPrices has small numbers, of which many are alike, as often as great ones.
func drawnPrices(r *rand.Rand, n int) [][]int {
	most := []int{0, 1, 2, 4, 10, 1000, mostAsked}[r.Intn(7)]
	above := r.Intn(mostAsked - most + 1)
	return squareFilled(n, func(int, int) int { return above + r.Intn(most+1) })
}

// drawnTied costs the same for many: each price is one of the robot and one of the task, and now and then a little more.
func drawnTied(r *rand.Rand, n int) [][]int {
	robots, tasks := drawnUpTo(r, n, 20), drawnUpTo(r, n, 20)
	return squareFilled(n, func(robot int, task int) int { return robots[robot] + tasks[task] + r.Intn(4)/3*r.Intn(5) })
}

func drawnUpTo(r *rand.Rand, many int, most int) []int {
	l := []int{}
	for range many {
		l = append(l, r.Intn(most+1))
	}
	return l
}

func drawnMarket(r *rand.Rand) market {
	n := 1 + r.Intn(mostRobots)
	prices := drawnPrices(r, n)
	if r.Intn(2) == 0 {
		prices = drawnTied(r, n)
	}
	who := slices.Clone(everyWho[n][r.Intn(len(everyWho[n]))])
	if r.Intn(2) == 0 {
		all, _ := cheapestWhos(prices)
		who = slices.Clone(all[r.Intn(len(all))])
	}
	return market{prices, who, r.Intn(n)}
}
