package tests

import (
	"math"
	"slices"
	"testing"

	"loop.example/g00047/impl"
)

// fairMarket, fairDiary and fairCharge have all of their numbers as they may be; the tests of wrong ones begin with them.
func fairMarket() market {
	return market{pathsOf("4 1 7|2 3 5|6 2 4"), listOf("1 0 2"), 1}
}

func fairDiary() diary {
	return diary{booksOf("0/5/9/1 1/2/5/3 1/5/8/3 1/12/20/4 7/0/10000/9"), bookedOf("1/8/12/2"), 1, 3, 4, 3, 6}
}

func fairCharge() impl.Charge { return chargeOf("3 2 3 10") }

// checkNoWho: what is asked of prices and a who that do not fit has the zero answer.
func checkNoWho(t *testing.T, prices [][]int, who []int) {
	t.Helper()
	cost, ok := impl.AssignCost(prices, who)
	dues, shown := impl.DuesOf(prices, who)
	if cost != 0 || ok || len(dues) != 0 || shown {
		t.Fatalf("of %v, %v: %d %v, %v %v", prices, who, cost, ok, dues, shown)
	}
	for _, gone := range append([]int{-1, 0, 1, len(who) - 1, len(who), len(prices)}, farInts...) {
		checkNoHandOver(t, prices, who, gone)
	}
}

func checkNoHandOver(t *testing.T, prices [][]int, who []int, gone int) {
	t.Helper()
	if tasks, ok := impl.HandOver(prices, who, gone); len(tasks) != 0 || ok {
		t.Fatalf("HandOver of %v, %v, %d: %v %v", prices, who, gone, tasks, ok)
	}
}

// checkNoPrices: prices that are not good have the zero answer everywhere.
func checkNoPrices(t *testing.T, prices [][]int) {
	t.Helper()
	who, cost, ok := impl.BestAssign(prices)
	if impl.GoodPrices(prices) || len(who) != 0 || cost != 0 || ok {
		t.Fatalf("of %v: %v, %v %d %v", prices, impl.GoodPrices(prices), who, cost, ok)
	}
	for _, who := range [][]int{countUp(0, len(prices)), nil, {}, {0}, {1, 0}, {0, 1, 2}} {
		checkNoWho(t, prices, who)
	}
}

// Each way in which prices are not good, alone, at each place.
func TestPricesThatAreNone(t *testing.T) {
	for _, prices := range [][][]int{nil, {}, {nil}, {{}}, {nil, nil}, {{1, 2}, nil}, {nil, {1, 2}}, make([][]int, 6), make([][]int, 7), make([][]int, 1000)} {
		checkNoPrices(t, prices)
	}
	for _, size := range [][]int{{7, 7}, {8, 8}, {7, 6}, {6, 7}, {5, 6}, {6, 5}, {1, 2}, {2, 1}, {64, 64}, {300, 300}, {1, 1000}, {1000, 1}} {
		checkNoPrices(t, evenPrices(size[0], size[1], 1))
	}
	for n := 1; n <= mostRobots; n++ {
		for at := range n {
			for _, row := range [][]int{nil, {}, make([]int, n-1), make([]int, n+1), make([]int, 100)} {
				prices := evenPrices(n, n, 1)
				prices[at] = row
				checkNoPrices(t, prices)
			}
			for task := range n {
				for _, asked := range append([]int{-1, -2, -mostAsked, mostAsked + 1, mostAsked + 2, 1 << 32, -1 << 32}, farInts...) {
					prices := evenPrices(n, n, 1)
					prices[at][task] = asked
					checkNoPrices(t, prices)
				}
			}
		}
	}
}

// Each way in which a who is none, with good prices.
func TestWhosThatAreNone(t *testing.T) {
	for n := 1; n <= mostRobots; n++ {
		prices := evenPrices(n, n, 1)
		for _, who := range [][]int{nil, {}, countUp(0, n-1), countUp(0, n+1), countUp(1, n), countUp(-1, n), make([]int, n+1), make([]int, 1000), append(countUp(0, n), 0), append(countUp(0, n), n-1)} {
			checkNoWho(t, prices, who)
		}
		for at := range n {
			for _, task := range append([]int{-1, -2, n, n + 1, 63, 64, 65, 64 + at, 1 << 32, 1<<32 + at, -1 << 32, at - n, at + n}, farInts...) {
				who := countUp(0, n)
				who[at] = task
				checkNoWho(t, prices, who)
			}
			for other := range n {
				if other != at {
					who := countUp(0, n)
					who[at] = other
					checkNoWho(t, prices, who)
				}
			}
		}
	}
	// A robot that there is not, and just one robot.
	for n := 1; n <= mostRobots; n++ {
		for _, gone := range append([]int{-1, -2, -n, n, n + 1, 64, 1 << 32, -1 << 32}, farInts...) {
			checkNoHandOver(t, evenPrices(n, n, 1), countUp(0, n), gone)
		}
	}
	checkNoHandOver(t, evenPrices(1, 1, 0), []int{0}, 0)
}

// checkNoBooks: bookings that are not good have the zero answer everywhere.
func checkNoBooks(t *testing.T, l []impl.Booked) {
	t.Helper()
	if impl.GoodBooks(l) {
		t.Fatalf("GoodBooks of %v", l)
	}
	for _, one := range booksOf("0/0/1/0 5/50/60/5 9/9999/10000/9 -1/0/0/0") {
		if got, ok := impl.BookLane(l, one); len(got) != 0 || ok {
			t.Fatalf("BookLane of %v, %v: %v %v", l, one, got, ok)
		}
	}
	for lane := -1; lane <= manyLanes; lane++ {
		if at, ok := impl.FirstFree(l, lane, 7, 1); at != 0 || ok {
			t.Fatalf("FirstFree of %v, lane %d: %d %v", l, lane, at, ok)
		}
	}
	for _, n := range append([]int{-1, 0, 3, 9, 10}, farInts...) {
		for _, at := range append([]int{0, 5, 10000}, farInts...) {
			if got, ok := impl.FreeLane(l, n, at); len(got) != 0 || ok {
				t.Fatalf("FreeLane of %v, who %d at %d: %v %v", l, n, at, got, ok)
			}
		}
	}
}

// Each way in which bookings are not good, alone, at each place of a list.
func TestBooksThatAreNone(t *testing.T) {
	for _, many := range []int{mostBooked + 1, mostBooked + 2, 1000} {
		checkNoBooks(t, rowOfBooks(many, many, 0, 1, 0))
		checkNoBooks(t, make([]impl.Booked, many))
	}
	checkNoBooks(t, make([]impl.Booked, 1))
	checkNoBooks(t, make([]impl.Booked, 2))
	wrong := []func(*impl.Booked){
		func(b *impl.Booked) { b.To = b.From }, func(b *impl.Booked) { b.From = b.To }, func(b *impl.Booked) { b.From, b.To = b.To, b.From }, func(b *impl.Booked) { *b = impl.Booked{} },
	}
	for _, n := range append([]int{-1, -2, -10000, 10001, 10002, 1 << 32, 1<<32 + 1, -1 << 32}, farInts...) {
		wrong = append(wrong, func(b *impl.Booked) { b.Lane = n }, func(b *impl.Booked) { b.From = n }, func(b *impl.Booked) { b.To = n }, func(b *impl.Booked) { b.Who = n }, func(b *impl.Booked) { b.From, b.To = n, n }, func(b *impl.Booked) { *b = impl.Booked{Lane: n, From: n, To: n, Who: n} })
	}
	for _, n := range []int{10, 11, 100} {
		wrong = append(wrong, func(b *impl.Booked) { b.Lane = n }, func(b *impl.Booked) { b.Who = n })
	}
	wrong = append(wrong, func(b *impl.Booked) { b.From, b.To = math.MinInt, math.MaxInt }, func(b *impl.Booked) { b.From, b.To = math.MaxInt, math.MinInt })
	for _, many := range []int{1, 2, 5, mostBooked} {
		for _, at := range []int{0, many / 2, many - 1} {
			for _, spoilt := range wrong {
				l := rowOfBooks(many, 5, 100, 100, 100)
				spoilt(&l[at])
				checkNoBooks(t, l)
			}
		}
	}
	// Two that have a tick in common, that stand in the wrong order, or that are the same.
	for _, many := range []int{2, 5, mostBooked} {
		for at := 1; at < many; at++ {
			l := rowOfBooks(many, 5, 100, 100, 0)
			l[at-1], l[at] = l[at], l[at-1]
			checkNoBooks(t, l)
			l = rowOfBooks(many, 5, 100, 100, 0)
			l[at] = l[at-1]
			checkNoBooks(t, l)
			if l = rowOfBooks(many, 5, 100, 100, 0); l[at].Lane == l[at-1].Lane {
				l[at].From--
				checkNoBooks(t, l)
			}
		}
	}
}

// Each way in which what is asked of good bookings is not as said.
func TestAskedOfBooksThatIsNone(t *testing.T) {
	l := fairDiary().l
	if at, ok := impl.FirstFree(l, 1, 3, 4); at != 8 || !ok {
		t.Fatal(at, ok)
	}
	far := append([]int{-1, -2, 10001, 10002, 20000, 1 << 32, 1<<32 + 1, -1 << 32, 1 << 62}, farInts...)
	for _, n := range far {
		for _, c := range [][]int{{n, 3, 4}, {1, n, 4}, {1, 3, n}, {n, n, 4}, {n, 3, n}, {1, n, n}, {n, n, n}} {
			if at, ok := impl.FirstFree(l, c[0], c[1], c[2]); at != 0 || ok {
				t.Fatalf("FirstFree of %v: %d %v", c, at, ok)
			}
		}
		for _, b := range []impl.Booked{{Lane: n, From: 8, To: 12, Who: 2}, {Lane: 1, From: n, To: 12, Who: 2}, {Lane: 1, From: 8, To: n, Who: 2}, {Lane: 1, From: 8, To: 12, Who: n}, {Lane: n, From: n, To: n, Who: n}} {
			if got, ok := impl.BookLane(l, b); len(got) != 0 || ok {
				t.Fatalf("BookLane of %v: %v %v", b, got, ok)
			}
			if got, ok := impl.BookLane(nil, b); len(got) != 0 || ok {
				t.Fatalf("BookLane of nothing, %v: %v %v", b, got, ok)
			}
		}
	}
	for _, c := range [][]int{{10, 3, 4}, {1, 3, 0}, {11, 3, 4}} {
		if at, ok := impl.FirstFree(l, c[0], c[1], c[2]); at != 0 || ok {
			t.Fatalf("FirstFree of %v: %d %v", c, at, ok)
		}
	}
}

// Each way in which a robot that charges is not good, alone.
func TestChargesThatAreNone(t *testing.T) {
	wrong := []impl.Charge{{}, chargeOf("3 2 3 2"), chargeOf("11 2 3 10"), chargeOf("3 11 3 10"), chargeOf("3 2 11 10"), chargeOf("3 0 3 10"), chargeOf("3 2 0 10"), chargeOf("0 0 0 1"), chargeOf("0 1 0 1"), chargeOf("0 0 1 1"), chargeOf("2 1 1 1"), chargeOf("0 2 1 1"), chargeOf("0 1 2 1")}
	for _, n := range append([]int{-1, -2, 10001, 10002, 1 << 32, 1<<32 + 5, -1 << 32, 1 << 62}, farInts...) {
		wrong = append(wrong, impl.Charge{Level: n, Use: 2, Gain: 3, Full: 10}, impl.Charge{Level: 3, Use: n, Gain: 3, Full: 10}, impl.Charge{Level: 3, Use: 2, Gain: n, Full: 10}, impl.Charge{Level: 3, Use: 2, Gain: 3, Full: n}, impl.Charge{Level: n, Use: n, Gain: n, Full: n}, impl.Charge{Level: 3, Use: n, Gain: n, Full: n}, impl.Charge{Level: n, Use: 1, Gain: 1, Full: n})
	}
	for _, c := range wrong {
		for _, ticks := range append([]int{0, 1, 200, 201, -1}, farInts...) {
			if plan, ok := impl.ChargePlan(c, ticks); len(plan) != 0 || ok {
				t.Fatalf("ChargePlan of %+v, %d: %v %v", c, ticks, plan, ok)
			}
		}
	}
	for _, ticks := range append([]int{-1, -2, -200, 201, 202, 1000, 1 << 32, 1<<32 + 1, -1 << 32}, farInts...) {
		if plan, ok := impl.ChargePlan(fairCharge(), ticks); len(plan) != 0 || ok {
			t.Fatalf("ChargePlan for %d ticks: %v %v", ticks, plan, ok)
		}
	}
}

// Numbers far off, and near their limits, in each place.
func TestStrayNumbersInFleets(t *testing.T) {
	for _, n := range append([]int{-1, 0, 1, 2, 3, 5, 8, 9, 10, 11, 199, 200, 201, 9999, 10000, 10001, 99999, 100000, 100001}, strayNumbers...) {
		for _, put := range []func(*market){
			func(m *market) { m.prices[0][0] = n }, func(m *market) { m.prices[2][2] = n }, func(m *market) { m.prices[1][2] = n }, func(m *market) { m.prices[1] = []int{n, n, n} },
			func(m *market) { m.who[0] = n }, func(m *market) { m.who[2] = n }, func(m *market) { m.who = []int{n, n, n} }, func(m *market) { m.gone = n }, func(m *market) { m.who[1], m.gone = n, n },
			func(m *market) { m.prices, m.who, m.gone = [][]int{{n}}, []int{0}, 0 },
		} {
			m := fairMarket()
			put(&m)
			m.check(t)
		}
		for _, put := range []func(*diary){
			func(d *diary) { d.l[0].Lane = n }, func(d *diary) { d.l[4].Lane = n }, func(d *diary) { d.l[1].From = n }, func(d *diary) { d.l[2].To = n }, func(d *diary) { d.l[3].To = n }, func(d *diary) { d.l[2].Who = n },
			func(d *diary) { d.l[1] = impl.Booked{Lane: n, From: n, To: n, Who: n} }, func(d *diary) { d.l = []impl.Booked{{From: n, To: n + 1}} },
			func(d *diary) { d.b.Lane = n }, func(d *diary) { d.b.From = n }, func(d *diary) { d.b.To = n }, func(d *diary) { d.b.Who = n }, func(d *diary) { d.b.From, d.b.To = n, n+1 },
			func(d *diary) { d.lane = n }, func(d *diary) { d.from = n }, func(d *diary) { d.long = n }, func(d *diary) { d.from, d.long = n, n }, func(d *diary) { d.from, d.long = n, 10000-n },
			func(d *diary) { d.who = n }, func(d *diary) { d.at = n }, func(d *diary) { d.who, d.at = n, n },
		} {
			d := fairDiary()
			put(&d)
			d.check(t)
		}
		for _, put := range []func(*impl.Charge, *int){
			func(c *impl.Charge, _ *int) { c.Level = n }, func(c *impl.Charge, _ *int) { c.Use = n }, func(c *impl.Charge, _ *int) { c.Gain = n }, func(c *impl.Charge, _ *int) { c.Full = n },
			func(c *impl.Charge, _ *int) { c.Level, c.Full = n, n }, func(c *impl.Charge, _ *int) { *c = impl.Charge{Level: n, Use: n, Gain: n, Full: n} }, func(_ *impl.Charge, ticks *int) { *ticks = n },
		} {
			c, ticks := fairCharge(), 30
			put(&c, &ticks)
			checkCharge(t, c, ticks)
		}
	}
}

// Nil lists and empty ones are the same.
func TestEmptyListsInFleets(t *testing.T) {
	for _, none := range [][]int{nil, {}} {
		for _, prices := range [][][]int{nil, {}, {none}, {none, none}} {
			checkNoPrices(t, prices)
			checkNoWho(t, prices, none)
		}
		checkNoWho(t, fairMarket().prices, none)
		checkNoWho(t, [][]int{{0}}, none)
	}
	for _, l := range [][]impl.Booked{nil, {}} {
		if !impl.GoodBooks(l) {
			t.Error("GoodBooks of none is false")
		}
		if got, ok := impl.BookLane(l, bookedOf("1/2/5/3")); !ok || !slices.Equal(got, booksOf("1/2/5/3")) {
			t.Error(got, ok)
		}
		if at, ok := impl.FirstFree(l, 9, 17, 9983); at != 17 || !ok {
			t.Error(at, ok)
		}
		if got, ok := impl.FreeLane(l, 3, 0); len(got) != 0 || !ok {
			t.Error(got, ok)
		}
	}
	// Nothing to be done is an answer.
	if plan, ok := impl.ChargePlan(fairCharge(), 0); len(plan) != 0 || !ok {
		t.Error(plan, ok)
	}
}
