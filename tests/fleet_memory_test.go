package tests

import (
	"math"
	"math/rand"
	"slices"
	"sync"
	"testing"
	"time"

	"loop.example/g00047/impl"
)

func sameBooked(a impl.Booked, b impl.Booked) bool { return a == b }

// What lies behind prices and who counts for nothing and stays, as the lists do.
func TestWhatLiesBehindPrices(t *testing.T) {
	r := rand.New(rand.NewSource(501))
	for range 400 {
		m := drawnMarket(r)
		for _, more := range [][]int{{0}, {-1, math.MaxInt}, {0, 1, 2, 3, 4, 5}, {mostAsked + 1}} {
			in, rows := market{who: behind(m.who, more...), gone: m.gone}, [][]int{}
			for _, row := range m.prices {
				rows = append(rows, behind(row, more...))
			}
			in.prices = behind(rows, more, nil)
			in.check(t)
			ok := kept(in.who, m.who, sameNumber, more...) && kept(in.prices, m.prices, slices.Equal, more, nil)
			for i, row := range m.prices {
				ok = ok && kept(in.prices[i], row, sameNumber, more...)
			}
			if !ok {
				t.Fatalf("a list was changed: %v, before %v", in, m)
			}
		}
	}
	// The row, the number and the task that would make it otherwise lie behind.
	if impl.GoodPrices(behind([][]int{{1, 2}}, []int{3, 4})) || impl.GoodPrices([][]int{behind([]int{1}, 2), {3, 4}}) || impl.GoodPrices([][]int{{1, 2}, behind([]int{3}, 4)}) || impl.GoodPrices(behind([][]int{}, []int{1})) || impl.GoodPrices([][]int{behind([]int{}, 1)}) {
		t.Error("GoodPrices reads behind a list")
	}
	if !impl.GoodPrices(behind([][]int{behind([]int{1}, -1)}, []int{1, 2})) || !impl.GoodPrices(behind(evenPrices(6, 6, 1), nil, []int{1})) {
		t.Error("GoodPrices reads behind a list that is good")
	}
	checkNoWho(t, evenPrices(2, 2, 1), behind([]int{0}, 1))
	checkNoWho(t, evenPrices(1, 1, 1), behind([]int{}, 0))
	if cost, ok := checkAssign(t, evenPrices(2, 2, 1), behind([]int{0, 1}, 0)); cost != 2 || !ok {
		t.Error(cost, ok)
	}
}

func TestWhatLiesBehindBooks(t *testing.T) {
	r := rand.New(rand.NewSource(502))
	for range 1000 {
		d := drawnDiary(r)
		for _, more := range [][]impl.Booked{{{}}, {{Lane: 9, From: 9999, To: 10000, Who: 9}}, {{Lane: -1, From: math.MinInt, To: math.MaxInt, Who: 99}, {}}, {d.b, d.b, d.b}} {
			in := d
			in.l = behind(d.l, more...)
			in.check(t)
			if !kept(in.l, d.l, sameBooked, more...) {
				t.Fatalf("a list was changed: %v, before %v", in, d)
			}
		}
	}
	// What would make it otherwise lies behind.
	full := rowOfBooks(mostBooked+1, 5, 100, 100, 0)
	if !impl.GoodBooks(full[:mostBooked]) || impl.GoodBooks(full) {
		t.Error("GoodBooks reads behind its list")
	}
	taken := behind(booksOf("1/2/5/3"), bookedOf("1/5/8/3"))
	if at, ok := impl.FirstFree(taken, 1, 2, 1); at != 5 || !ok {
		t.Error("FirstFree reads behind its list:", at, ok)
	}
	if got, ok := impl.BookLane(taken, bookedOf("1/6/7/0")); !ok || !slices.Equal(got, booksOf("1/2/5/3 1/6/7/0")) {
		t.Error("BookLane reads behind its list:", got, ok)
	}
	if got, ok := impl.FreeLane(taken, 4, 0); !ok || !slices.Equal(got, booksOf("1/2/5/3")) {
		t.Error("FreeLane reads behind its list:", got, ok)
	}
	if !kept(taken, booksOf("1/2/5/3"), sameBooked, bookedOf("1/5/8/3")) {
		t.Error("what lies behind was changed:", taken[:2])
	}
}

// Whoever writes into an answer changes nothing else: no other list of it, no later answer, no argument.
func TestFleetAnswersAreNewMemory(t *testing.T) {
	r := rand.New(rand.NewSource(503))
	for range 1000 {
		m, d, c := drawnMarket(r), drawnDiary(r), drawnCharge(r)
		market, diary := m.clone(), d.clone()
		for range 2 {
			who, _ := checkBestAssign(t, m.prices)
			spoil(who, -7)
			dues, _ := checkDues(t, m.prices, m.who)
			spoil(dues, -7)
			tasks, _ := checkHandOver(t, m.prices, m.who, m.gone)
			spoilPaths(t, tasks)
			booked, _ := checkBook(t, d.l, d.b)
			spoil(booked, impl.Booked{Lane: -7, From: -7, To: -7, Who: -7})
			left, _ := checkFreed(t, d.l, d.who, d.at)
			spoil(left, impl.Booked{Lane: -7, From: -7, To: -7, Who: -7})
			plan, _ := checkCharge(t, c, 20)
			spoil(plan, true)
			plan, _ = checkCharge(t, c, 20)
			spoil(plan, false)
		}
		if !m.same(market) || !d.same(diary) {
			t.Fatalf("an argument was changed: %v %v, before %v %v", m, d, market, diary)
		}
	}
}

// Where nothing changes the answer is new memory all the same.
func TestBooksThatStayAreNewMemory(t *testing.T) {
	for _, l := range [][]impl.Booked{booksOf("1/2/5/3"), rowOfBooks(mostBooked, 5, 0, 100, 0)} {
		before := slices.Clone(l)
		got, ok := impl.FreeLane(l, -1, 0)
		if !ok || !slices.Equal(got, before) {
			t.Fatal(got, ok)
		}
		spoil(got, impl.Booked{Who: -7})
		if !slices.Equal(l, before) {
			t.Error("FreeLane hands out its argument:", l)
		}
	}
}

// Rows that are one list, a who that is a row, and answers of other calls, are told like any others.
func TestFleetArgumentsThatShareMemory(t *testing.T) {
	row := []int{3, 1, 2, 0, 5, 4}
	before := slices.Clone(row)
	for n := 1; n <= mostRobots; n++ {
		prices := slices.Repeat([][]int{row[:n]}, n)
		market{prices, row[:n], n / 2}.check(t)
		who, _ := checkBestAssign(t, prices)
		dues, _ := checkDues(t, prices, who)
		checkDues(t, append(slices.Repeat([][]int{who}, n-1), row[:n]), who)
		checkHandOver(t, prices, dues, 0)
		spoil(who, 0)
		spoil(dues, 0)
	}
	all := make([]int, mostRobots*mostRobots)
	for i := range all {
		all[i] = i * i % 17
	}
	held := slices.Clone(all)
	market{slices.Collect(slices.Chunk(all, mostRobots)), row, 3}.check(t)
	l := rowOfBooks(mostBooked, 5, 100, 100, 50)
	books := slices.Clone(l)
	for from := range l {
		d := fairDiary()
		d.l, d.b = l[from:min(from+7, mostBooked)], l[from]
		d.check(t)
		got, _ := checkBook(t, l[:from], l[from])
		checkBook(t, got, l[from])
		left, _ := checkFreed(t, got, l[from].Who, 150)
		checkFreed(t, left, l[from].Who, 120)
		spoil(left, impl.Booked{})
		spoil(got, impl.Booked{})
	}
	if !slices.Equal(row, before) || !slices.Equal(all, held) || !slices.Equal(l, books) {
		t.Errorf("a list was changed: %v %v %v", row, all, l)
	}
}

// fleetTold is all that is told of a market, a diary and a charge.
type fleetTold struct {
	good       []bool
	numbers    []int
	who, dues  []int
	tasks      [][]int
	booked, at []impl.Booked
	plan       []bool
}

func fleetToldOf(m market, d diary, c impl.Charge, ticks int) fleetTold {
	f := fleetTold{good: make([]bool, 9), numbers: make([]int, 3)}
	f.good[0], f.good[1] = impl.GoodPrices(m.prices), impl.GoodBooks(d.l)
	f.numbers[0], f.good[2] = impl.AssignCost(m.prices, m.who)
	f.who, f.numbers[1], f.good[3] = impl.BestAssign(m.prices)
	f.dues, f.good[4] = impl.DuesOf(m.prices, m.who)
	f.tasks, f.good[5] = impl.HandOver(m.prices, m.who, m.gone)
	f.booked, f.good[6] = impl.BookLane(d.l, d.b)
	f.numbers[2], f.good[7] = impl.FirstFree(d.l, d.lane, d.from, d.long)
	f.at, f.good[8] = impl.FreeLane(d.l, d.who, d.at)
	f.plan, _ = impl.ChargePlan(c, ticks)
	return f
}

func (f fleetTold) same(o fleetTold) bool {
	return slices.Equal(f.good, o.good) && slices.Equal(f.numbers, o.numbers) && slices.Equal(f.who, o.who) && slices.Equal(f.dues, o.dues) && samePaths(f.tasks, o.tasks) && slices.Equal(f.booked, o.booked) && slices.Equal(f.at, o.at) && slices.Equal(f.plan, o.plan)
}

// The same call has the same answer every time, many at once too, all of them with the same lists.
func TestFleetsAreTheSameEveryTime(t *testing.T) {
	r := rand.New(rand.NewSource(504))
	markets, diaries, charges := []market{fairMarket(), {}, {prices: evenPrices(7, 7, 1)}}, []diary{fairDiary(), {}, {l: booksOf("1/5/5/3")}}, []impl.Charge{fairCharge(), {}, chargeOf("1 1 1 0")}
	for range 30 {
		markets, diaries, charges = append(markets, drawnMarket(r)), append(diaries, drawnDiary(r)), append(charges, drawnCharge(r))
	}
	told := []fleetTold{}
	for i, m := range markets {
		m.check(t)
		diaries[i].check(t)
		checkCharge(t, charges[i], 6*i)
		told = append(told, fleetToldOf(m, diaries[i], charges[i], 6*i))
	}
	var all sync.WaitGroup
	for range 8 {
		all.Go(func() {
			for range 10 {
				for i, m := range markets {
					if got := fleetToldOf(m, diaries[i], charges[i], 6*i); !got.same(told[i]) {
						t.Errorf("another answer of %v, %v, %v: %v, was %v", m, diaries[i], charges[i], got, told[i])
					}
				}
			}
		})
	}
	all.Wait()
}

// No call takes long, with wrong arguments neither; a minute is far more than all of them need.
func TestFleetsAnswerInTime(t *testing.T) {
	answered := make(chan int)
	go func() {
		defer close(answered)
		for _, n := range append([]int{0, 1, 200, 10000}, strayNumbers...) {
			for _, asked := range []int{0, mostAsked, n} {
				fleetToldOf(market{evenPrices(6, 6, asked), listOf("5 4 3 2 1 0"), n}, diary{rowOfBooks(mostBooked, 40, 0, 250, 0), bookedOf("0/9999/10000/0"), n, n, n, n, n}, impl.Charge{Level: n, Use: 1, Gain: 1, Full: 10000}, n)
				fleetToldOf(market{evenPrices(6, 6, asked), []int{n, n, n, n, n, n}, n}, diary{[]impl.Booked{{Lane: n, From: n, To: n, Who: n}}, impl.Booked{}, 0, 0, n, 0, n}, impl.Charge{Level: n, Use: n, Gain: n, Full: n}, 200)
			}
		}
		fleetToldOf(market{make([][]int, 1000000), make([]int, 1000000), 0}, diary{l: make([]impl.Booked, 1000000)}, impl.Charge{}, math.MaxInt)
		impl.GoodPrices([][]int{make([]int, 1000000)})
	}()
	select {
	case <-answered:
	case <-time.After(time.Minute):
		t.Fatal("no answer")
	}
}

// marketFrom cuts the numbers into rows that are wide.
func marketFrom(numbers []int, wide int, who []int, gone int) market {
	m := market{who: who, gone: gone}
	for row := range slices.Chunk(numbers, wide) {
		m.prices = append(m.prices, slices.Clone(row))
	}
	return m
}

// goodMarket makes all numbers ones that may be met.
func goodMarket(numbers []int, many int, who []int, gone int) market {
	n := 1 + leftOf(many, mostRobots)
	numbers, sum := append(slices.Clone(numbers), make([]int, n*n)...), 0
	prices := squareFilled(n, func(robot int, task int) int { return leftOf(numbers[robot*n+task], mostAsked+1) })
	for _, one := range who {
		sum = 7*sum + one
	}
	return market{prices, slices.Clone(everyWho[n][leftOf(sum, len(everyWho[n]))]), leftOf(gone, n)}
}

// FuzzPrices asks every function that knows prices of any numbers.
func FuzzPrices(f *testing.F) {
	f.Add("\x04\x01\x02\x03", 2, "\x01\x00", 0)
	f.Add("\x00", 1, "\x00", 0)
	f.Add("", 0, "", -1)
	f.Add("\x01\x02\x03\x04\x05\x06\x07\x08\x09", 3, "\x02\x02\x01", 3)
	f.Add("\x7f\x80\x7e\x82", 2, "\x7f\x80", math.MinInt)
	f.Add("\x05\x05\x05\x05\x05\x05\x05\x05\x05\x05\x05\x05\x05\x05\x05\x05\x05\x05\x05\x05\x05\x05\x05\x05\x05\x05\x05\x05\x05\x05\x05\x05\x05\x05\x05\x05", 6, "\x00\x01\x02\x03\x04\x05", 5)
	f.Fuzz(func(t *testing.T, asked string, wide int, who string, gone int) {
		m := marketFrom(farNumbers(asked), 1+leftOf(wide, mostRobots+1), farNumbers(who), gone)
		before := m.clone()
		m.check(t)
		if !m.same(before) {
			t.Fatalf("an argument was changed: %v, before %v", m, before)
		}
		// The same with numbers that may be met, so that good ones are met often.
		m = goodMarket(farNumbers(asked), wide, farNumbers(who), gone)
		if !isWho(m.prices, m.who) {
			t.Fatalf("%v is not good", m)
		}
		m.check(t)
		best, _ := checkBestAssign(t, m.prices)
		checkDues(t, m.prices, best)
		checkShown(t, m.prices, best)
	})
}

// booksFrom takes four numbers for each booking.
func booksFrom(l []int) []impl.Booked {
	all := []impl.Booked{}
	for four := range slices.Chunk(l, 4) {
		four = append(slices.Clone(four), 5, 6, 1)
		all = append(all, impl.Booked{Lane: four[0], From: four[1], To: four[2], Who: four[3]})
	}
	return all
}

// goodBooked makes all numbers of a booking ones that may be met.
func goodBooked(b impl.Booked) impl.Booked {
	from := leftOf(b.From, lastLaneTick)
	return impl.Booked{Lane: leftOf(b.Lane, manyLanes), From: from, To: from + 1 + leftOf(b.To, lastLaneTick-from), Who: leftOf(b.Who, manyOfFleet)}
}

// goodBooks leaves out what does not fit with the bookings ahead of it.
func goodBooks(l []impl.Booked) []impl.Booked {
	all := []impl.Booked{}
	for _, b := range l {
		if more, ok := exactBooked(all, goodBooked(b)); ok {
			all = more
		}
	}
	return all
}

// FuzzBooks asks every function that knows bookings of any numbers.
func FuzzBooks(f *testing.F) {
	f.Add("\x01\x02\x05\x03", "\x01\x05\x08\x03", 1, 0, 3, 3, 4)
	f.Add("", "\x00\x00\x01\x00", 0, 0, 1, 0, 0)
	f.Add("\x01\x02\x05\x03\x01\x05\x08\x03\x02\x00\x7d\x09", "\x01\x04\x05\x00", 9, 10000, 10000, 9, 10001)
	f.Add("\x01\x05\x05\x03\x7f\x80\x7f\x80", "\x80\x7f\x80\x7f", -1, math.MaxInt, math.MinInt, math.MaxInt, math.MinInt)
	f.Fuzz(func(t *testing.T, books string, one string, lane int, from int, long int, who int, at int) {
		d := diary{booksFrom(farNumbers(books)), booksFrom(farNumbers(one + "\x00"))[0], lane, from, long, who, at}
		before := d.clone()
		d.check(t)
		if !d.same(before) {
			t.Fatalf("an argument was changed: %v, before %v", d, before)
		}
		// The same with numbers that may be met, so that good ones are met often.
		d = diary{goodBooks(d.l), goodBooked(d.b), leftOf(lane, manyLanes), leftOf(from, lastLaneTick+1), 1 + leftOf(long, lastLaneTick), leftOf(who, manyOfFleet), leftOf(at, lastLaneTick+1)}
		if !areBooks(d.l) || !isBooked(d.b) {
			t.Fatalf("%v is not good", d)
		}
		d.check(t)
	})
}

// FuzzCharges asks ChargePlan of any numbers.
func FuzzCharges(f *testing.F) {
	f.Add(3, 2, 3, 10, 10)
	f.Add(0, 1, 1, 1, 0)
	f.Add(10000, 10000, 10000, 10000, 200)
	f.Add(10001, 0, -1, 10001, 201)
	f.Add(math.MinInt, math.MaxInt, math.MinInt, math.MaxInt, -1)
	f.Fuzz(func(t *testing.T, level int, use int, gain int, full int, ticks int) {
		checkCharge(t, impl.Charge{Level: level, Use: use, Gain: gain, Full: full}, ticks)
		// The same with numbers that may be met, so that good ones are met often.
		full = 1 + leftOf(full, mostCharge)
		c := impl.Charge{Level: leftOf(level, full+1), Use: 1 + leftOf(use, full), Gain: 1 + leftOf(gain, full), Full: full}
		plan, ok := checkCharge(t, c, leftOf(ticks, lastChargeTick+1))
		if !ok {
			t.Fatalf("%+v is not good", c)
		}
		checkDuties(t, c, plan)
	})
}
