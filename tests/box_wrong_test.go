package tests

import (
	"fmt"
	"math"
	"slices"
	"sync"
	"testing"

	"loop.example/g00047/impl"
)

func TestGoodRides(t *testing.T) {
	for n := 1; n <= mostState; n++ {
		a := goodRide(n)
		_, step := impl.BoxStep(a.m, a.b, a.w)
		run, ok := impl.BoxRun(a.m, a.b, a.w, a.steps)
		out, okToo := impl.FirstOut(a.m, a.b, a.w, a.keep, a.steps)
		if !impl.GoodBox(a.b) || !impl.BoxHas(a.b, a.x) || !impl.BoxWithin(a.b, a.keep) || !step || !ok || len(run) != 3 || out != -1 || !okToo {
			t.Errorf("%v: %v %v %v, %v %v", a, step, run, ok, out, okToo)
		}
		a.check(t)
	}
}

// checkNoPair: BoxWithin, BoxMeet and BoxHull have no answer, in either order.
func checkNoPair(t *testing.T, a impl.Box, b impl.Box) {
	t.Helper()
	for _, c := range [][2]impl.Box{{a, b}, {b, a}} {
		what := fmt.Sprintf("of %x", c)
		if impl.BoxWithin(c[0], c[1]) {
			t.Error("BoxWithin " + what)
		}
		got, ok := impl.BoxMeet(c[0], c[1])
		checkBox(t, "BoxMeet "+what, got, ok, impl.Box{}, false)
		got, ok = impl.BoxHull(c[0], c[1])
		checkBox(t, "BoxHull "+what, got, ok, impl.Box{}, false)
	}
}

// A float that is not good, in each place of each list.
func TestWrongFloatsInBoxes(t *testing.T) {
	for n := 1; n <= mostState; n++ {
		for at := range n {
			for _, wrong := range wrongReals() {
				for _, hi := range []bool{false, true} {
					a := goodRide(n)
					l := a.b.Lo
					if hi {
						l = a.b.Hi
					}
					l[at] = wrong
					a.checkNoBox(t)
					checkNoPair(t, a.b, a.keep)
					checkNoPair(t, a.b, goodRide(n).b)
					checkNoPair(t, a.b, a.b)
					// At both ends it is no better.
					a.b.Lo[at], a.b.Hi[at] = wrong, wrong
					a.checkNoBox(t)
					checkNoPair(t, a.b, a.b)
					// And as keep.
					c := goodRide(n)
					c.keep = a.b
					checkNoKeep(t, c)
				}
				a := goodRide(n)
				a.w[at] = wrong
				a.checkNoMove(t)
				for k := range n {
					a = goodRide(n)
					a.m[at][k] = wrong
					a.checkNoMove(t)
				}
			}
		}
	}
}

// checkNoKeep: with a keep that is not as said no number is told, while the run is.
func checkNoKeep(t *testing.T, a ride) {
	t.Helper()
	for steps := range mostRun + 1 {
		if number, ok := impl.FirstOut(a.m, a.b, a.w, a.keep, steps); number != 0 || ok {
			t.Errorf("FirstOut of %x, %d steps: %d %v", a, steps, number, ok)
		}
		if run, ok := impl.BoxRun(a.m, a.b, a.w, steps); !ok || len(run) != steps+1 {
			t.Errorf("BoxRun of %x, %d steps: %x %v", a, steps, run, ok)
		}
	}
	a.check(t)
}

// What counts for nothing has to be good all the same: beside noughts, and where the answer is told without it.
func TestWrongFloatsThatCountForNothingInBoxes(t *testing.T) {
	for n := 1; n <= mostState; n++ {
		for at := range n {
			for _, wrong := range wrongReals() {
				zero := ride{m: oneReals(n, 0), b: boxOf(make([]float64, n), make([]float64, n)), w: make([]float64, n), keep: boxOf(evenReals(n, 5), evenReals(n, 6)), x: slices.Repeat([]string{"7"}, n)}
				zero.check(t)
				a := zero.clone()
				a.m[at][n-1-at] = wrong
				a.checkNoMove(t)
				a = zero.clone()
				a.w[at] = wrong
				a.checkNoMove(t)
				a = zero.clone()
				a.b.Lo[at] = wrong
				a.checkNoBox(t)
				a = zero.clone()
				a.b.Hi[at] = wrong
				a.checkNoBox(t)
				a = zero.clone()
				a.keep.Hi[at] = wrong
				checkNoKeep(t, a)
				// They do not meet anyway; the hull is not told either.
				checkNoPair(t, a.b, a.keep)
			}
		}
	}
}

func TestWrongTextsInBoxes(t *testing.T) {
	for n := 1; n <= mostState; n++ {
		for at := range n {
			for _, wrong := range wrongTexts() {
				a := goodRide(n)
				a.b = boxOf(evenReals(n, -greatest), evenReals(n, greatest))
				if !impl.BoxHas(a.b, a.x) {
					t.Fatalf("%x does not have %v", a.b, a.x)
				}
				a.x[at] = wrong
				if impl.BoxHas(a.b, a.x) {
					t.Errorf("BoxHas of %.300v", a.x)
				}
				a.check(t)
			}
			for _, good := range goodTexts() {
				a := goodRide(n)
				a.x[at] = good
				a.check(t)
				a.b = boxOf(evenReals(n, -greatest), evenReals(n, greatest))
				a.check(t)
			}
		}
	}
}

// A w below 0, in each place, by the least float and by more.
func TestNoiseBelowNought(t *testing.T) {
	for n := 1; n <= mostState; n++ {
		for at := range n {
			for _, x := range []float64{-least, -2 * least, -leastFull, -0.5, -1, -1e300, -greatest} {
				a := goodRide(n)
				a.w[at] = x
				a.checkNoMove(t)
			}
			for _, x := range []float64{0, least, 0.5, 1, 1e300, greatest / 4} {
				a := goodRide(n)
				a.w[at] = x
				if _, ok := impl.BoxStep(a.m, a.b, a.w); !ok {
					t.Errorf("no step with %x", a.w)
				}
				a.check(t)
			}
		}
	}
}

// lengthsOf are lists of all lengths that are wrong for n: nil, empty, shorter, longer.
func lengthsOf(n int, x float64) [][]float64 {
	l := [][]float64{nil, {}}
	for k := 1; k <= mostState+2; k++ {
		if k != n {
			l = append(l, evenReals(k, x))
		}
	}
	return append(l, evenReals(impl.MaxReals, x), evenReals(impl.MaxReals+1, x), evenReals(1000, x))
}

func TestListsOfWrongLengthsInBoxes(t *testing.T) {
	for n := 1; n <= mostState; n++ {
		for _, l := range lengthsOf(n, 0.25) {
			a := goodRide(n)
			a.b.Lo = l
			a.checkNoBox(t)
			checkNoPair(t, a.b, a.keep)
			a = goodRide(n)
			a.b.Hi = l
			a.checkNoBox(t)
			checkNoPair(t, a.b, a.keep)
			a = goodRide(n)
			a.keep.Lo = l
			checkNoKeep(t, a)
			a = goodRide(n)
			a.keep.Hi = l
			checkNoKeep(t, a)
			a = goodRide(n)
			a.w = l
			a.checkNoMove(t)
			for at := range n {
				a = goodRide(n)
				a.m[at] = l
				a.checkNoMove(t)
			}
			// As many rows as the list has numbers, each as long as it must be.
			a = goodRide(n)
			a.m = slices.Repeat([][]float64{evenReals(n, 0.5)}, len(l))
			a.checkNoMove(t)
			a.m = slices.Repeat([][]float64{l}, len(l))
			a.checkNoMove(t)
			a.m = slices.Repeat([][]float64{l}, n)
			a.checkNoMove(t)
			a = goodRide(n)
			a.x = slices.Repeat([]string{"0"}, len(l))
			if impl.BoxHas(a.b, a.x) {
				t.Errorf("BoxHas of %d numbers and %d", n, len(l))
			}
			a.check(t)
		}
		a := goodRide(n)
		a.m = nil
		a.checkNoMove(t)
		a.m = make([][]float64, n)
		a.checkNoMove(t)
	}
}

// All lists are as long as each other, and too short or too long.
func TestBoxesOfTooFewAndTooManyNumbers(t *testing.T) {
	for _, n := range []int{0, mostState + 1, mostState + 2, 20, impl.MaxReals, impl.MaxReals + 1} {
		a := goodRide(n)
		a.checkNoBox(t)
		checkNoPair(t, a.b, a.keep)
		checkNoPair(t, a.b, a.b)
		if impl.GoodBox(a.keep) || impl.BoxHas(a.b, a.x) {
			t.Errorf("a box of %d numbers is good", n)
		}
		for _, k := range []int{1, 2, 3} {
			c := goodRide(k)
			c.keep = a.keep
			checkNoKeep(t, c)
		}
	}
	var none ride
	none.checkNoBox(t)
	none.b = boxOf(reals(), nil)
	none.checkNoBox(t)
	none.x, none.w, none.m = []string{}, reals(), [][]float64{}
	none.checkNoBox(t)
}

// The nil list and the empty list are the same in what is told of nothing.
func TestNothingIsToldOfNoBox(t *testing.T) {
	if run, ok := impl.BoxRun(nil, impl.Box{}, nil, 0); len(run) != 0 || ok {
		t.Error("a run of no box:", run, ok)
	}
	if n, ok := impl.FirstOut(nil, impl.Box{}, nil, impl.Box{}, 0); n != 0 || ok {
		t.Error("no box is out:", n, ok)
	}
	if impl.BoxHas(impl.Box{}, nil) || impl.BoxWithin(impl.Box{}, impl.Box{}) || impl.GoodBox(impl.Box{}) {
		t.Error("no box is good")
	}
	checkNoPair(t, impl.Box{}, impl.Box{})
}

// boxBehind lays more behind both lists.
func boxBehind(b impl.Box, more ...float64) impl.Box {
	return boxOf(behind(b.Lo, more...), behind(b.Hi, more...))
}

func boxKept(b impl.Box, before impl.Box, more ...float64) bool {
	return kept(b.Lo, before.Lo, same, more...) && kept(b.Hi, before.Hi, same, more...)
}

func (a ride) behind(more ...float64) ride {
	rows := [][]float64{}
	for _, row := range a.m {
		rows = append(rows, behind(row, more...))
	}
	return ride{behind(rows, more, nil, reals(1)), boxBehind(a.b, more...), behind(a.w, more...), boxBehind(a.keep, more...), behind(a.x, "x", "1", ""), a.steps}
}

func (a ride) kept(before ride, more ...float64) bool {
	for i, row := range a.m {
		if !kept(row, before.m[i], same, more...) {
			return false
		}
	}
	return kept(a.m, before.m, sameReals, more, nil, reals(1)) && boxKept(a.b, before.b, more...) && kept(a.w, before.w, same, more...) && boxKept(a.keep, before.keep, more...) && kept(a.x, before.x, sameText, "x", "1", "")
}

// What lies behind the lists counts for nothing and stays, as the lists do.
func TestWhatLiesBehindBoxes(t *testing.T) {
	for n := range mostState + 2 {
		for _, more := range [][]float64{{math.NaN(), math.Inf(1), signedNought}, {1, 2, 3}, {-1}, {least, -greatest}} {
			good := goodRide(n)
			for cut := range min(n, 1) + 1 {
				a := good.clone()
				if cut == 1 {
					// The number that would be missing lies behind.
					a.w, a.x, a.b.Hi, a.m = a.w[:n-1], a.x[:n-1], a.b.Hi[:n-1], a.m[:n-1]
					a = a.clone()
				}
				before := a.clone()
				handed := a.behind(more...)
				handed.check(t)
				handed.checkAll(t, before)
				if !handed.kept(before, more...) {
					t.Errorf("%x was changed: %x", before, handed)
				}
			}
		}
	}
}

// checkAll: the answers are those of the same arguments with nothing behind.
func (a ride) checkAll(t *testing.T, plain ride) {
	t.Helper()
	if impl.GoodBox(a.b) != impl.GoodBox(plain.b) || impl.BoxHas(a.b, a.x) != impl.BoxHas(plain.b, plain.x) || impl.BoxWithin(a.b, a.keep) != impl.BoxWithin(plain.b, plain.keep) {
		t.Errorf("%x is told otherwise", a)
	}
	got, ok := impl.BoxStep(a.m, a.b, a.w)
	want, wantOk := impl.BoxStep(plain.m, plain.b, plain.w)
	checkBox(t, "BoxStep with more behind", got, ok, want, wantOk)
	got, ok = impl.BoxMeet(a.b, a.keep)
	want, wantOk = impl.BoxMeet(plain.b, plain.keep)
	checkBox(t, "BoxMeet with more behind", got, ok, want, wantOk)
	got, ok = impl.BoxHull(a.b, a.keep)
	want, wantOk = impl.BoxHull(plain.b, plain.keep)
	checkBox(t, "BoxHull with more behind", got, ok, want, wantOk)
}

// spoilBoxes writes into every list of an answer, and looks whether another list of it has changed.
func spoilBoxes(t *testing.T, l []impl.Box) {
	t.Helper()
	lists := [][]float64{}
	for _, b := range l {
		lists = append(lists, b.Lo, b.Hi)
	}
	for i := range lists {
		before := cloneReals(lists)
		spoil(lists[i], -77)
		for k := range lists {
			if k != i && !sameReals(lists[k], before[k]) {
				t.Fatalf("lists of one answer share memory: %v, were %v", lists, before)
			}
		}
	}
	spoil(l, impl.Box{})
}

// Whoever writes into an answer changes nothing else: no other list of it, no later answer, no argument.
func TestBoxAnswersAreNewMemory(t *testing.T) {
	for n := 1; n <= mostState; n++ {
		for steps := range mostRun + 1 {
			a := goodRide(n)
			a.steps = steps
			before := a.clone()
			for range 3 {
				step, _ := impl.BoxStep(a.m, a.b, a.w)
				run, _ := impl.BoxRun(a.m, a.b, a.w, a.steps)
				// Boxes that lie in each other, that are each other, that are the same memory.
				for _, c := range [][2]impl.Box{{a.b, a.keep}, {a.keep, a.b}, {a.b, a.b}, {a.b, cloneBox(a.b)}, {a.b, boxOf(a.b.Lo, a.b.Hi)}, {boxOf(a.b.Lo, a.b.Lo), a.keep}} {
					meet, met := impl.BoxMeet(c[0], c[1])
					hull, ok := impl.BoxHull(c[0], c[1])
					if !met || !ok {
						t.Fatalf("%x has no meet or no hull", c)
					}
					spoilBoxes(t, []impl.Box{meet, hull})
				}
				spoilBoxes(t, append(run, step))
				spoilBoxes(t, run)
				// All edges the same list: the answer has lists of its own.
				point, _ := impl.BoxRun(oneReals(n, 1), boxOf(a.b.Lo, a.b.Lo), make([]float64, n), steps)
				spoilBoxes(t, point)
				if !a.same(before) {
					t.Fatalf("an argument was changed: %x, before %x", a, before)
				}
				a.check(t)
			}
		}
	}
}

// Lists that share memory among the arguments are told of like any others.
func TestBoxArgumentsThatShareMemory(t *testing.T) {
	for n := 1; n <= mostState; n++ {
		l := evenReals(n, 0.75)
		a := ride{m: slices.Repeat([][]float64{l}, n), b: boxOf(l, l), w: l, keep: boxOf(l, l), x: slices.Repeat([]string{"3/4"}, n), steps: 3}
		a.check(t)
		if !sameReals(l, evenReals(n, 0.75)) {
			t.Error("the list was changed:", l)
		}
	}
}

// The same call has the same answer every time, many at once too.
func TestBoxesAreTheSameEveryTime(t *testing.T) {
	var all sync.WaitGroup
	for n := 1; n <= mostState; n++ {
		a := goodRide(n)
		for i := range n {
			a.m[i][n-1-i] = 0.1
		}
		a.keep = boxOf(evenReals(n, -1.5), evenReals(n, 2.25))
		a.steps = mostRun
		want, _ := impl.BoxRun(a.m, a.b, a.w, a.steps)
		out, _ := impl.FirstOut(a.m, a.b, a.w, a.keep, a.steps)
		for range 8 {
			all.Go(func() {
				for range 20 {
					run, ok := impl.BoxRun(a.m, a.b, a.w, a.steps)
					number, okToo := impl.FirstOut(a.m, a.b, a.w, a.keep, a.steps)
					lo, hi, _ := impl.AddOut(0.1, 0.2)
					if !ok || !okToo || !slices.EqualFunc(run, want, sameBox) || number != out || lo != 0.3 || hi != stepUp(0.3) {
						t.Error("another answer:", run, number, lo, hi)
					}
				}
			})
		}
	}
	all.Wait()
}

// floatsIn are floats out of bytes, eight each; behind the end there are small ones.
func floatsIn(data []byte) func(n int) []float64 {
	at := 0
	return func(n int) []float64 {
		l := make([]float64, n)
		for i := range l {
			at++
			if 8*at > len(data) {
				l[i] = float64(at%5) - 1.5
				continue
			}
			bits := uint64(0)
			for _, b := range data[8*at-8 : 8*at] {
				bits = bits<<8 | uint64(b)
			}
			l[i] = math.Float64frombits(bits)
		}
		return l
	}
}

// FuzzBoxes asks every function of boxes of any floats, texts and lengths.
func FuzzBoxes(f *testing.F) {
	for n := range mostState + 2 {
		f.Add([]byte{}, n, 0, "1/3|1/2|0")
		f.Add([]byte{0x3f, 0xf0, 0, 0, 0, 0, 0, 0, 0xbf, 0xb9, 0x99, 0x99, 0x99, 0x99, 0x99, 0x9a, 0x7f, 0xef, 0xff, 0xff, 0xff, 0xff, 0xff, 0xff}, n, 3, "1|-1|2/4")
		f.Add([]byte{0, 0, 0, 0, 0, 0, 0, 1, 0x80, 0, 0, 0, 0, 0, 0, 0, 0x7f, 0xf0, 0, 0, 0, 0, 0, 0, 0x7f, 0xf8, 0, 0, 0, 0, 0, 0}, n, mostRun, "0")
	}
	f.Fuzz(func(t *testing.T, data []byte, n int, steps int, x string) {
		n = int(uint(n) % (mostState + 2))
		floats := floatsIn(data)
		a := ride{b: boxOf(floats(n), floats(n)), w: floats(n), keep: boxOf(floats(n), floats(n)), x: listIn(x), steps: steps % (mostRun + 3)}
		for range n {
			a.m = append(a.m, floats(n))
		}
		a.check(t)
		// The same with ends in order and noise from 0 on, so that more is good.
		for i := range n {
			a.w[i] = math.Abs(a.w[i])
			for _, b := range []impl.Box{a.b, a.keep} {
				if b.Lo[i] > b.Hi[i] {
					b.Lo[i], b.Hi[i] = b.Hi[i], b.Lo[i]
				}
			}
		}
		a.check(t)
		for _, l := range append(a.m, a.b.Lo) {
			for _, y := range l {
				if z := a.b.Hi[0]; isReal(y) && isReal(z) {
					checkOuts(t, y, z)
				}
			}
		}
	})
}
