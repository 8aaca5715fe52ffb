package tests

import (
	"math"
	"math/rand"
	"slices"
	"sync"
	"testing"
	"time"

	"loop.example/g00047/impl"
)

// fairShift has all of its numbers as they may be; the tests of wrong ones begin with it.
func fairShift() shift { return shiftOf("4/1/3 6/2/6 12/4/12", "0 5 1", 50) }

// checkAll asks every function of anything; where the chores are not good each is to have the zero answer.
func checkAll(t *testing.T, s shift, at int) {
	t.Helper()
	checkChores(t, s.l)
	checkLoad(t, s.l)
	checkCycle(t, s.l)
	checkAnswers(t, s.l)
	checkDemand(t, s.l, at)
	checkNever(t, s.l)
	s.check(t)
}

// checkNoChores: chores that are not good have the zero answer everywhere.
func checkNoChores(t *testing.T, l []impl.Chore) {
	t.Helper()
	if impl.GoodChores(l) {
		t.Fatalf("GoodChores of %v", l)
	}
	load, some := impl.LoadOf(l)
	cycle, is := impl.CycleOf(l)
	times, has := impl.AnswerTimes(l)
	never, known := impl.NeverLate(l)
	if load != "" || some || cycle != 0 || is || len(times) != 0 || has || never || known {
		t.Fatalf("of %v: %q %v, %d %v, %v %v, %v %v", l, load, some, cycle, is, times, has, never, known)
	}
	for _, at := range append([]int{0, 1, 60, lastAsked, lastAsked + 1, -1}, farInts...) {
		if got, ok := impl.DemandAt(l, at); got != 0 || ok {
			t.Fatalf("DemandAt of %v at %d: %d %v", l, at, got, ok)
		}
	}
	for _, first := range [][]int{make([]int, len(l)), nil, {0}} {
		for _, until := range []int{0, 1, lastPlayed, -1, math.MaxInt} {
			checkNoShift(t, shift{l, first, until})
		}
	}
}

// checkNoShift: both runs have the zero answer.
func checkNoShift(t *testing.T, s shift) {
	t.Helper()
	ranked, longest, ok := impl.RunRanked(s.l, s.first, s.until)
	if len(ranked) != 0 || len(longest) != 0 || ok {
		t.Fatalf("RunRanked of %+v: %v %v %v", s, ranked, longest, ok)
	}
	urgent, longest, ok := impl.RunUrgent(s.l, s.first, s.until)
	if len(urgent) != 0 || len(longest) != 0 || ok {
		t.Fatalf("RunUrgent of %+v: %v %v %v", s, urgent, longest, ok)
	}
}

// Each way in which chores are not good, alone, at each place of a list.
func TestChoresThatAreNone(t *testing.T) {
	checkNoChores(t, nil)
	checkNoChores(t, []impl.Chore{})
	for _, many := range []int{7, 8, 100, 1000} {
		checkNoChores(t, slices.Repeat([]impl.Chore{{Period: 4, Need: 1, Due: 3}}, many))
	}
	wrong := choresOf("0/0/0 0/1/1 61/1/1 61/61/61 5/0/5 5/0/0 5/6/6 5/6/5 5/3/2 5/3/0 5/3/6 60/1/61 60/1/0 1/1/2 1/2/1 1/2/2")
	for _, n := range append([]int{-1}, farInts...) {
		wrong = append(wrong, impl.Chore{Period: n, Need: 1, Due: 1}, impl.Chore{Period: 5, Need: n, Due: 5}, impl.Chore{Period: 5, Need: 1, Due: n}, impl.Chore{Period: n, Need: n, Due: n}, impl.Chore{Period: 5, Need: n, Due: n})
	}
	for _, one := range wrong {
		for many := range mostChores {
			for at := range many + 1 {
				checkNoChores(t, slices.Insert(slices.Repeat([]impl.Chore{{Period: 4, Need: 1, Due: 3}}, many), at, one))
			}
		}
	}
}

// Each way in which the times of a run are not good, alone.
func TestShiftsThatAreNone(t *testing.T) {
	if !fairShift().good() {
		t.Fatal(fairShift())
	}
	fairShift().check(t)
	wrong := []func(*shift){
		// As many first times as chores, no fewer and no more.
		func(s *shift) { s.first = nil }, func(s *shift) { s.first = []int{} }, func(s *shift) { s.first = s.first[:2] }, func(s *shift) { s.first = append(s.first, 0) }, func(s *shift) { s.first = make([]int, 6) }, func(s *shift) { s.first = make([]int, 1000) },
		func(s *shift) { s.l = s.l[:2] }, func(s *shift) { s.l = append(s.l, s.l[0]) },
	}
	for _, n := range append([]int{-1, -2}, farInts...) {
		wrong = append(wrong, func(s *shift) { s.until = n })
	}
	for _, n := range []int{2001, 2002, 10000} {
		wrong = append(wrong, func(s *shift) { s.until = n })
	}
	for _, n := range append([]int{-1, -60, 61, 62, 120, 1 << 32, -1 << 32}, farInts...) {
		for at := range 3 {
			// Also where nothing is played.
			wrong = append(wrong, func(s *shift) { s.first[at] = n }, func(s *shift) { s.first[at], s.until = n, 0 }, func(s *shift) { s.first[at], s.until = n, 2000 })
		}
	}
	for i, spoilt := range wrong {
		s := fairShift()
		spoilt(&s)
		if s.good() {
			t.Fatalf("the shift %d is good: %+v", i, s)
		}
		checkNoShift(t, s)
	}
	// One chore, and its first time at each edge.
	for first, good := range map[int]bool{-1: false, 0: true, 60: true, 61: false} {
		s := shift{choresOf("5/1/5"), []int{first}, 100}
		if s.check(t); s.good() != good {
			t.Errorf("%+v", s)
		}
	}
}

// Numbers far off in each place.
func TestStrayNumbersInChores(t *testing.T) {
	for _, n := range append([]int{0, 1, 59, 60, 61, 1999, 2000, 2001, 999999, 1000000, 1000001}, strayNumbers...) {
		for _, put := range []func(*shift){
			func(s *shift) { s.l[0].Period = n }, func(s *shift) { s.l[1].Need = n }, func(s *shift) { s.l[2].Due = n }, func(s *shift) { s.l[1] = impl.Chore{Period: n, Need: n, Due: n} },
			func(s *shift) { s.l[2].Period, s.l[2].Due = n, n }, func(s *shift) { s.l[0].Need, s.l[0].Due = n, n },
			func(s *shift) { s.first[0] = n }, func(s *shift) { s.first[2] = n }, func(s *shift) { s.first = []int{n, n, n} }, func(s *shift) { s.until = n }, func(s *shift) { s.first[1], s.until = n, n },
			func(s *shift) { s.l[0].Period, s.first[0], s.until = n, n, n },
		} {
			s := fairShift()
			put(&s)
			checkAll(t, s, n)
		}
	}
}

// Nil lists and empty ones are the same, and none of them is good.
func TestEmptyListsInChores(t *testing.T) {
	for _, l := range [][]impl.Chore{nil, {}} {
		for _, first := range [][]int{nil, {}, {0}} {
			for _, until := range []int{0, 5} {
				checkNoShift(t, shift{l, first, until})
				checkAll(t, shift{l, first, until}, 0)
			}
		}
	}
	for _, first := range [][]int{nil, {}} {
		checkNoShift(t, shift{choresOf("4/1/3"), first, 5})
	}
	// No slice, but a longest time for each chore.
	ranked, urgent := shiftOf("4/1/3 5/1/5", "7 9", 5).check(t)
	for _, p := range []played{ranked, urgent} {
		if len(p.slices) != 0 || !slices.Equal(p.longest, []int{0, 0}) {
			t.Error(p)
		}
	}
}

func sameChore(a impl.Chore, b impl.Chore) bool { return a == b }

// What lies behind the lists counts for nothing and stays, as the lists do.
func TestWhatLiesBehindChores(t *testing.T) {
	r := rand.New(rand.NewSource(451))
	for range 400 {
		for _, more := range [][]int{{0}, {-1, -1, -1}, {math.MinInt, 1}, {3, 4, 5}} {
			s := drawnShift(r)
			last := []impl.Chore{{Period: 1, Need: 1, Due: 1}, {Period: more[0], Need: more[0]}}
			in := shift{behind(s.l, last...), behind(s.first, more...), min(s.until, 300)}
			checkAll(t, in, r.Intn(1000))
			if !kept(in.l, s.l, sameChore, last...) || !kept(in.first, s.first, sameNumber, more...) {
				t.Fatalf("a list was changed: %+v, before %+v", in, s)
			}
		}
	}
	// What would make it otherwise lies behind.
	full := behind(slices.Repeat(choresOf("4/1/3"), 6), choresOf("4/1/3")...)
	if !checkChores(t, full) || checkChores(t, full[:0]) {
		t.Error("GoodChores reads behind its list")
	}
	first := behind([]int{0, 0}, 0)
	checkNoShift(t, shift{choresOf("4/1/3 4/1/3 4/1/3"), first, 5})
	if _, urgent := (shift{choresOf("4/1/3 4/1/3"), behind([]int{0, 0}, 61), 5}).check(t); len(urgent.slices) == 0 {
		t.Error("RunUrgent reads behind its times")
	}
}

// Whoever writes into an answer changes nothing else: no other list of it, no later answer, no argument.
func TestChoreAnswersAreNewMemory(t *testing.T) {
	r := rand.New(rand.NewSource(452))
	for range 1000 {
		s := drawnShift(r)
		s.until = min(s.until, 200)
		before := s.clone()
		for range 2 {
			spoil(checkAnswers(t, s.l), -7)
			ranked, urgent := s.check(t)
			for _, p := range []played{ranked, urgent} {
				longest := slices.Clone(p.longest)
				spoil(p.slices, impl.Slice{From: -7, To: -7, Who: -7})
				if !slices.Equal(p.longest, longest) {
					t.Fatalf("lists of one answer share memory: %+v, was %v", p, longest)
				}
				spoil(p.longest, -8)
			}
			one, two := checkLoad(t, s.l), checkLoad(t, s.l)
			if one != two {
				t.Fatal(one, two)
			}
		}
		if !s.same(before) {
			t.Fatalf("an argument was changed: %+v, before %+v", s, before)
		}
	}
}

// Chores and times that are pieces of one list, or answers of other calls, are told like any others.
func TestChoreArgumentsThatShareMemory(t *testing.T) {
	l, first := choresOf("4/1/3 6/2/6 12/4/12 9/1/2 30/3/20 5/1/5"), []int{0, 5, 1, 0, 60, 7}
	before := shift{slices.Clone(l), slices.Clone(first), 0}
	for from := range l {
		for to := from + 1; to <= len(l); to++ {
			s := shift{l[from:to], first[:to-from], 100}
			checkAll(t, s, 37)
			ranked, _ := s.check(t)
			// The longest times of a run as first times of another one.
			shift{s.l, ranked.longest, 100}.check(t)
			spoil(ranked.longest, 3)
		}
	}
	if !before.same(shift{l, first, 0}) {
		t.Errorf("a list was changed: %v %v", l, first)
	}
}

// sight is all that is told of chores and a run of them.
type sight struct {
	good, never, ok bool
	load            string
	cycle, demand   int
	times           []int
	ranked, urgent  played
}

func sightOf(s shift, at int) sight {
	var w sight
	w.good = impl.GoodChores(s.l)
	w.load, _ = impl.LoadOf(s.l)
	w.cycle, _ = impl.CycleOf(s.l)
	w.times, _ = impl.AnswerTimes(s.l)
	w.demand, _ = impl.DemandAt(s.l, at)
	w.never, w.ok = impl.NeverLate(s.l)
	w.ranked.slices, w.ranked.longest, _ = impl.RunRanked(s.l, s.first, s.until)
	w.urgent.slices, w.urgent.longest, _ = impl.RunUrgent(s.l, s.first, s.until)
	return w
}

func (w sight) same(o sight) bool {
	return w.good == o.good && w.never == o.never && w.ok == o.ok && w.load == o.load && w.cycle == o.cycle && w.demand == o.demand &&
		slices.Equal(w.times, o.times) && w.ranked.same(o.ranked) && w.urgent.same(o.urgent)
}

// The same call has the same answer every time, many at once too, all of them with the same lists.
func TestChoresAreTheSameEveryTime(t *testing.T) {
	r := rand.New(rand.NewSource(453))
	shifts, sights := []shift{fairShift(), {}, {l: choresOf("5/3/2")}}, []sight{}
	for range 20 {
		many := 1 + r.Intn(mostChores)
		shifts = append(shifts, shift{drawnChores(r, many, 12), drawnFirsts(r, many), r.Intn(lastPlayed + 1)})
	}
	for _, s := range shifts {
		checkAll(t, s, 77)
		sights = append(sights, sightOf(s, 77))
	}
	var all sync.WaitGroup
	for range 8 {
		all.Go(func() {
			for range 10 {
				for i, s := range shifts {
					if got := sightOf(s, 77); !got.same(sights[i]) {
						t.Errorf("another answer of %+v: %+v, was %+v", s, got, sights[i])
					}
				}
			}
		})
	}
	all.Wait()
}

// No call takes long, not with the longest cycle either; a minute is far more than all of them need.
func TestChoresAnswerInTime(t *testing.T) {
	begin := time.Now()
	for range 2 {
		long := choresOf("27/1/27 13/1/13 7/1/7 37/1/37 11/1/11 39/1/39")
		if never, ok := impl.NeverLate(long); !never || !ok {
			t.Fatal(never, ok)
		}
		for _, n := range strayNumbers {
			sightOf(shift{long, make([]int, 6), n}, n)
		}
	}
	if spent := time.Since(begin); spent > time.Minute {
		t.Error("it took", spent)
	}
}

// choresFrom takes three numbers for each chore.
func choresFrom(l []int) []impl.Chore {
	all := []impl.Chore{}
	for three := range slices.Chunk(l, 3) {
		three = append(slices.Clone(three), 1, 1)
		all = append(all, impl.Chore{Period: three[0], Need: three[1], Due: three[2]})
	}
	return all
}

// goodShift makes all numbers ones that may be met.
func goodShift(s shift) shift {
	s = s.clone()
	s.l = append(s.l, impl.Chore{Period: 7, Need: 1, Due: 7})[:max(1, min(len(s.l), mostChores))]
	first := slices.Concat(s.first, make([]int, mostChores))[:len(s.l)]
	for i, c := range s.l {
		period := 1 + leftOf(c.Period, longestPeriod)
		need := 1 + leftOf(c.Need, period)
		s.l[i] = impl.Chore{Period: period, Need: need, Due: need + leftOf(c.Due, period-need+1)}
		first[i] = leftOf(first[i], longestPeriod+1)
	}
	s.first, s.until = first, leftOf(s.until, lastPlayed+1)
	return s
}

// FuzzChores asks every function of any numbers.
func FuzzChores(f *testing.F) {
	f.Add("\x04\x01\x04\x06\x02\x06\x0c\x04\x0c", "\x00\x00\x00", 12, 12)
	f.Add("\x01\x01\x01", "\x3c", 2000, 1000000)
	f.Add("\x3c\x3c\x3c\x3d\x01\x01", "\x3d\xff", 2001, 1000001)
	f.Add("", "", 0, -1)
	f.Add("\x7f\x80\x7f\x80\x7f\x80", "\x7f\x80", math.MaxInt, math.MinInt)
	f.Fuzz(func(t *testing.T, chores string, times string, until int, at int) {
		s := shift{choresFrom(farNumbers(chores)), farNumbers(times), until}
		before := s.clone()
		checkAll(t, s, at)
		if !s.same(before) {
			t.Fatalf("an argument was changed: %+v, before %+v", s, before)
		}
		// The same with numbers that may be met, so that good ones are met often.
		if s = goodShift(s); !s.good() {
			t.Fatalf("%+v is not good", s)
		}
		checkAll(t, s, leftOf(at, lastAsked+1))
		never, _ := impl.NeverLate(s.l)
		checkInTime(t, s, checkAnswers(t, s.l), never)
	})
}
