package tests

import (
	"math"
	"math/rand"
	"slices"
	"sync"
	"testing"

	"loop.example/g00047/impl"
)

// checkNoBoard: a board that is not good has no answer anywhere, not even for no numbers or one place.
func checkNoBoard(t *testing.T, b impl.Board) {
	t.Helper()
	if impl.GoodBoard(b) {
		t.Errorf("GoodBoard of %+v", b)
	}
	for _, w := range []impl.Wish{{}, wishOf("goal|"), wishOf("|pit"), wishOf("goal|pit")} {
		if got, ok := impl.WinningPlaces(b, w); ok || len(got) != 0 {
			t.Errorf("WinningPlaces of %+v, %q: %v %v", b, w, got, ok)
		}
		if got, ok := impl.Strategy(b, w); ok || len(got) != 0 {
			t.Errorf("Strategy of %+v, %q: %v %v", b, w, got, ok)
		}
		for _, path := range [][]int{nil, {}, {0}, {1}, {0, 1}, {0, 0}, {-1}, {len(b.Names)}} {
			if met, ok := impl.WishMet(b, w, path); ok || met {
				t.Errorf("WishMet of %+v, %q, %v: %v %v", b, w, path, met, ok)
			}
		}
	}
	for _, n := range []int{0, 1, len(b.Names), len(b.Mine), len(b.Next)} {
		for _, from := range append([]int{0, 1, -1, n - 1, n}, farInts...) {
			for _, theirs := range [][]int{nil, {}, {0}, {1, 2, 3}, {-1}} {
				if got, ok := impl.PlayBoard(b, make([]int, n), from, theirs); ok || len(got) != 0 {
					t.Errorf("PlayBoard of %+v, from %d, with %v: %v %v", b, from, theirs, got, ok)
				}
			}
		}
	}
}

// plainBoards are good ones, the least and the greatest among them.
func plainBoards() []impl.Board {
	r := rand.New(rand.NewSource(384))
	return []impl.Board{
		boardOf("+>"), boardOf("->0"), boardOf("+goal>0"), boardOf("+>1,2,3 +pit> +goal> ->1,2"), boardOf("->1,2 +pit>0,2 -goal>1"),
		roundBoard(14, true), roundBoard(14, false), lineBoard(14, true), drawnBoard(r, 9, []string{"goal", "pit"}, 4), drawnBoard(r, 14, []string{"goal", "pit"}, 2),
	}
}

// Boards that are not good in each way that the chapter names.
func TestBoardsThatAreNotGood(t *testing.T) {
	checkNoBoard(t, impl.Board{})
	checkNoBoard(t, impl.Board{Names: []string{}, Mine: []bool{}, Next: [][]int{}})
	checkNoBoard(t, roundBoard(15, true))
	checkNoBoard(t, lineBoard(15, false))
	checkNoBoard(t, lineBoard(1000, true))
	for _, plain := range plainBoards() {
		for _, b := range []impl.Board{
			{Names: plain.Names, Mine: plain.Mine}, {Names: plain.Names, Next: plain.Next}, {Mine: plain.Mine, Next: plain.Next},
			{Names: plain.Names[1:], Mine: plain.Mine, Next: plain.Next}, {Names: plain.Names, Mine: plain.Mine[1:], Next: plain.Next}, {Names: plain.Names, Mine: plain.Mine, Next: plain.Next[1:]},
			{Names: append(slices.Clone(plain.Names), "a"), Mine: plain.Mine, Next: plain.Next}, {Names: plain.Names, Mine: append(slices.Clone(plain.Mine), true), Next: plain.Next}, {Names: plain.Names, Mine: plain.Mine, Next: append(slices.Clone(plain.Next), nil)},
		} {
			checkNoBoard(t, b)
		}
		for at := range plain.Names {
			for _, name := range badNames {
				b := cloneBoard(plain)
				if b.Names[at] = name; name != "" {
					checkNoBoard(t, b)
				}
			}
			next := plain.Next[at]
			for _, other := range [][]int{append(slices.Clone(next), -1), append(slices.Clone(next), len(plain.Names)), append([]int{-1}, next...), append([]int{len(plain.Names)}, next...), append(slices.Clone(next), 0, 0), append([]int{0, 0}, next...), slices.Repeat([]int{0}, 15), slices.Repeat([]int{0}, 1000)} {
				b := cloneBoard(plain)
				b.Next[at] = other
				checkNoBoard(t, b)
			}
		}
	}
}

// Numbers far off at each place of Next.
func TestStrayNumbersInBoards(t *testing.T) {
	for _, plain := range plainBoards() {
		for at, next := range plain.Next {
			for i := range next {
				for _, n := range append([]int{-1, len(plain.Names), 14, 15}, strayNumbers...) {
					b := cloneBoard(plain)
					b.Next[at][i] = n
					if !isAmong(n, len(plain.Names)) {
						checkNoBoard(t, b)
					}
					checkBoard(t, b)
				}
			}
		}
	}
}

// And in a plan, as the first place, among theirs and in a path.
func TestStrayNumbersBesideBoards(t *testing.T) {
	for _, b := range plainBoards() {
		n := len(b.Names)
		plan, _ := impl.Strategy(b, wishOf("|pit"))
		for _, stray := range append([]int{-1, n, 14, 15}, strayNumbers...) {
			checkPlay(t, b, plan, stray, []int{0, 1})
			checkPlay(t, b, plan, stray, nil)
			checkMet(t, b, wishOf("|"), []int{stray})
			checkMet(t, b, wishOf("goal|pit"), []int{0, stray})
			checkMet(t, b, wishOf("goal|pit"), []int{stray, 0})
			if got, ok := impl.PlayBoard(b, plan, stray, nil); ok == !isAmong(stray, n) || !ok && len(got) != 0 {
				t.Errorf("PlayBoard of %+v from %d: %v %v", b, stray, got, ok)
			}
			for from := range n {
				other := slices.Clone(plan)
				other[from] = stray
				checkPlay(t, b, other, from, []int{0})
				checkPlay(t, b, other, from, nil)
				checkPlay(t, b, other, (from+1)%n, []int{3, 1, 4, 1, 5, 9, 2, 6})
				checkPlay(t, b, plan, from, []int{stray})
				checkPlay(t, b, plan, from, []int{0, 1, stray})
				if got, ok := impl.PlayBoard(b, plan, from, []int{1, 0, 2, stray}); ok == (stray < 0) || !ok && len(got) != 0 {
					t.Errorf("PlayBoard of %+v from %d with %d: %v %v", b, from, stray, got, ok)
				}
			}
		}
		for _, many := range []int{0, 1, n - 1, n + 1, 1000} {
			if many != n {
				for _, theirs := range [][]int{nil, {0}} {
					if got, ok := impl.PlayBoard(b, make([]int, many), 0, theirs); ok || len(got) != 0 {
						t.Errorf("PlayBoard of %+v with a plan of %d: %v %v", b, many, got, ok)
					}
				}
			}
		}
	}
}

// mission is what all functions of boards are asked of at once.
type mission struct {
	b      impl.Board
	w      impl.Wish
	plan   []int
	from   int
	theirs []int
	path   []int
}

func (m mission) check(t *testing.T) {
	t.Helper()
	checkMatch(t, m.b, m.w)
	checkPlay(t, m.b, m.plan, m.from, m.theirs)
	checkMet(t, m.b, m.w, m.path)
}

func (m mission) clone() mission {
	return mission{cloneBoard(m.b), cloneWish(m.w), slices.Clone(m.plan), m.from, slices.Clone(m.theirs), slices.Clone(m.path)}
}

func (m mission) same(o mission) bool {
	return sameBoard(m.b, o.b) && sameWish(m.w, o.w) && slices.Equal(m.plan, o.plan) && slices.Equal(m.theirs, o.theirs) && slices.Equal(m.path, o.path)
}

func drawnMission(r *rand.Rand) mission {
	m := mission{b: drawnBoard(r, drawnBetween(r, 1, 14), []string{"goal", "pit", "both"}, drawnBetween(r, 1, 4)), w: wishOf([]string{"goal both|pit both", "|pit", "goal|"}[r.Intn(3)])}
	m.plan, _ = impl.Strategy(m.b, m.w)
	m.from, m.theirs = r.Intn(len(m.plan)), drawnTheirs(r, r.Intn(31))
	m.path, _ = impl.PlayBoard(m.b, m.plan, m.from, m.theirs)
	return m
}

func sameBool(a bool, b bool) bool { return a == b }

// What lies behind the lists counts for nothing and stays, as the lists do.
func TestWhatLiesBehindBoards(t *testing.T) {
	r := rand.New(rand.NewSource(385))
	for range 300 {
		w := drawnMission(r)
		switch r.Intn(8) {
		case 0:
			w.b.Names = w.b.Names[1:]
		case 1:
			w.b.Mine = w.b.Mine[1:]
		case 2:
			w.plan = w.plan[1:]
		}
		for _, more := range [][]int{{0, 1}, {-1, 3, math.MaxInt}, {13, 13, 0, 0}, {-1, -1, -1}} {
			names, mine := []string{"pit", "\xff", "goal"}, []bool{true, false, true}
			in := mission{impl.Board{Names: behind(w.b.Names, names...), Mine: behind(w.b.Mine, mine...)}, w.w, behind(w.plan, more...), w.from, behind(w.theirs, more...), behind(w.path, more...)}
			lists := [][]int{}
			for _, next := range w.b.Next {
				lists = append(lists, behind(next, more...))
			}
			in.b.Next = behind(lists, more, nil)
			in.check(t)
			ok := kept(in.b.Names, w.b.Names, sameText, names...) && kept(in.b.Mine, w.b.Mine, sameBool, mine...) && kept(in.plan, w.plan, sameNumber, more...) && kept(in.theirs, w.theirs, sameNumber, more...) && kept(in.path, w.path, sameNumber, more...)
			for i, next := range w.b.Next {
				ok = ok && kept(in.b.Next[i], next, sameNumber, more...)
			}
			if !ok || !kept(in.b.Next, w.b.Next, slices.Equal, more, nil) {
				t.Fatalf("a list was changed: %v, before %v", in, w)
			}
		}
	}
	// The place, the number of Next, of the plan, of theirs and of the path that would make it otherwise lie behind.
	b := boardOf("+>1 +goal>")
	checkNoBoard(t, impl.Board{Names: behind(b.Names[:1], "goal"), Mine: b.Mine, Next: b.Next})
	checkNoBoard(t, impl.Board{Names: b.Names, Mine: behind(b.Mine[:1], true), Next: b.Next})
	checkNoBoard(t, impl.Board{Names: b.Names, Mine: b.Mine, Next: behind(b.Next[:1], nil)})
	checkNoBoard(t, impl.Board{Names: behind([]string{}, ""), Mine: behind([]bool{}, true), Next: behind([][]int{}, nil)})
	short := impl.Board{Names: b.Names, Mine: b.Mine, Next: [][]int{behind([]int{}, 1), nil}}
	if got, ok := impl.WinningPlaces(short, wishOf("goal|")); !ok || !slices.Equal(got, []int{1}) {
		t.Errorf("WinningPlaces reads behind a list: %v %v", got, ok)
	}
	if got, ok := impl.PlayBoard(b, behind([]int{1}, -1), 0, nil); ok || len(got) != 0 {
		t.Errorf("PlayBoard reads behind a plan: %v %v", got, ok)
	}
	if got, ok := impl.PlayBoard(b, []int{1, -1}, 0, behind([]int{}, 0, -1)); !ok || !slices.Equal(got, []int{0}) {
		t.Errorf("PlayBoard reads behind theirs: %v %v", got, ok)
	}
	if met, ok := impl.WishMet(b, wishOf("goal|"), behind([]int{0}, 1)); !ok || met {
		t.Errorf("WishMet reads behind a path: %v %v", met, ok)
	}
	if met, ok := impl.WishMet(b, wishOf("goal|"), behind([]int{}, 1)); ok || met {
		t.Errorf("WishMet reads behind an empty path: %v %v", met, ok)
	}
}

// Whoever writes into an answer changes nothing else: no later answer, no argument.
func TestBoardAnswersAreNewMemory(t *testing.T) {
	r := rand.New(rand.NewSource(386))
	for range 500 {
		w := drawnMission(r)
		before := w.clone()
		for range 2 {
			places, ok := impl.WinningPlaces(w.b, w.w)
			spoil(places, -7)
			plan, good := impl.Strategy(w.b, w.w)
			spoil(plan, -7)
			run, fine := impl.PlayBoard(w.b, w.plan, w.from, w.theirs)
			spoil(run, -7)
			if !ok || !good || !fine || !w.same(before) {
				t.Fatalf("no answer, or an argument was changed: %v, before %v", w, before)
			}
			w.check(t)
		}
	}
}

// One list as Next, twice, as the plan, theirs and the path: told like any others.
func TestBoardArgumentsThatShareMemory(t *testing.T) {
	l := []int{0, 1}
	b := impl.Board{Names: []string{"", "goal"}, Mine: []bool{true, false}, Next: [][]int{l, l}}
	for _, from := range l {
		if got, ok := impl.PlayBoard(b, l, from, l); !ok || !slices.Equal(got, []int{from, 0, 0}) {
			t.Errorf("PlayBoard from %d: %v %v", from, got, ok)
		}
		checkPlay(t, b, l, from, l)
	}
	if met, ok := impl.WishMet(b, wishOf("goal|"), l); !ok || !met {
		t.Errorf("WishMet: %v %v", met, ok)
	}
	checkMatch(t, b, wishOf("goal|"))
	if !slices.Equal(l, []int{0, 1}) {
		t.Errorf("the list was changed: %v", l)
	}
}

// The same call has the same answer every time, many at once too.
func TestBoardsAreTheSameEveryTime(t *testing.T) {
	r := rand.New(rand.NewSource(387))
	w := drawnMission(r)
	for len(w.plan) < 10 || len(w.path) < 5 {
		w = drawnMission(r)
	}
	m := matchOf(w.b, w.w)
	wins, plan := m.winning(), m.plan()
	met, _ := exactMet(w.b, w.w, w.path)
	var all sync.WaitGroup
	for range 8 {
		all.Go(func() {
			for range 50 {
				places, ok := impl.WinningPlaces(w.b, w.w)
				choices, good := impl.Strategy(w.b, w.w)
				run, fine := impl.PlayBoard(w.b, w.plan, w.from, w.theirs)
				if !ok || !good || !fine || !slices.Equal(places, wins) || !slices.Equal(choices, plan) || !slices.Equal(run, w.path) {
					t.Error("another answer:", places, choices, run)
				}
				if got, ok := impl.WishMet(w.b, w.w, w.path); !ok || got != met || !impl.GoodBoard(w.b) {
					t.Error("another answer:", got, ok)
				}
			}
		})
	}
	all.Wait()
}

// missionOf cuts numbers into lists of so many, and takes names and sides by letters.
func missionOf(letters string, numbers []int, long int, plan []int, from int, theirs []int, path []int, w impl.Wish) mission {
	b := impl.Board{Next: slices.Collect(slices.Chunk(numbers, long))}
	for _, one := range []byte(letters) {
		b.Names = append(b.Names, []string{"", "goal", "pit", "both", "x1"}[int(one/2)%5])
		b.Mine = append(b.Mine, one%2 == 0)
	}
	return mission{b, w, plan, from, theirs, path}
}

// goodMission makes all numbers ones that may be met.
func goodMission(m mission) mission {
	n := max(1, min(len(m.b.Names), 14))
	m.b.Names, m.b.Mine = append(m.b.Names, "")[:n], append(m.b.Mine, true)[:n]
	m.b.Next = append(m.b.Next, make([][]int, n)...)[:n]
	for at, next := range m.b.Next {
		for i := range next {
			next[i] = leftOf(next[i], n)
		}
		slices.Sort(next)
		m.b.Next[at] = slices.Compact(next)
		if m.b.Names[at] == "x1" {
			m.b.Names[at] = "x"
		}
	}
	m.plan = append(m.plan, make([]int, n)...)[:n]
	for at, next := range m.b.Next {
		if len(next) > 0 {
			m.plan[at] = next[leftOf(m.plan[at], len(next))]
		}
	}
	m.from, m.theirs = leftOf(m.from, n), m.theirs[:min(30, len(m.theirs))]
	for i := range m.theirs {
		m.theirs[i] &= math.MaxInt
	}
	return m
}

// FuzzBoards asks every function of any numbers.
func FuzzBoards(f *testing.F) {
	f.Add("\x00\x04\x02\x01", "\x01\x02\x03\x01\x02\x03\x00\x01", 3, "\x01\xff\xff\xff", 0, "\x00\x01\x02", "\x00\x01", 0)
	f.Add("\x00", "\x00", 1, "\x00", 0, "\x00\x00\x00", "\x00\x00", 1)
	f.Add("", "", 1, "", -1, "\xff", "", 2)
	f.Add("\x01\x02\x04\x06\x08", "\x00\x01\x7f\x80\x02\x03\x04", 2, "\x7f\x80\x01\x00\x02", math.MaxInt, "\x7f\x7f\x05", "\x7f\x80", 3)
	f.Fuzz(func(t *testing.T, letters string, numbers string, long int, plan string, from int, theirs string, path string, wish int) {
		w := wishOf([]string{"goal both|pit both", "|pit", "goal|", "|", "goal goal|", "x both|goal pit"}[leftOf(wish, 6)])
		m := missionOf(letters, farNumbers(numbers), 1+leftOf(long-1, 15), farNumbers(plan), from, farNumbers(theirs), farNumbers(path), w)
		before := m.clone()
		m.check(t)
		if !m.same(before) {
			t.Fatalf("an argument was changed: %v, before %v", m, before)
		}
		// The same with numbers that may be met, so that good ones are met often.
		m = goodMission(m)
		if !impl.GoodBoard(m.b) {
			t.Fatalf("GoodBoard of %+v is false", m.b)
		}
		m.check(t)
		m.path = checkPlay(t, m.b, m.plan, m.from, m.theirs)
		m.check(t)
		if isWish(w) {
			checkPlanMeets(t, m.b, w, m.theirs)
		}
	})
}
