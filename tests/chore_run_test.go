package tests

import (
	"math/rand"
	"slices"
	"testing"

	"loop.example/g00047/impl"
)

// account is one run as it is to be: its slices, and the longest times.
type account struct{ slices, longest string }

func (w account) played() played { return played{slicesOf(w.slices), listOf(w.longest)} }

func TestChoreRuns(t *testing.T) {
	for _, c := range []struct {
		chores, first  string
		until          int
		ranked, urgent account
	}{
		// One chore: Period 1, Need 1, until 0, and a little more. Jobs side by side are one slice.
		{"1/1/1", "0", 0, account{"", "0"}, account{"", "0"}}, {"1/1/1", "0", 1, account{"0-1:0", "1"}, account{"0-1:0", "1"}}, {"1/1/1", "0", 5, account{"0-5:0", "1"}, account{"0-5:0", "1"}}, {"1/1/1", "3", 3, account{"", "0"}, account{"", "0"}}, {"1/1/1", "3", 5, account{"3-5:0", "1"}, account{"3-5:0", "1"}},
		// A tick that nobody needs ends a slice.
		{"3/1/3", "1", 8, account{"1-2:0 4-5:0 7-8:0", "1"}, account{"1-2:0 4-5:0 7-8:0", "1"}}, {"3/2/3", "0", 7, account{"0-2:0 3-5:0 6-7:0", "2"}, account{"0-2:0 3-5:0 6-7:0", "2"}},
		// A job that ends by until counts, one that ends a tick behind it does not.
		{"2/2/2", "3", 4, account{"3-4:0", "0"}, account{"3-4:0", "0"}}, {"2/2/2", "3", 5, account{"3-5:0", "2"}, account{"3-5:0", "2"}}, {"2/2/2", "3", 6, account{"3-6:0", "2"}, account{"3-6:0", "2"}}, {"9/5/9", "0", 4, account{"0-4:0", "0"}, account{"0-4:0", "0"}}, {"9/5/9", "0", 5, account{"0-5:0", "5"}, account{"0-5:0", "5"}},
		{"4/1/4 6/2/6 12/4/12", "0 0 0", 12, account{"0-1:0 1-3:1 3-4:2 4-5:0 5-6:2 6-8:1 8-9:0 9-11:2", "1 3 11"}, account{"0-1:0 1-3:1 3-4:2 4-5:0 5-6:2 6-8:1 8-9:0 9-11:2", "1 3 11"}},
		{"4/1/4 6/2/6 12/4/12", "0 0 0", 10, account{"0-1:0 1-3:1 3-4:2 4-5:0 5-6:2 6-8:1 8-9:0 9-10:2", "1 3 0"}, account{"0-1:0 1-3:1 3-4:2 4-5:0 5-6:2 6-8:1 8-9:0 9-10:2", "1 3 0"}},
		// The first one ranks highest, the second one is late sooner: three jobs of it wait there, and are one slice.
		{"10/5/10 3/1/2", "0 1", 9, account{"0-5:0 5-8:1", "5 5"}, account{"0-1:0 1-2:1 2-4:0 4-5:1 5-7:0 7-8:1", "7 1"}},
		// Nothing is left for the second one by rank.
		{"2/2/2 3/1/3", "0 0", 6, account{"0-6:0", "2 0"}, account{"0-2:0 2-3:1 3-6:0", "3 3"}},
		// Late at the same time: the chore that stands first, at 0 and at 5.
		{"3/1/3 2/2/2", "0 0", 6, account{"0-1:0 1-3:1 3-4:0 4-6:1", "1 4"}, account{"0-2:1 2-3:0 3-5:1 5-6:0", "3 3"}},
		{"5/1/3 5/1/3", "0 0", 5, account{"0-1:0 1-2:1", "1 2"}, account{"0-1:0 1-2:1", "1 2"}}, {"5/1/2 5/1/3", "1 0", 5, account{"0-1:1 1-2:0", "1 1"}, account{"0-1:1 1-2:0", "1 1"}}, {"9/2/3 9/2/4", "1 0", 9, account{"0-1:1 1-3:0 3-4:1", "2 4"}, account{"0-1:1 1-3:0 3-4:1", "2 4"}}, {"9/2/4 9/2/3", "0 1", 9, account{"0-2:0 2-4:1", "2 3"}, account{"0-2:0 2-4:1", "2 3"}},
		// What is late counts, not how long the Due is: the second one came later, so it waits.
		{"9/3/6 9/1/4", "0 2", 9, account{"0-3:0 3-4:1", "3 2"}, account{"0-3:0 3-4:1", "3 2"}}, {"9/3/6 9/1/3", "0 2", 9, account{"0-3:0 3-4:1", "3 2"}, account{"0-2:0 2-3:1 3-4:0", "4 1"}},
		// A chore that is late: its job that came first is done first.
		{"2/1/2 3/2/2", "0 0", 8, account{"0-1:0 1-2:1 2-3:0 3-4:1 4-5:0 5-6:1 6-7:0 7-8:1", "1 5"}, account{"0-1:0 1-3:1 3-4:0 4-6:1 6-8:0", "3 3"}},
		{"2/1/2 3/2/2", "0 0", 7, account{"0-1:0 1-2:1 2-3:0 3-4:1 4-5:0 5-6:1 6-7:0", "1 4"}, account{"0-1:0 1-3:1 3-4:0 4-6:1 6-7:0", "3 3"}},
		// They begin late, one with the greatest first time.
		{"60/1/60", "60", 60, account{"", "0"}, account{"", "0"}}, {"60/1/60", "60", 61, account{"60-61:0", "1"}, account{"60-61:0", "1"}}, {"60/60/60", "60", 2000, account{"60-2000:0", "60"}, account{"60-2000:0", "60"}}, {"60/60/60 60/1/60", "60 0", 182, account{"0-1:1 60-182:0", "60 1"}, account{"0-1:1 60-120:0 120-121:1 121-181:0 181-182:1", "61 62"}},
	} {
		s := shiftOf(c.chores, c.first, c.until)
		ranked, urgent := s.check(t)
		if !ranked.same(c.ranked.played()) {
			t.Errorf("RunRanked of %+v: %+v, want %+v", s, ranked, c.ranked)
		}
		if !urgent.same(c.urgent.played()) {
			t.Errorf("RunUrgent of %+v: %+v, want %+v", s, urgent, c.urgent)
		}
	}
}

// All lists of up to three chores of Periods up to 3, whenever they begin, up to each of a few ticks.
func TestAllShortChoreRuns(t *testing.T) {
	for _, l := range choreLists(3, 3) {
		for _, first := range beginnings(len(l), 3) {
			for _, until := range []int{1, 4, 13} {
				shift{l, first, until}.check(t)
			}
		}
	}
	for _, l := range choreLists(2, 4) {
		for _, first := range beginnings(len(l), 5) {
			for until := range 11 {
				shift{l, first, until}.check(t)
			}
		}
	}
}

// Drawn chores up to every limit; the longest times are those that the slices tell.
func TestDrawnChoreRuns(t *testing.T) {
	r := rand.New(rand.NewSource(446))
	seen := map[string]int{}
	for range 4000 {
		s := drawnShift(r)
		ranked, urgent := s.check(t)
		for _, p := range []played{ranked, urgent} {
			for who, ends := range s.ends(p.slices) {
				most := 0
				for k, end := range ends {
					most = max(most, end-s.first[who]-k*s.l[who].Period)
				}
				if most != p.longest[who] {
					t.Fatalf("a run of %+v: %+v, but %d by its slices", s, p, most)
				}
			}
			if s.onTime(p.slices) {
				seen["on time"]++
			} else {
				seen["late"]++
			}
		}
		if !slices.Equal(ranked.slices, urgent.slices) {
			seen["unlike"]++
		}
	}
	if seen["on time"] < 500 || seen["late"] < 500 || seen["unlike"] < 500 {
		t.Error(seen)
	}
}

// cutAt is what of the slices lies ahead of a tick.
func cutAt(l []impl.Slice, until int) []impl.Slice {
	all := []impl.Slice{}
	for _, one := range l {
		if one.From < until {
			all = append(all, impl.Slice{From: one.From, To: min(one.To, until), Who: one.Who})
		}
	}
	return all
}

// More ticks go on from where fewer ended; each tick that somebody needs is somebody's.
func TestChoreRunsGoOn(t *testing.T) {
	r := rand.New(rand.NewSource(447))
	for range 60 {
		s := drawnShift(r)
		s.until = lastPlayed
		ranked, urgent := s.check(t)
		before := [2]played{{longest: make([]int, len(s.l))}, {longest: make([]int, len(s.l))}}
		for s.until = range 150 {
			one, two := s.check(t)
			if !slices.Equal(one.slices, cutAt(ranked.slices, s.until)) || !slices.Equal(two.slices, cutAt(urgent.slices, s.until)) {
				t.Fatalf("runs of %+v: %+v and %+v, in the end %+v and %+v", s, one, two, ranked, urgent)
			}
			for who := range s.l {
				if one.longest[who] < before[0].longest[who] || two.longest[who] < before[1].longest[who] {
					t.Fatalf("runs of %+v: %+v and %+v, a tick sooner %+v", s, one, two, before)
				}
			}
			before = [2]played{one, two}
		}
		if workOf(ranked.slices) != workOf(urgent.slices) {
			t.Fatalf("runs of %+v work for %d and for %d ticks", s, workOf(ranked.slices), workOf(urgent.slices))
		}
	}
}

// workOf is how many ticks were needed.
func workOf(l []impl.Slice) int {
	sum := 0
	for _, one := range l {
		sum += one.To - one.From
	}
	return sum
}

// The greatest numbers of everything, at their limits and one beyond.
func TestTheLongestChoreRuns(t *testing.T) {
	for _, c := range []impl.Chore{{Period: 60, Need: 10, Due: 60}, {Period: 60, Need: 60, Due: 60}, {Period: 60, Need: 1, Due: 1}, {Period: 1, Need: 1, Due: 1}} {
		for _, many := range []int{1, 5, 6, 7} {
			for _, first := range []int{-1, 0, 1, 59, 60, 61} {
				for _, until := range []int{-1, 0, 1, 1999, 2000, 2001} {
					shift{slices.Repeat([]impl.Chore{c}, many), slices.Repeat([]int{first}, many), until}.check(t)
				}
			}
		}
	}
	s := shift{slices.Repeat([]impl.Chore{{Period: 60, Need: 10, Due: 60}}, 6), make([]int, 6), 2000}
	ranked, urgent := s.check(t)
	for _, p := range []played{ranked, urgent} {
		if len(p.slices) != 200 || p.slices[199] != (impl.Slice{From: 1990, To: 2000, Who: 1}) || !slices.Equal(p.longest, []int{10, 20, 30, 40, 50, 60}) {
			t.Errorf("a run of %+v: %+v", s, p)
		}
	}
	// The third chore gets the last tick of each Period: its first job takes as many Periods as it needs ticks.
	for _, c := range []struct{ need, until, longest int }{{33, 2000, 1980}, {33, 1980, 1980}, {33, 1979, 0}, {34, 2000, 0}, {1, 2000, 60}} {
		s := shiftOf("60/58/60 60/1/60 60/1/60", "0 0 0", c.until)
		s.l[2].Need = c.need
		if ranked, _ := s.check(t); !slices.Equal(ranked.longest, []int{58, 59, c.longest}) {
			t.Errorf("a run of %+v: %+v", s, ranked)
		}
	}
}
