package tests

import (
	"math/rand"
	"slices"
	"testing"

	"loop.example/g00047/impl"
)

// checkInTime: what AnswerTimes and NeverLate tell holds in this run. (What both runs are is asked elsewhere.)
func checkInTime(t *testing.T, s shift, times []int, never bool) {
	t.Helper()
	ranked, longest, ok := impl.RunRanked(s.l, s.first, s.until)
	if !ok {
		t.Fatalf("RunRanked has no answer: %+v", s)
	}
	for who, most := range times {
		if most >= 0 && (longest[who] > most || !s.keeps(ranked, who, most)) {
			t.Fatalf("RunRanked of %+v: %v %v, AnswerTimes %v", s, ranked, longest, times)
		}
	}
	if !never {
		return
	}
	urgent, longest, ok := impl.RunUrgent(s.l, s.first, s.until)
	if !ok || !s.onTime(urgent) {
		t.Fatalf("RunUrgent of %+v: %v %v %v, but NeverLate", s, urgent, longest, ok)
	}
	for who, c := range s.l {
		if longest[who] > c.Due {
			t.Fatalf("RunUrgent of %+v: %v, but NeverLate", s, longest)
		}
	}
}

// All lists of up to three chores of Periods up to 4, and of two up to 6, whenever they begin.
func TestWheneverTheyBegin(t *testing.T) {
	sure, never := 0, 0
	try := func(l []impl.Chore, most int) {
		times, is := checkAnswers(t, l), false
		if is, _ = impl.NeverLate(l); is {
			never++
		}
		if !slices.Contains(times, -1) {
			sure++
		}
		for _, first := range beginnings(len(l), most) {
			checkInTime(t, shift{l, first, 30}, times, is)
		}
	}
	for _, l := range choreLists(3, 4) {
		try(l, 4)
	}
	for _, l := range choreLists(2, 6) {
		try(l, 7)
	}
	if sure < 1000 || never <= sure {
		t.Error("sure by rank, and never late:", sure, never)
	}
}

// Drawn chores with which there is time for all, up to every limit.
func TestDrawnWheneverTheyBegin(t *testing.T) {
	r := rand.New(rand.NewSource(448))
	sure, never := 0, 0
	for range 3000 {
		many := 2 + r.Intn(mostChores-1)
		l := drawnChores(r, many, longestPeriod)
		if r.Intn(2) == 0 {
			// Those that are due soonest rank highest: so there is an answer more often.
			slices.SortFunc(l, func(a impl.Chore, b impl.Chore) int { return a.Due - b.Due })
		}
		times := checkAnswers(t, l)
		is, _ := impl.NeverLate(l)
		if is {
			never++
		}
		if !slices.Contains(times, -1) {
			sure++
		}
		for range 10 {
			checkInTime(t, shift{l, drawnFirsts(r, many), lastPlayed}, times, is)
		}
	}
	if sure < 200 || never < 200 {
		t.Error("sure by rank, and never late:", sure, never)
	}
}

// Where all begin at once the first job of each takes just its answer time, and is late where it has none.
func TestAnswerTimesAreMet(t *testing.T) {
	r := rand.New(rand.NewSource(449))
	lists := choreLists(3, 4)
	for range 3000 {
		lists = append(lists, drawnChores(r, 1+r.Intn(mostChores), longestPeriod))
	}
	for _, l := range lists {
		s := shift{l, make([]int, len(l)), longestPeriod}
		times := checkAnswers(t, l)
		ranked, _, _ := impl.RunRanked(s.l, s.first, s.until)
		for who, ends := range s.ends(ranked) {
			inTime := len(ends) > 0 && ends[0] <= l[who].Due
			if inTime != (times[who] >= 0) || inTime && ends[0] != times[who] {
				t.Fatalf("RunRanked of %+v: the jobs of %d end at %v, AnswerTimes %v", s, who, ends, times)
			}
		}
	}
}

// Where all begin at once RunUrgent is late by the first time at which more is due than there was time for, and not sooner.
func TestNeverLateIsMet(t *testing.T) {
	r := rand.New(rand.NewSource(450))
	lists := choreLists(3, 5)
	for range 3000 {
		lists = append(lists, drawnChores(r, 1+r.Intn(4), 12))
	}
	met := 0
	for _, l := range lists {
		never, ok := impl.NeverLate(l)
		cycle, _ := exactCycle(l)
		s := shift{l, make([]int, len(l)), min(lastPlayed, cycle+longestPeriod)}
		if !ok || cycle+longestPeriod > lastPlayed {
			continue
		}
		met++
		urgent, _, _ := impl.RunUrgent(s.l, s.first, s.until)
		if never != s.onTime(urgent) {
			t.Fatalf("NeverLate of %v: %v, but RunUrgent %v", l, never, urgent)
		}
		if above := aboveAt(l, cycle); len(above) > 0 {
			s.until = above[0]
			late := !s.onTime(cutAt(urgent, s.until))
			s.until--
			if !late || !s.onTime(cutAt(urgent, s.until)) {
				t.Fatalf("more is due by %v, but RunUrgent of %+v: %v", above, s, urgent)
			}
		}
	}
	if met < 30000 {
		t.Error("only so many:", met)
	}
}

// Where each has an answer by rank nobody is late by urgency either; the other way round it often is not so.
func TestWhoAnswersIsNeverLate(t *testing.T) {
	more := 0
	for _, l := range choreLists(3, 5) {
		times := checkAnswers(t, l)
		never, ok := impl.NeverLate(l)
		if !slices.Contains(times, -1) && (!never || !ok) {
			t.Fatalf("AnswerTimes of %v: %v, NeverLate %v", l, times, never)
		}
		if never && slices.Contains(times, -1) {
			more++
		}
	}
	if more < 1000 {
		t.Error("more:", more)
	}
}
