package tests

import (
	"cmp"
	"math/big"
	"math/rand"
	"slices"
	"strings"
	"testing"

	"loop.example/g00047/impl"
)

const (
	mostChores    = 6
	longestPeriod = 60
	lastPlayed    = 2000
	longestCycle  = 1000000
	lastAsked     = 1000000
)

// choresOf has spaces between the chores: 6/2/5 has the Period 6, the Need 2 and the Due 5.
func choresOf(s string) []impl.Chore {
	l := []impl.Chore{}
	for _, one := range strings.Fields(s) {
		n := listOf(strings.ReplaceAll(one, "/", " "))
		l = append(l, impl.Chore{Period: n[0], Need: n[1], Due: n[2]})
	}
	return l
}

// slicesOf has spaces between the slices: 3-5:1 goes from 3 to 5, of the second chore.
func slicesOf(s string) []impl.Slice {
	l := []impl.Slice{}
	for _, one := range strings.Fields(s) {
		n := listOf(strings.NewReplacer("-", " ", ":", " ").Replace(one))
		l = append(l, impl.Slice{From: n[0], To: n[1], Who: n[2]})
	}
	return l
}

func isChore(c impl.Chore) bool {
	return isAmong(c.Period-1, longestPeriod) && isAmong(c.Need-1, c.Period) && c.Need <= c.Due && c.Due <= c.Period
}

// areChores says by the test's own word whether l is good.
func areChores(l []impl.Chore) bool {
	bad := slices.ContainsFunc(l, func(c impl.Chore) bool { return !isChore(c) })
	return !bad && isAmong(len(l)-1, mostChores)
}

// checkChores asks GoodChores of anything.
func checkChores(t *testing.T, l []impl.Chore) bool {
	t.Helper()
	got := impl.GoodChores(l)
	if got != areChores(l) {
		t.Fatalf("GoodChores of %v: %v", l, got)
	}
	return got
}

func exactLoad(l []impl.Chore) *big.Rat {
	sum := new(big.Rat)
	for _, c := range l {
		sum.Add(sum, big.NewRat(int64(c.Need), int64(c.Period)))
	}
	return sum
}

// checkLoad asks LoadOf of anything.
func checkLoad(t *testing.T, l []impl.Chore) string {
	t.Helper()
	want, good := "", areChores(l)
	if good {
		want = exactLoad(l).RatString()
	}
	got, ok := impl.LoadOf(l)
	if got != want || ok != good {
		t.Fatalf("LoadOf of %v: %q %v, want %q %v", l, got, ok, want, good)
	}
	return got
}

// exactCycle goes through the multiples of the longest Period.
func exactCycle(l []impl.Chore) (int, bool) {
	if !areChores(l) {
		return 0, false
	}
	longest := slices.MaxFunc(l, func(a impl.Chore, b impl.Chore) int { return a.Period - b.Period }).Period
	for cycle := longest; cycle <= longestCycle; cycle += longest {
		if !slices.ContainsFunc(l, func(c impl.Chore) bool { return cycle%c.Period != 0 }) {
			return cycle, true
		}
	}
	return 0, false
}

// checkCycle asks CycleOf of anything.
func checkCycle(t *testing.T, l []impl.Chore) (int, bool) {
	t.Helper()
	got, ok := impl.CycleOf(l)
	if want, good := exactCycle(l); got != want || ok != good {
		t.Fatalf("CycleOf of %v: %d %v, want %d %v", l, got, ok, want, good)
	}
	return got, ok
}

// cameBefore counts the jobs that have come ahead of a time, one by one.
func cameBefore(c impl.Chore, time int) int {
	many := 0
	for came := 0; came < time; came += c.Period {
		many++
	}
	return many
}

// exactAnswers looks for the first time that will do, from Need on, one by one.
func exactAnswers(l []impl.Chore) ([]int, bool) {
	if !areChores(l) {
		return nil, false
	}
	times := []int{}
	for i, c := range l {
		found := -1
		for r := c.Need; r <= c.Due && found < 0; r++ {
			sum := c.Need
			for _, ahead := range l[:i] {
				sum += ahead.Need * cameBefore(ahead, r)
			}
			if sum == r {
				found = r
			}
		}
		times = append(times, found)
	}
	return times, true
}

// checkAnswers asks AnswerTimes of anything.
func checkAnswers(t *testing.T, l []impl.Chore) []int {
	t.Helper()
	got, ok := impl.AnswerTimes(l)
	if want, good := exactAnswers(l); !slices.Equal(got, want) || ok != good {
		t.Fatalf("AnswerTimes of %v: %v %v, want %v %v", l, got, ok, want, good)
	}
	return got
}

// exactDemand goes from job to job, as long as they are due by then.
func exactDemand(l []impl.Chore, at int) (int, bool) {
	if !areChores(l) || !isAmong(at, lastAsked+1) {
		return 0, false
	}
	sum := 0
	for _, c := range l {
		for due := c.Due; due <= at; due += c.Period {
			sum += c.Need
		}
	}
	return sum, true
}

// checkDemand asks DemandAt of anything.
func checkDemand(t *testing.T, l []impl.Chore, at int) int {
	t.Helper()
	got, ok := impl.DemandAt(l, at)
	if want, good := exactDemand(l, at); got != want || ok != good {
		t.Fatalf("DemandAt of %v at %d: %d %v, want %d %v", l, at, got, ok, want, good)
	}
	return got
}

// aboveAt are the times up to the cycle's end, and the greatest Due behind it, at which more is due than there was time for. All that is due is laid down at its time first.
func aboveAt(l []impl.Chore, cycle int) []int {
	last := cycle + slices.MaxFunc(l, func(a impl.Chore, b impl.Chore) int { return a.Due - b.Due }).Due
	due := make([]int, last+1)
	for _, c := range l {
		for at := c.Due; at <= last; at += c.Period {
			due[at] += c.Need
		}
	}
	above, sum := []int{}, 0
	for at, more := range due {
		if sum += more; sum > at {
			above = append(above, at)
		}
	}
	return above
}

// checkNever asks NeverLate of anything.
func checkNever(t *testing.T, l []impl.Chore) (bool, bool) {
	t.Helper()
	cycle, good := exactCycle(l)
	want := good && exactLoad(l).Cmp(big.NewRat(1, 1)) <= 0 && len(aboveAt(l, cycle)) == 0
	got, ok := impl.NeverLate(l)
	if got != want || ok != good {
		t.Fatalf("NeverLate of %v: %v %v, want %v %v", l, got, ok, want, good)
	}
	return got, ok
}

// shift is what RunRanked and RunUrgent are asked of.
type shift struct {
	l     []impl.Chore
	first []int
	until int
}

// shiftOf has spaces between the chores, and between the times at which they begin.
func shiftOf(chores string, first string, until int) shift {
	return shift{choresOf(chores), listOf(first), until}
}

func (s shift) good() bool {
	bad := slices.ContainsFunc(s.first, func(n int) bool { return !isAmong(n, longestPeriod+1) })
	return areChores(s.l) && !bad && len(s.first) == len(s.l) && isAmong(s.until, lastPlayed+1)
}

func (s shift) clone() shift {
	return shift{slices.Clone(s.l), slices.Clone(s.first), s.until}
}

func (s shift) same(o shift) bool {
	return slices.Equal(s.l, o.l) && slices.Equal(s.first, o.first) && s.until == o.until
}

// labour is one job, as long as it is not done.
type labour struct {
	who  int
	came int
	late int
	left int
}

func byRank(a *labour, b *labour) int { return cmp.Or(a.who-b.who, a.came-b.came) }
func byLate(a *labour, b *labour) int { return cmp.Or(a.late-b.late, a.who-b.who, a.came-b.came) }

// exact has every job by itself, laid down when it comes and taken away when it is done, and slices only of who got which tick, in the end.
func (s shift) exact(order func(*labour, *labour) int) ([]impl.Slice, []int, bool) {
	if !s.good() {
		return nil, nil, false
	}
	waiting, turns, longest := []*labour{}, []int{}, make([]int, len(s.l))
	for tick := range s.until {
		for who, c := range s.l {
			if since := tick - s.first[who]; since >= 0 && since%c.Period == 0 {
				waiting = append(waiting, &labour{who, tick, tick + c.Due, c.Need})
			}
		}
		if len(waiting) == 0 {
			turns = append(turns, -1)
			continue
		}
		one := slices.MinFunc(waiting, order)
		turns = append(turns, one.who)
		if one.left--; one.left == 0 {
			longest[one.who] = max(longest[one.who], tick+1-one.came)
			waiting = slices.DeleteFunc(waiting, func(o *labour) bool { return o == one })
		}
	}
	return gathered(turns), longest, true
}

// gathered lays together ticks of the same chore that stand side by side; -1 is nobody's.
func gathered(turns []int) []impl.Slice {
	all := []impl.Slice{}
	for from := 0; from < len(turns); {
		to := from
		for to < len(turns) && turns[to] == turns[from] {
			to++
		}
		if turns[from] >= 0 {
			all = append(all, impl.Slice{From: from, To: to, Who: turns[from]})
		}
		from = to
	}
	return all
}

// played is what a run tells.
type played struct {
	slices  []impl.Slice
	longest []int
}

func (p played) same(o played) bool {
	return slices.Equal(p.slices, o.slices) && slices.Equal(p.longest, o.longest)
}

// check asks RunRanked and RunUrgent of anything.
func (s shift) check(t *testing.T) (played, played) {
	t.Helper()
	both := []played{}
	for i, run := range []func([]impl.Chore, []int, int) ([]impl.Slice, []int, bool){impl.RunRanked, impl.RunUrgent} {
		got, longest, ok := run(s.l, s.first, s.until)
		all, most, good := s.exact([]func(*labour, *labour) int{byRank, byLate}[i])
		if ok != good || !slices.Equal(got, all) || !slices.Equal(longest, most) {
			t.Fatalf("%s of %+v: %v %v %v, want %v %v %v", []string{"RunRanked", "RunUrgent"}[i], s, got, longest, ok, all, most, good)
		}
		both = append(both, played{got, longest})
	}
	return both[0], both[1]
}

// ends are the times at which the jobs of each chore ended, as the slices alone tell it: each Need ticks of a chore are one job.
func (s shift) ends(l []impl.Slice) [][]int {
	ends, had := make([][]int, len(s.l)), make([]int, len(s.l))
	for _, one := range l {
		for tick := one.From; tick < one.To; tick++ {
			if had[one.Who]++; had[one.Who]%s.l[one.Who].Need == 0 {
				ends[one.Who] = append(ends[one.Who], tick+1)
			}
		}
	}
	return ends
}

// keeps says whether each job of a chore that had to end by until took no longer than most, going by the slices alone.
func (s shift) keeps(l []impl.Slice, who int, most int) bool {
	ends := s.ends(l)[who]
	for k := 0; s.first[who]+k*s.l[who].Period+most <= s.until; k++ {
		if k >= len(ends) || ends[k] > s.first[who]+k*s.l[who].Period+most {
			return false
		}
	}
	return true
}

// onTime says whether no job is late by until.
func (s shift) onTime(l []impl.Slice) bool {
	for who, c := range s.l {
		if !s.keeps(l, who, c.Due) {
			return false
		}
	}
	return true
}

// smallChores are all good chores of Periods up to most.
func smallChores(most int) []impl.Chore {
	l := []impl.Chore{}
	for period := 1; period <= most; period++ {
		for need := 1; need <= period; need++ {
			for due := need; due <= period; due++ {
				l = append(l, impl.Chore{Period: period, Need: need, Due: due})
			}
		}
	}
	return l
}

// choreLists are all lists of one up to many chores of Periods up to most.
func choreLists(many int, most int) [][]impl.Chore {
	return listsUpTo(many, smallChores(most)...)[1:]
}

// beginnings are all lists of many times, each below most.
func beginnings(many int, most int) [][]int {
	all := listsUpTo(many, countUp(0, most)...)
	return slices.DeleteFunc(all, func(l []int) bool { return len(l) != many })
}

// drawnChore needs about such a part of its Period at most.
func drawnChore(r *rand.Rand, period int, part int) impl.Chore {
	c := impl.Chore{Period: period, Need: 1 + r.Intn(max(1, period/part))}
	c.Due = drawnBetween(r, c.Need, c.Period)
	if r.Intn(2) == 0 {
		c.Due = drawnBetween(r, (c.Need+c.Period+1)/2, c.Period)
	}
	return c
}

// drawnChores are so many, of Periods up to most.
func drawnChores(r *rand.Rand, many int, most int) []impl.Chore {
	l, part := []impl.Chore{}, 1+r.Intn(many+2)
	for range many {
		l = append(l, drawnChore(r, 1+r.Intn(most), part))
	}
	return l
}

func drawnFirsts(r *rand.Rand, many int) []int {
	l, most := []int{}, []int{1, 4, longestPeriod + 1}[r.Intn(3)]
	for range many {
		l = append(l, r.Intn(most))
	}
	return l
}

func drawnShift(r *rand.Rand) shift {
	many := 1 + r.Intn(mostChores)
	until := r.Intn([]int{20, 200, lastPlayed + 1}[r.Intn(3)])
	return shift{drawnChores(r, many, []int{4, 12, longestPeriod}[r.Intn(3)]), drawnFirsts(r, many), until}
}
