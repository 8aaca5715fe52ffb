package tests

import (
	"cmp"
	"math/rand"
	"slices"
	"strings"
	"testing"

	"loop.example/g00047/impl"
)

const (
	mostBooked   = 40
	manyLanes    = 10
	manyOfFleet  = 10
	lastLaneTick = 10000
)

// bookedOf has the numbers in the order Lane, From, To, Who: 1/2/5/3.
func bookedOf(s string) impl.Booked {
	n := listOf(strings.ReplaceAll(s, "/", " "))
	return impl.Booked{Lane: n[0], From: n[1], To: n[2], Who: n[3]}
}

// booksOf has spaces between the bookings.
func booksOf(s string) []impl.Booked {
	l := []impl.Booked{}
	for _, one := range strings.Fields(s) {
		l = append(l, bookedOf(one))
	}
	return l
}

func isBooked(b impl.Booked) bool {
	return isAmong(b.Lane, manyLanes) && isAmong(b.Who, manyOfFleet) && b.From >= 0 && b.To <= lastLaneTick && b.From < b.To
}

// overlap says whether two have a tick of one lane in common.
func overlap(a impl.Booked, b impl.Booked) bool {
	return a.Lane == b.Lane && max(a.From, b.From) < min(a.To, b.To)
}

func byLane(a impl.Booked, b impl.Booked) int {
	return cmp.Or(cmp.Compare(a.Lane, b.Lane), cmp.Compare(a.From, b.From))
}

// areBooks says by the test's own word whether l is good: every two are held against each other.
func areBooks(l []impl.Booked) bool {
	if len(l) > mostBooked {
		return false
	}
	for i, b := range l {
		if !isBooked(b) {
			return false
		}
		for _, a := range l[:i] {
			if byLane(a, b) >= 0 || overlap(a, b) {
				return false
			}
		}
	}
	return true
}

// checkBooked asks GoodBooks of anything.
func checkBooked(t *testing.T, l []impl.Booked) bool {
	t.Helper()
	got := impl.GoodBooks(l)
	if got != areBooks(l) {
		t.Fatalf("GoodBooks of %v: %v", l, got)
	}
	return got
}

// exactBooked lays the booking behind all others and sorts them.
func exactBooked(l []impl.Booked, b impl.Booked) ([]impl.Booked, bool) {
	all := append(slices.Clone(l), b)
	slices.SortStableFunc(all, byLane)
	if !areBooks(l) || !areBooks(all) {
		return nil, false
	}
	return all, true
}

// checkBook asks BookLane of anything.
func checkBook(t *testing.T, l []impl.Booked, b impl.Booked) ([]impl.Booked, bool) {
	t.Helper()
	got, ok := impl.BookLane(l, b)
	if want, good := exactBooked(l, b); !slices.Equal(got, want) || ok != good {
		t.Fatalf("BookLane of %v, %v: %v %v, want %v %v", l, b, got, ok, want, good)
	}
	return got, ok
}

// freeTicks tells of each tick of a lane for how many ticks it is free from there on: 0 where it is not.
func freeTicks(l []impl.Booked, lane int) []int {
	taken, free := make([]bool, lastLaneTick), make([]int, lastLaneTick+1)
	for _, b := range l {
		if b.Lane == lane {
			for at := b.From; at < b.To; at++ {
				taken[at] = true
			}
		}
	}
	for at := lastLaneTick - 1; at >= 0; at-- {
		if !taken[at] {
			free[at] = free[at+1] + 1
		}
	}
	return free
}

// exactFree goes on tick by tick.
func exactFree(l []impl.Booked, lane int, from int, long int) (int, bool) {
	if !areBooks(l) || !isAmong(lane, manyLanes) || !isAmong(from, lastLaneTick+1) || !isAmong(long-1, lastLaneTick) {
		return 0, false
	}
	for at, many := range freeTicks(l, lane) {
		if at >= from && many >= long {
			return at, true
		}
	}
	return 0, false
}

// checkFree asks FirstFree of anything.
func checkFree(t *testing.T, l []impl.Booked, lane int, from int, long int) (int, bool) {
	t.Helper()
	got, ok := impl.FirstFree(l, lane, from, long)
	if want, good := exactFree(l, lane, from, long); got != want || ok != good {
		t.Fatalf("FirstFree of %v, lane %d from %d, long %d: %d %v, want %d %v", l, lane, from, long, got, ok, want, good)
	}
	return got, ok
}

// exactFreed takes away the ticks of who from the last one on, as far as they are not below at; what has no tick is none.
func exactFreed(l []impl.Booked, who int, at int) ([]impl.Booked, bool) {
	if !areBooks(l) {
		return nil, false
	}
	left := []impl.Booked{}
	for _, b := range l {
		for b.Who == who && b.From < b.To && b.To-1 >= at {
			b.To--
		}
		if b.From < b.To {
			left = append(left, b)
		}
	}
	return left, true
}

// checkFreed asks FreeLane of anything.
func checkFreed(t *testing.T, l []impl.Booked, who int, at int) ([]impl.Booked, bool) {
	t.Helper()
	got, ok := impl.FreeLane(l, who, at)
	if want, good := exactFreed(l, who, at); !slices.Equal(got, want) || ok != good {
		t.Fatalf("FreeLane of %v, who %d at %d: %v %v, want %v %v", l, who, at, got, ok, want, good)
	}
	return got, ok
}

// diary is what all functions that know bookings are asked of at once.
type diary struct {
	l    []impl.Booked
	b    impl.Booked
	lane int
	from int
	long int
	who  int
	at   int
}

func (d diary) check(t *testing.T) {
	t.Helper()
	checkBooked(t, d.l)
	checkBook(t, d.l, d.b)
	checkFree(t, d.l, d.lane, d.from, d.long)
	checkFreed(t, d.l, d.who, d.at)
}

func (d diary) clone() diary {
	d.l = slices.Clone(d.l)
	return d
}

func (d diary) same(o diary) bool {
	return slices.Equal(d.l, o.l) && d.b == o.b && d.lane == o.lane && d.from == o.from && d.long == o.long && d.who == o.who && d.at == o.at
}

// smallBooks are all good lists of up to many bookings of these lanes and these robots, with every To up to most.
func smallBooks(many int, lanes int, most int, robots int) [][]impl.Booked {
	ones := []impl.Booked{}
	for lane := range lanes {
		for from := range most {
			for to := from + 1; to <= most; to++ {
				for who := range robots {
					ones = append(ones, impl.Booked{Lane: lane, From: from, To: to, Who: who})
				}
			}
		}
	}
	return slices.DeleteFunc(listsUpTo(many, ones...), func(l []impl.Booked) bool { return !areBooks(l) })
}

// rowOfBooks has so many bookings, each long ticks, the first one at from, and gap ticks between two of a lane; there are perLane in each.
func rowOfBooks(many int, perLane int, from int, long int, gap int) []impl.Booked {
	l := []impl.Booked{}
	for i := range many {
		at := from + i%perLane*(long+gap)
		l = append(l, impl.Booked{Lane: i / perLane, From: at, To: at + long, Who: i % manyOfFleet})
	}
	return l
}

func drawnBooked(r *rand.Rand, lanes int, last int) impl.Booked {
	from, long := r.Intn(last), 1+r.Intn([]int{1, 3, 1 + last/20, last}[r.Intn(4)])
	return impl.Booked{Lane: r.Intn(lanes), From: from, To: min(last, from+long), Who: r.Intn(manyOfFleet)}
}

// drawnBooks are good ones of a few lanes, up to the tick last; tries is how often one more is laid in where it fits.
func drawnBooks(r *rand.Rand, lanes int, last int, tries int) []impl.Booked {
	l := []impl.Booked{}
	for range tries {
		if more, ok := exactBooked(l, drawnBooked(r, lanes, last)); ok {
			l = more
		}
	}
	return l
}

func drawnDiary(r *rand.Rand) diary {
	lanes, last := []int{1, 2, manyLanes}[r.Intn(3)], []int{12, 60, 400, lastLaneTick}[r.Intn(4)]
	d := diary{l: drawnBooks(r, lanes, last, r.Intn(100)), b: drawnBooked(r, lanes, last), lane: r.Intn(lanes), who: r.Intn(manyOfFleet), at: r.Intn(last + 1)}
	d.from, d.long = r.Intn(last+1), 1+r.Intn(1+r.Intn(last))
	if len(d.l) > 0 && r.Intn(2) == 0 {
		// Ticks at which a booking begins or ends.
		one := d.l[r.Intn(len(d.l))]
		d.at, d.who = []int{one.From, one.To, one.From + 1, one.To - 1}[r.Intn(4)], one.Who
		d.from = []int{one.From, one.To, max(0, one.From-1), one.To - 1}[r.Intn(4)]
	}
	return d
}
