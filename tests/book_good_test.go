package tests

import (
	"math/rand"
	"slices"
	"testing"

	"loop.example/g00047/impl"
)

func TestGoodBooks(t *testing.T) {
	for _, c := range []struct {
		books string
		good  bool
	}{
		{"", true}, {"1/2/5/3", true}, {"0/0/1/0", true}, {"9/0/10000/9", true}, {"9/9999/10000/9", true},
		// Lane and Who.
		{"-1/2/5/3", false}, {"0/2/5/3", true}, {"9/2/5/3", true}, {"10/2/5/3", false}, {"1/2/5/-1", false}, {"1/2/5/0", true}, {"1/2/5/9", true}, {"1/2/5/10", false},
		// From and To.
		{"1/-1/5/3", false}, {"1/0/5/3", true}, {"1/-1/0/3", false}, {"1/5/5/3", false}, {"1/4/5/3", true}, {"1/6/5/3", false}, {"1/0/0/3", false}, {"1/10000/10000/3", false}, {"1/2/10000/3", true}, {"1/2/10001/3", false}, {"1/10000/10001/3", false}, {"1/0/10001/3", false},
		// Of one lane: From as the To ahead, one less and one more.
		{"1/2/5/3 1/5/8/3", true}, {"1/2/5/3 1/4/8/3", false}, {"1/2/5/3 1/6/8/3", true}, {"1/2/5/3 1/5/8/4", true}, {"1/2/5/3 1/4/8/4", false}, {"1/2/5/3 1/4/5/4", false}, {"1/2/5/3 1/3/4/4", false}, {"1/2/5/3 1/2/5/4", false}, {"1/2/5/3 1/2/6/4", false}, {"1/2/9/3 1/2/3/3", false},
		// The same one twice.
		{"1/2/5/3 1/2/5/3", false},
		// They rise: by From in one lane, and by Lane.
		{"1/5/8/3 1/2/5/3", false}, {"1/6/8/3 1/2/5/3", false}, {"1/2/5/3 0/6/8/3", false}, {"1/6/8/3 2/2/5/3", true}, {"2/2/5/3 1/6/8/3", false}, {"0/5/6/0 1/5/6/0 2/5/6/0", true}, {"0/5/6/0 2/5/6/0 1/5/6/0", false},
		// Of two lanes they may have ticks in common, and one robot may be on both.
		{"0/2/5/3 1/2/5/3", true}, {"0/2/5/3 1/3/4/3", true}, {"0/0/10000/0 1/0/10000/0", true},
		// Bookings of another lane between two of one.
		{"1/2/5/3 2/2/5/3 1/6/8/3", false}, {"1/2/5/3 2/2/5/3 1/4/8/3", false},
		// The third one has ticks in common with the first one alone: they don't rise, either.
		{"1/2/5/3 1/7/8/3 1/4/6/3", false}, {"1/2/9/3 1/9/10/3 1/10/11/3", true}, {"1/2/9/3 1/9/10/3 1/9/11/3", false},
	} {
		l := booksOf(c.books)
		if got := checkBooked(t, l); got != c.good {
			t.Errorf("GoodBooks of %q: %v", c.books, got)
		}
		if _, ok := checkFreed(t, l, 0, 0); ok != c.good {
			t.Errorf("FreeLane of %q: %v", c.books, ok)
		}
		if _, ok := impl.FirstFree(l, 5, 0, 1); ok != c.good {
			t.Errorf("FirstFree of %q: %v", c.books, ok)
		}
	}
}

// None up to 43 bookings, in one lane and in many, side by side and apart.
func TestNumbersOfBooks(t *testing.T) {
	for many := range 44 {
		for _, perLane := range []int{5, 10, 43} {
			for _, gap := range []int{0, 1, 100} {
				l := rowOfBooks(many, perLane, 0, 100, gap)
				if got := checkBooked(t, l); got != (many <= 40) {
					t.Errorf("GoodBooks of %d bookings: %v", many, got)
				}
				diary{l, bookedOf("9/9999/10000/9"), 0, 0, 1, 0, 0}.check(t)
			}
		}
	}
}

// All numbers of one booking a little beyond their limits.
func TestAllBooks(t *testing.T) {
	good, ticks := 0, []int{-1, 0, 1, 2, 5000, 9998, 9999, 10000, 10001}
	for lane := -2; lane <= manyLanes+1; lane++ {
		for who := -2; who <= manyOfFleet+1; who++ {
			for _, from := range ticks {
				for _, to := range ticks {
					b := impl.Booked{Lane: lane, From: from, To: to, Who: who}
					if checkBooked(t, []impl.Booked{b}) {
						good++
					}
					checkBook(t, nil, b)
				}
			}
		}
	}
	// Each two of the seven ticks in 0..10000, each of ten lanes and ten robots.
	if good != 21*100 {
		t.Error("good ones:", good)
	}
}

// All pairs of bookings of two lanes round the edges.
func TestAllPairsOfBooks(t *testing.T) {
	ticks := []int{-1, 0, 1, 2, 3, 9999, 10000, 10001}
	ones := []impl.Booked{}
	for lane := range 2 {
		for _, from := range ticks {
			for _, to := range ticks {
				ones = append(ones, impl.Booked{Lane: lane, From: from, To: to, Who: lane})
			}
		}
	}
	good := 0
	for _, a := range ones {
		for _, b := range ones {
			if checkBooked(t, []impl.Booked{a, b}) {
				good++
			}
			checkBook(t, []impl.Booked{a}, b)
		}
	}
	// Each two of the six ticks in 0..10000 in the lanes 0 and 1: 15 times 15. In one of both lanes: each four ticks, or each three of which the middle one is shared.
	if good != 225+2*(15+20) {
		t.Error("good ones:", good)
	}
}

// Drawn good ones, and such in which two change places, or one is another one.
func TestDrawnBooks(t *testing.T) {
	r := rand.New(rand.NewSource(481))
	full, spoilt := 0, 0
	for range 3000 {
		l := drawnDiary(r).l
		if !checkBooked(t, l) {
			t.Fatalf("GoodBooks of %v is false", l)
		}
		if len(l) == mostBooked {
			full++
		}
		if len(l) < 2 {
			continue
		}
		i, j := r.Intn(len(l)), r.Intn(len(l))
		changed := slices.Clone(l)
		changed[i], changed[j] = changed[j], changed[i]
		if checkBooked(t, changed) != (i == j) {
			t.Fatalf("GoodBooks of %v", changed)
		}
		one := slices.Clone(l)
		one[i] = drawnBooked(r, manyLanes, lastLaneTick)
		if !checkBooked(t, one) {
			spoilt++
		}
		checkBooked(t, slices.Insert(slices.Clone(l), j, l[i]))
	}
	if full < 10 || spoilt < 100 {
		t.Error("full ones, spoilt ones:", full, spoilt)
	}
}
