package tests

import (
	"math"
	"math/rand"
	"slices"
	"testing"

	"loop.example/g00047/impl"
)

func TestFirstFree(t *testing.T) {
	const two = "1/10/20/3 1/30/40/4 2/0/10000/5"
	for _, c := range []struct {
		books string
		lane  int
		from  int
		long  int
		at    int
		good  bool
	}{
		{"1/2/5/3", 1, 0, 3, 5, true}, {"1/2/5/3", 1, 0, 2, 0, true},
		// A lane without bookings, up to just 10000 and one tick beyond.
		{"", 0, 0, 1, 0, true}, {"", 9, 0, 10000, 0, true}, {"", 0, 1, 10000, 0, false}, {"", 0, 1, 9999, 1, true}, {"", 0, 9999, 1, 9999, true}, {"", 0, 9999, 2, 0, false}, {"", 0, 10000, 1, 0, false}, {"", 0, 5000, 5000, 5000, true}, {"", 0, 5000, 5001, 0, false}, {"", 0, 5001, 5000, 0, false},
		{two, 0, 0, 10000, 0, true}, {two, 3, 7, 9993, 7, true}, {two, 3, 7, 9994, 0, false},
		// A gap just long enough, and one tick too short.
		{two, 1, 0, 10, 0, true}, {two, 1, 0, 11, 40, true}, {two, 1, 5, 5, 5, true}, {two, 1, 5, 6, 20, true}, {two, 1, 1, 10, 20, true}, {two, 1, 20, 10, 20, true}, {two, 1, 20, 11, 40, true}, {two, 1, 21, 9, 21, true}, {two, 1, 21, 10, 40, true},
		// From within a booking, at its From and at its To.
		{two, 1, 10, 10, 20, true}, {two, 1, 10, 1, 20, true}, {two, 1, 15, 10, 20, true}, {two, 1, 15, 11, 40, true}, {two, 1, 19, 1, 20, true}, {two, 1, 9, 1, 9, true}, {two, 1, 9, 2, 20, true}, {two, 1, 30, 1, 40, true}, {two, 1, 29, 1, 29, true}, {two, 1, 39, 1, 40, true}, {two, 1, 40, 1, 40, true}, {two, 1, 41, 1, 41, true},
		// Behind the last one.
		{two, 1, 0, 9960, 40, true}, {two, 1, 0, 9961, 0, false}, {two, 1, 41, 9960, 0, false}, {two, 1, 41, 9959, 41, true}, {two, 1, 9999, 1, 9999, true}, {two, 1, 10000, 1, 0, false},
		// None at all.
		{two, 2, 0, 1, 0, false}, {two, 2, 10000, 1, 0, false}, {two, 2, 5000, 1, 0, false}, {"0/1/10000/0", 0, 0, 1, 0, true}, {"0/1/10000/0", 0, 0, 2, 0, false}, {"0/1/10000/0", 0, 1, 1, 0, false}, {"0/0/9999/0", 0, 0, 1, 9999, true}, {"0/0/9999/0", 0, 0, 2, 0, false},
		// Bookings that touch leave no gap.
		{"0/0/5/0 0/5/9/1 0/9/12/2 0/13/20/3", 0, 0, 1, 12, true}, {"0/0/5/0 0/5/9/1 0/9/12/2 0/13/20/3", 0, 0, 2, 20, true}, {"0/0/5/0 0/5/9/1 0/9/12/2 0/13/20/3", 0, 13, 1, 20, true},
		// Others' gaps don't count.
		{"0/5/9000/0 1/0/10/0 1/11/20/0", 1, 0, 2, 20, true}, {"0/5/9000/0 1/0/10/0 1/11/20/0", 1, 0, 1, 10, true},
		// Not as said.
		{"", -1, 0, 1, 0, false}, {"", 10, 0, 1, 0, false}, {"", 0, -1, 1, 0, false}, {"", 0, 10001, 1, 0, false}, {"", 0, 0, 0, 0, false}, {"", 0, 0, -1, 0, false}, {"", 0, 0, 10001, 0, false}, {"", 0, 5, 0, 0, false}, {"", 0, 5, -1, 0, false}, {two, 1, 5, 0, 0, false}, {two, 1, -1, 1, 0, false}, {two, -1, 5, 1, 0, false}, {two, 10, 5, 1, 0, false},
		{"1/10/10/3", 0, 5, 1, 0, false}, {"1/10/20/3 0/10/20/3", 5, 5, 1, 0, false}, {"1/10/20/3 1/19/30/3", 5, 5, 1, 0, false}, {"1/10/20/10", 5, 5, 1, 0, false},
	} {
		got, ok := checkFree(t, booksOf(c.books), c.lane, c.from, c.long)
		if got != c.at || ok != c.good {
			t.Errorf("FirstFree of %q, lane %d from %d, long %d: %d %v, want %d %v", c.books, c.lane, c.from, c.long, got, ok, c.at, c.good)
		}
	}
}

// The greatest lists: 40 bookings of a lane, with gaps that grow.
func TestFirstFreeOfFullLanes(t *testing.T) {
	l, at := []impl.Booked{}, 0
	for i := range mostBooked {
		l = append(l, impl.Booked{Lane: 4, From: at, To: at + 10, Who: i % manyOfFleet})
		at += 10 + i
	}
	last := l[mostBooked-1]
	for long := 1; long <= 45; long++ {
		for _, from := range []int{0, 5, 400, last.From - 1, last.From, last.To - 1, last.To, last.To + 1} {
			checkFree(t, l, 4, from, long)
		}
		// The gap behind the booking i has i ticks.
		want := last.To
		if long < mostBooked-1 {
			want = l[long].To
		}
		if got, ok := impl.FirstFree(l, 4, 0, long); got != want || !ok {
			t.Errorf("FirstFree for %d ticks: %d %v, want %d", long, got, ok, want)
		}
	}
	for _, long := range []int{lastLaneTick - last.To, lastLaneTick - last.To + 1} {
		if _, ok := checkFree(t, l, 4, 0, long); ok != (last.To+long <= lastLaneTick) {
			t.Errorf("FirstFree for %d ticks: %v", long, ok)
		}
	}
	if got, ok := checkFree(t, rowOfBooks(mostBooked, mostBooked, 0, 250, 0), 0, 0, 1); ok {
		t.Error("FirstFree of a lane that is booked up:", got)
	}
}

// All small bookings of two lanes, each tick to begin with and each length, just ahead of 10000 too.
func TestAllSmallFree(t *testing.T) {
	const most = 5
	for _, l := range smallBooks(3, 2, most, 1) {
		late := slices.Clone(l)
		for i := range late {
			late[i].From, late[i].To = late[i].From+lastLaneTick-most, late[i].To+lastLaneTick-most
		}
		for lane := range 2 {
			free := freeTicks(l, lane)
			lateFree := freeTicks(late, lane)
			for from := range most + 2 {
				for long := 1; long <= most+1; long++ {
					checkFound(t, l, free, lane, from, long)
					if from <= most {
						checkFound(t, late, lateFree, lane, from+lastLaneTick-most, long)
					}
				}
			}
		}
	}
}

// checkFound asks FirstFree of good arguments, where it is known for how many ticks the lane is free.
func checkFound(t *testing.T, l []impl.Booked, free []int, lane int, from int, long int) {
	t.Helper()
	want := slices.IndexFunc(free[from:], func(many int) bool { return many >= long })
	got, ok := impl.FirstFree(l, lane, from, long)
	if ok != (want >= 0) || ok && got != from+want || !ok && got != 0 {
		t.Fatalf("FirstFree of %v, lane %d from %d, long %d: %d %v, want %d", l, lane, from, long, got, ok, from+want)
	}
}

// Drawn ones; what is found can be booked, and nothing sooner.
func TestWhatIsFreeCanBeBooked(t *testing.T) {
	r := rand.New(rand.NewSource(485))
	found, none := 0, 0
	for range 2000 {
		d := drawnDiary(r)
		at, ok := checkFree(t, d.l, d.lane, d.from, d.long)
		if !ok {
			none++
			continue
		}
		found++
		if at < d.from || at+d.long > lastLaneTick {
			t.Fatalf("FirstFree of %+v: %d", d, at)
		}
		if len(d.l) == mostBooked {
			continue
		}
		if _, ok := checkBook(t, d.l, impl.Booked{Lane: d.lane, From: at, To: at + d.long}); !ok {
			t.Fatalf("FirstFree of %+v: %d, but it can't be booked", d, at)
		}
		for sooner := d.from; sooner < min(at, d.from+50); sooner++ {
			if l, ok := impl.BookLane(d.l, impl.Booked{Lane: d.lane, From: sooner, To: sooner + d.long}); ok {
				t.Fatalf("FirstFree of %+v: %d, but %v could be booked", d, at, l)
			}
		}
	}
	if found < 500 || none < 20 {
		t.Error("found, none:", found, none)
	}
}

func TestFreeLane(t *testing.T) {
	const all = "0/10/20/3 0/20/30/4 1/0/15/3 1/15/40/3 2/18/22/4 3/20/25/3"
	for _, c := range []struct {
		books string
		who   int
		at    int
		want  string
	}{
		// Ends at `at`, begins at it, begins ahead of it and ends behind it.
		{"0/10/20/3", 3, 20, "0/10/20/3"}, {"0/10/20/3", 3, 19, "0/10/19/3"}, {"0/10/20/3", 3, 21, "0/10/20/3"}, {"0/10/20/3", 3, 15, "0/10/15/3"}, {"0/10/20/3", 3, 11, "0/10/11/3"}, {"0/10/20/3", 3, 10, ""}, {"0/10/20/3", 3, 9, ""}, {"0/10/20/3", 3, 0, ""}, {"0/10/20/3", 3, -1, ""},
		// Another one's stays as it is.
		{"0/10/20/3", 4, 15, "0/10/20/3"}, {"0/10/20/3", 4, 0, "0/10/20/3"}, {"0/10/20/3", -1, 0, "0/10/20/3"}, {"0/10/20/3", 10, 0, "0/10/20/3"}, {"0/10/20/3", 13, 0, "0/10/20/3"},
		{all, 3, 20, "0/10/20/3 0/20/30/4 1/0/15/3 1/15/20/3 2/18/22/4"}, {all, 4, 20, "0/10/20/3 1/0/15/3 1/15/40/3 2/18/20/4 3/20/25/3"}, {all, 3, 15, "0/10/15/3 0/20/30/4 1/0/15/3 2/18/22/4"}, {all, 3, 40, all}, {all, 3, 39, "0/10/20/3 0/20/30/4 1/0/15/3 1/15/39/3 2/18/22/4 3/20/25/3"}, {all, 3, 0, "0/20/30/4 2/18/22/4"}, {all, 4, 0, "0/10/20/3 1/0/15/3 1/15/40/3 3/20/25/3"}, {all, 5, 0, all}, {all, 0, 0, all},
		{all, 3, 1, "0/20/30/4 1/0/1/3 2/18/22/4"},
		// From 0 and up to 10000.
		{"9/0/10000/9", 9, 0, ""}, {"9/0/10000/9", 9, 1, "9/0/1/9"}, {"9/0/10000/9", 9, 9999, "9/0/9999/9"}, {"9/0/10000/9", 9, 10000, "9/0/10000/9"}, {"9/0/10000/9", 9, 10001, "9/0/10000/9"}, {"9/9999/10000/0", 0, 9999, ""}, {"9/9999/10000/0", 0, 10000, "9/9999/10000/0"},
		// Any int.
		{all, 3, math.MaxInt, all}, {all, 3, math.MinInt, "0/20/30/4 2/18/22/4"}, {all, math.MaxInt, 20, all}, {all, math.MinInt, 20, all}, {all, math.MinInt, math.MinInt, all}, {all, math.MaxInt, math.MinInt, all},
		{"", 3, 20, ""}, {"", math.MinInt, math.MaxInt, ""},
	} {
		got, ok := checkFreed(t, booksOf(c.books), c.who, c.at)
		if !slices.Equal(got, booksOf(c.want)) || !ok {
			t.Errorf("FreeLane of %q, who %d at %d: %v %v, want %q", c.books, c.who, c.at, got, ok, c.want)
		}
	}
}

// All small bookings of two lanes and two robots, each robot and each tick.
func TestAllSmallFreed(t *testing.T) {
	const most = 4
	for _, l := range smallBooks(3, 2, most, 2) {
		for who := -1; who <= 2; who++ {
			for at := -1; at <= most+1; at++ {
				got, ok := checkFreed(t, l, who, at)
				if !ok || !areBooks(got) {
					t.Fatalf("FreeLane of %v, who %d at %d: %v %v", l, who, at, got, ok)
				}
			}
		}
	}
}

// Drawn ones: what is left is good, has nothing of who from `at` on, and all that others had.
func TestWhatIsGivenBack(t *testing.T) {
	r := rand.New(rand.NewSource(486))
	cut, gone := 0, 0
	for range 5000 {
		d := drawnDiary(r)
		got, ok := checkFreed(t, d.l, d.who, d.at)
		if !ok || !areBooks(got) {
			t.Fatalf("FreeLane of %+v: %v %v", d, got, ok)
		}
		for _, b := range got {
			if b.Who == d.who && b.To > d.at {
				t.Fatalf("FreeLane of %+v: %v", d, got)
			}
			if !slices.Contains(d.l, b) {
				cut++
			}
		}
		for _, b := range d.l {
			if b.Who != d.who && !slices.Contains(got, b) {
				t.Fatalf("FreeLane of %+v: %v", d, got)
			}
		}
		gone += len(d.l) - len(got)
		// What was given back once is not given back again.
		if again, ok := impl.FreeLane(got, d.who, d.at); !ok || !slices.Equal(again, got) {
			t.Fatalf("FreeLane of %v: %v %v", got, again, ok)
		}
	}
	if cut < 500 || gone < 500 {
		t.Error("cut, gone:", cut, gone)
	}
}

// The greatest list, all of one robot or of ten.
func TestFreeFullBooks(t *testing.T) {
	for _, l := range [][]impl.Booked{rowOfBooks(mostBooked, 4, 0, 100, 0), rowOfBooks(mostBooked, mostBooked, 0, 250, 0)} {
		one := slices.Clone(l)
		for i := range one {
			one[i].Who = 9
		}
		for _, books := range [][]impl.Booked{l, one} {
			for at := range 52 {
				for who := range manyOfFleet {
					checkFreed(t, books, who, at*200)
					checkFreed(t, books, who, at*10)
				}
			}
		}
		if got, ok := impl.FreeLane(one, 9, 0); len(got) != 0 || !ok {
			t.Error(got, ok)
		}
	}
	if got, ok := checkFreed(t, rowOfBooks(mostBooked+1, 5, 0, 100, 0), 3, 0); ok {
		t.Error("FreeLane of 41 bookings:", got)
	}
}
