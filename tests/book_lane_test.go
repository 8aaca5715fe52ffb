package tests

import (
	"math/rand"
	"slices"
	"testing"

	"loop.example/g00047/impl"
)

func TestBookLane(t *testing.T) {
	const two = "1/10/20/3 1/30/40/4"
	for _, c := range []struct {
		books string
		one   string
		want  string
		good  bool
	}{
		{"", "1/2/5/3", "1/2/5/3", true}, {"", "9/0/10000/9", "9/0/10000/9", true}, {"", "0/0/1/0", "0/0/1/0", true},
		// Ahead of all, behind all and between two, with room, and just touching.
		{two, "1/0/5/5", "1/0/5/5 1/10/20/3 1/30/40/4", true}, {two, "1/0/10/5", "1/0/10/5 1/10/20/3 1/30/40/4", true}, {two, "1/50/60/5", "1/10/20/3 1/30/40/4 1/50/60/5", true}, {two, "1/40/10000/5", "1/10/20/3 1/30/40/4 1/40/10000/5", true},
		{two, "1/22/25/5", "1/10/20/3 1/22/25/5 1/30/40/4", true}, {two, "1/20/30/5", "1/10/20/3 1/20/30/5 1/30/40/4", true}, {two, "1/20/21/5", "1/10/20/3 1/20/21/5 1/30/40/4", true}, {two, "1/29/30/5", "1/10/20/3 1/29/30/5 1/30/40/4", true},
		// A tick in common with one of them, or with both.
		{two, "1/0/11/5", "", false}, {two, "1/19/30/5", "", false}, {two, "1/20/31/5", "", false}, {two, "1/39/50/5", "", false}, {two, "1/12/18/5", "", false}, {two, "1/5/50/5", "", false}, {two, "1/15/35/5", "", false}, {two, "1/10/11/5", "", false}, {two, "1/19/20/5", "", false}, {two, "1/10/20/5", "", false}, {two, "1/10/20/3", "", false}, {two, "1/9/21/5", "", false}, {two, "1/10/25/5", "", false}, {two, "1/30/35/3", "", false}, {two, "1/0/10000/3", "", false},
		// Of other lanes.
		{two, "0/10/20/3", "0/10/20/3 1/10/20/3 1/30/40/4", true}, {two, "2/10/20/3", "1/10/20/3 1/30/40/4 2/10/20/3", true}, {two, "0/9999/10000/3", "0/9999/10000/3 1/10/20/3 1/30/40/4", true}, {two, "9/0/1/0", "1/10/20/3 1/30/40/4 9/0/1/0", true}, {"0/5/6/0 2/5/6/0", "1/0/10000/0", "0/5/6/0 1/0/10000/0 2/5/6/0", true},
		// One that is not as said.
		{two, "-1/2/5/3", "", false}, {two, "10/2/5/3", "", false}, {two, "1/-1/5/3", "", false}, {two, "1/5/5/3", "", false}, {two, "1/6/5/3", "", false}, {two, "1/25/25/3", "", false}, {two, "1/9999/10001/3", "", false}, {two, "1/10000/10001/3", "", false}, {two, "1/10000/10000/3", "", false}, {two, "1/2/5/-1", "", false}, {two, "1/2/5/10", "", false}, {"", "0/0/0/0", "", false}, {"", "0/-1/0/0", "", false},
		// Bookings that are not good, though with it they rise.
		{"1/10/20/3 1/19/40/4", "1/2/5/3", "", false}, {"1/30/40/4 1/10/20/3", "1/20/30/3", "", false}, {"1/30/40/4 1/10/20/3", "2/20/30/3", "", false}, {"2/10/20/3 1/10/20/3", "1/20/30/3", "", false}, {"1/10/10/3", "2/2/5/3", "", false}, {"-1/10/20/3", "2/2/5/3", "", false}, {"1/10/20/10", "2/2/5/3", "", false}, {"1/10/10001/3", "2/2/5/3", "", false}, {"1/10/20/3 1/10/20/3", "2/2/5/3", "", false},
	} {
		got, ok := checkBook(t, booksOf(c.books), bookedOf(c.one))
		if !slices.Equal(got, booksOf(c.want)) || ok != c.good {
			t.Errorf("BookLane of %q, %q: %v %v, want %q %v", c.books, c.one, got, ok, c.want, c.good)
		}
	}
}

// The 40th booking is laid in, wherever it goes; a 41st one is not.
func TestFullBooks(t *testing.T) {
	full := rowOfBooks(mostBooked, 5, 100, 100, 100)
	for at := range full {
		one := full[at]
		got, ok := checkBook(t, slices.Delete(slices.Clone(full), at, at+1), one)
		if !ok || !slices.Equal(got, full) {
			t.Errorf("BookLane of %v: %v %v", one, got, ok)
		}
		for _, more := range []impl.Booked{{Lane: 9, From: 0, To: 1}, {Lane: one.Lane, From: one.To, To: one.To + 1}, {Lane: 0, From: 0, To: 1}, one} {
			if got, ok := checkBook(t, full, more); ok {
				t.Errorf("BookLane of 40 bookings, %v: %v", more, got)
			}
		}
	}
	// 41 are not good, though one could be laid in.
	if got, ok := checkBook(t, rowOfBooks(mostBooked+1, 5, 100, 100, 100), bookedOf("9/0/1/0")); ok {
		t.Error("BookLane of 41 bookings:", got)
	}
}

// All small bookings, and each that could be laid in.
func TestAllSmallBooks(t *testing.T) {
	const most = 4
	good := 0
	for _, l := range smallBooks(3, 2, most, 1) {
		for lane := range 3 {
			for from := -1; from <= most+1; from++ {
				for to := -1; to <= most+1; to++ {
					if _, ok := checkBook(t, l, impl.Booked{Lane: lane, From: from, To: to, Who: 1}); ok {
						good++
					}
				}
			}
		}
	}
	if good < 1000 {
		t.Error("only so many were laid in:", good)
	}
}

func TestDrawnBookings(t *testing.T) {
	r := rand.New(rand.NewSource(482))
	good, bad := 0, 0
	for range 5000 {
		d := drawnDiary(r)
		if _, ok := checkBook(t, d.l, d.b); ok {
			good++
		} else {
			bad++
		}
	}
	if good < 500 || bad < 500 {
		t.Error("laid in, not laid in:", good, bad)
	}
}

// However they came there, and whoever gave lanes back between: no tick of a lane is booked twice, and nothing gets lost.
func TestBookingsNeverOverlap(t *testing.T) {
	r := rand.New(rand.NewSource(483))
	for range 100 {
		last := []int{30, 200, lastLaneTick}[r.Intn(3)]
		l, ours := []impl.Booked(nil), map[[2]int]int{}
		for range 80 {
			if r.Intn(5) == 0 {
				who, at := r.Intn(manyOfFleet), r.Intn(last)
				l, _ = impl.FreeLane(l, who, at)
				for spot, by := range ours {
					if by == who && spot[1] >= at {
						delete(ours, spot)
					}
				}
			} else {
				b := drawnBooked(r, 3, last)
				b.To = min(b.To, b.From+50)
				more, ok := impl.BookLane(l, b)
				fits := len(l) < mostBooked
				for at := b.From; at < b.To; at++ {
					if _, taken := ours[[2]int{b.Lane, at}]; taken {
						fits = false
					}
				}
				if ok != fits {
					t.Fatalf("BookLane of %v, %v: %v", l, b, ok)
				}
				if ok {
					l = more
					for at := b.From; at < b.To; at++ {
						ours[[2]int{b.Lane, at}] = b.Who
					}
				}
			}
			checkTicks(t, l, ours)
		}
	}
}

// checkTicks: the bookings have just these ticks of their lanes, by these robots, each once.
func checkTicks(t *testing.T, l []impl.Booked, ours map[[2]int]int) {
	t.Helper()
	if !checkBooked(t, l) {
		t.Fatalf("GoodBooks of %v is false", l)
	}
	many := 0
	for _, b := range l {
		for at := b.From; at < b.To; at++ {
			many++
			if who, taken := ours[[2]int{b.Lane, at}]; !taken || who != b.Who {
				t.Fatalf("of %v: the tick %d of the lane %d is not its own", l, at, b.Lane)
			}
		}
	}
	if many != len(ours) {
		t.Fatalf("of %v: %d ticks, want %d", l, many, len(ours))
	}
}

// In whichever order bookings come that fit with each other, they are the same in the end.
func TestBookingsInAnyOrder(t *testing.T) {
	r := rand.New(rand.NewSource(484))
	for range 300 {
		want := drawnDiary(r).l
		got, ok := []impl.Booked{}, true
		for _, i := range r.Perm(len(want)) {
			if got, ok = impl.BookLane(got, want[i]); !ok {
				t.Fatalf("%v of %v does not fit", want[i], want)
			}
		}
		if !slices.Equal(got, want) {
			t.Fatalf("%v, want %v", got, want)
		}
	}
}
