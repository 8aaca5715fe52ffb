package tests

import (
	"math"
	"math/rand"
	"slices"
	"testing"

	"loop.example/g00047/impl"
)

func TestKeptWords(t *testing.T) {
	for _, c := range []struct {
		queue string
		depth int
		word  int
		want  string
	}{
		{"", 1, 7, "7"}, {"", 10, 7, "7"}, {"1", 1, 7, "7"}, {"1", 2, 7, "1 7"}, {"1 2", 2, 3, "2 3"}, {"1 2", 3, 3, "1 2 3"}, {"1 2 3", 3, 4, "2 3 4"}, {"5 5 5", 3, 5, "5 5 5"}, {"-1 0", 2, -2, "0 -2"},
		{"1 2 3 4 5 6 7 8 9", 10, 10, "1 2 3 4 5 6 7 8 9 10"}, {"1 2 3 4 5 6 7 8 9 10", 10, 11, "2 3 4 5 6 7 8 9 10 11"}, {"1 2 3 4 5 6 7 8", 9, 0, "1 2 3 4 5 6 7 8 0"},
	} {
		if got := checkKeep(t, listOf(c.queue), c.depth, c.word); !slices.Equal(got, listOf(c.want)) {
			t.Errorf("KeepLast of %q, %d and %d: %v", c.queue, c.depth, c.word, got)
		}
	}
	if impl.MaxDepth != deepest || impl.MaxSaid != mostWords {
		t.Error(impl.MaxDepth, impl.MaxSaid)
	}
}

// Each depth with each number of words; those that are too many, and depths that are none, have no answer.
func TestQueuesOfEachDepth(t *testing.T) {
	for depth := -3; depth <= 15; depth++ {
		for many := range 15 {
			queue := countUp(100, many)
			got := checkKeep(t, queue, depth, 7)
			if good := depth >= 1 && depth <= 10 && many <= depth; good != (len(got) > 0) || good && (len(got) != min(many+1, depth) || got[len(got)-1] != 7) {
				t.Errorf("KeepLast of %d words, depth %d: %v", many, depth, got)
			}
		}
	}
}

// Word by word a queue has the last ones of all that were said.
func TestQueuesGoOn(t *testing.T) {
	r := rand.New(rand.NewSource(424))
	for depth := 1; depth <= deepest; depth++ {
		all, queue := drawnWords(r, 40), []int{}
		for i, word := range all {
			queue = checkKeep(t, queue, depth, word)
			if !slices.Equal(queue, all[max(0, i+1-depth):i+1]) {
				t.Fatalf("depth %d: %v of %v", depth, queue, all[:i+1])
			}
		}
	}
}

func TestNextParcels(t *testing.T) {
	for _, c := range []struct {
		words       string
		acked, turn int
		window      int
		number      int
		then        int
	}{
		{"5", 0, 0, 1, 0, 1}, {"5", 0, 0, 10, 0, 1}, {"5", 0, 30, 10, 0, 0}, {"5 6 7", 0, 0, 2, 0, 1}, {"5 6 7", 0, 1, 2, 1, 2}, {"5 6 7", 0, 2, 2, 0, 3}, {"5 6 7", 0, 2, 3, 2, 3}, {"5 6 7", 0, 3, 3, 0, 4}, {"5 6 7", 0, 5, 10, 2, 6}, {"5 6 7", 1, 0, 2, 1, 1}, {"5 6 7", 1, 1, 2, 2, 2}, {"5 6 7", 1, 5, 1, 1, 6}, {"5 6 7", 1, 3, 10, 2, 4}, {"5 6 7", 2, 7, 10, 2, 8}, {"5 6 7", 2, 7, 1, 2, 8},
		{"5 6 7 8", 0, 28, 3, 1, 29}, {"5 6 7 8", 0, 29, 3, 2, 0}, {"5 6 7 8", 0, 30, 3, 0, 0}, {"5 6 7 8", 0, 29, 4, 1, 0}, {"5 6 7 8", 0, 30, 4, 2, 0},
	} {
		words := listOf(c.words)
		parcel, next, ok := checkNext(t, impl.Sender{Words: words, Acked: c.acked, Turn: c.turn}, c.window)
		if !ok || parcel != (impl.Parcel{Number: c.number, Word: words[c.number]}) || !sameSender(next, impl.Sender{Words: words, Acked: c.acked, Turn: c.then}) {
			t.Errorf("SendNext of %v: %v %v %v", c, parcel, next, ok)
		}
	}
	full := countUp(100, mostWords)
	if parcel, next, ok := checkNext(t, impl.Sender{Words: full, Acked: 29, Turn: 29}, 10); !ok || parcel != (impl.Parcel{Number: 29, Word: 129}) || next.Turn != 0 {
		t.Error(parcel, next, ok)
	}
	if parcel, next, ok := checkNext(t, impl.Sender{Words: full, Acked: 20, Turn: 9}, 10); !ok || parcel != (impl.Parcel{Number: 29, Word: 129}) || next.Turn != 10 {
		t.Error(parcel, next, ok)
	}
}

// All senders of up to five words and of the most, and one more; each Acked, Turn and window about their limits.
func TestAllSenders(t *testing.T) {
	for _, many := range []int{0, 1, 2, 3, 4, 5, 29, 30, 31, 32} {
		words := countUp(-2, many)
		for acked := -2; acked <= many+2; acked++ {
			for turn := -2; turn <= 33; turn++ {
				for window := -2; window <= 13; window++ {
					_, _, ok := checkNext(t, impl.Sender{Words: words, Acked: acked, Turn: turn}, window)
					if good := many <= 30 && acked >= 0 && acked < many && turn >= 0 && turn <= 30 && window >= 1 && window <= 10; ok != good {
						t.Fatalf("SendNext of %d words, %d acked, turn %d, window %d: %v", many, acked, turn, window, ok)
					}
				}
			}
		}
	}
}

// Where nothing is acked on the way, all that is open goes out round and round, and each within as many sends as there are open.
func TestSendersGoRound(t *testing.T) {
	r := rand.New(rand.NewSource(425))
	for range 2000 {
		s, window := drawnSender(r), 1+r.Intn(deepest)
		if s.Acked == len(s.Words) {
			checkNext(t, s, window)
			continue
		}
		open, last := min(window, len(s.Words)-s.Acked), map[int]int{}
		for send := range 70 {
			parcel, next, ok := checkNext(t, s, window)
			if !ok || parcel.Number < s.Acked || parcel.Number >= s.Acked+open || s.Words[parcel.Number] != parcel.Word {
				t.Fatalf("SendNext of %v, window %d: %v %v", s, window, parcel, ok)
			}
			last[parcel.Number] = send
			// The turn begins again at 0, and some may have to wait for a second round there.
			for number := s.Acked; number < s.Acked+open; number++ {
				if before, some := last[number]; send >= 2*open && (!some || send-before >= 2*open) {
					t.Fatalf("%d waits: %v of %v, window %d", number, last, s, window)
				}
			}
			s = next
		}
	}
}

func parcelsOf(numbers ...int) []impl.Parcel {
	l := []impl.Parcel{}
	for i, number := range numbers {
		l = append(l, impl.Parcel{Number: number, Word: 100 + i})
	}
	return l
}

func TestTakenParcels(t *testing.T) {
	for _, c := range []struct{ got, numbers, want string }{
		{"", "", ""}, {"5", "", "5"}, {"", "0", "100"}, {"", "0 1 2", "100 101 102"}, {"5", "1 2", "5 100 101"}, {"5 6", "0 1 2", "5 6 102"},
		// Out of order, twice, and what is missing.
		{"", "1", ""}, {"", "1 0", "101"}, {"", "2 1 0", "102"}, {"", "1 0 1", "101 102"}, {"", "0 0", "100"}, {"", "0 0 1 1 0 2", "100 102 105"}, {"", "0 2 3", "100"}, {"5", "0 0 0", "5"}, {"5", "2 1 3 2", "5 101 103"},
		// Numbers below 0 and beyond.
		{"", "-1", ""}, {"", "-1 0 -1 1", "101 103"}, {"5", "30 31 400 1", "5 103"},
	} {
		if got := checkTake(t, listOf(c.got), parcelsOf(listOf(c.numbers)...)); !slices.Equal(got, listOf(c.want)) {
			t.Errorf("TakeParcels of %q and %q: %v, want %q", c.got, c.numbers, got, c.want)
		}
	}
}

// Words that were got up to the most and beyond; at the most nothing is laid behind them any more.
func TestParcelsUpToTheMost(t *testing.T) {
	for many := range 35 {
		got := countUp(1000, many)
		for _, numbers := range [][]int{nil, {many}, {many, many + 1}, {many, many}, countUp(0, 40), countUp(many, 40), {many - 1, many + 1}, {30}, {30, 31}, {29, 30}, {math.MaxInt, many, math.MinInt}} {
			all := checkTake(t, got, parcelsOf(numbers...))
			if many > 30 && len(all) != 0 || many <= 30 && (len(all) < many || len(all) > 30) {
				t.Errorf("TakeParcels of %d words and %v: %v", many, numbers, all)
			}
		}
		if all := checkTake(t, got, parcelsOf(countUp(many, 100)...)); many <= 30 && len(all) != 30 {
			t.Errorf("TakeParcels of %d words: %v", many, all)
		}
	}
	if all := checkTake(t, nil, slices.Repeat(parcelsOf(countUp(0, 30)...), 1000)); len(all) != 30 {
		t.Error(all)
	}
}

// All lists of a few numbers on top of a few words.
func TestAllShortParcels(t *testing.T) {
	lists := listsUpTo(5, -1, 0, 1, 2, 3)
	for many := range 4 {
		for _, numbers := range lists {
			checkTake(t, countUp(-9, many), parcelsOf(numbers...))
		}
	}
}

// Parcels of one talk, whatever becomes of them on the way, lay a beginning of what was said; parcels taken in two goes are the same as in one.
func TestParcelsLayABeginning(t *testing.T) {
	r := rand.New(rand.NewSource(426))
	for range 3000 {
		words := drawnWords(r, r.Intn(mostWords+1))
		parcels := []impl.Parcel{}
		for range r.Intn(200) {
			if number := r.Intn(mostWords+8) - 4; isAmong(number, len(words)) {
				parcels = append(parcels, impl.Parcel{Number: number, Word: words[number]})
			}
		}
		if r.Intn(2) == 0 {
			slices.SortStableFunc(parcels, func(a impl.Parcel, b impl.Parcel) int { return a.Number/5 - b.Number/5 })
		}
		all := checkTake(t, nil, parcels)
		if len(all) > len(words) || !slices.Equal(all, words[:len(all)]) {
			t.Fatalf("%v is no beginning of %v", all, words)
		}
		cut := r.Intn(len(parcels) + 1)
		if again := checkTake(t, checkTake(t, nil, parcels[:cut]), parcels[cut:]); !slices.Equal(again, all) {
			t.Fatalf("%v in two goes, %v in one", again, all)
		}
	}
}
