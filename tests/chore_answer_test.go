package tests

import (
	"math/rand"
	"slices"
	"testing"

	"loop.example/g00047/impl"
)

func TestAnswerTimes(t *testing.T) {
	for _, c := range []struct{ chores, times string }{
		{"1/1/1", "1"}, {"60/1/1", "1"}, {"60/1/60", "1"}, {"60/60/60", "60"}, {"5/3/3", "3"}, {"5/3/4", "3"},
		{"4/1/4 6/2/6 12/4/12", "1 3 11"},
		// Just the Due, and one more than it.
		{"4/1/4 6/2/3 12/4/11", "1 3 11"}, {"4/1/4 6/2/2 12/4/11", "1 -1 11"}, {"4/1/4 6/2/3 12/4/10", "1 3 -1"},
		{"2/1/1 2/1/2", "1 2"}, {"2/1/1 2/1/1", "1 -1"}, {"3/1/3 3/1/3 3/1/3", "1 2 3"}, {"3/1/3 3/1/3 3/1/2", "1 2 -1"},
		// A job that comes just when it would be done does not count any more: at 4, not at 5.
		{"4/2/4 9/2/9", "2 4"}, {"4/2/4 9/3/9", "2 7"}, {"4/2/4 9/4/9", "2 8"}, {"4/2/4 9/5/9", "2 -1"}, {"4/2/4 9/3/7", "2 7"}, {"4/2/4 9/3/6", "2 -1"},
		// Only those ahead count, whatever stands behind.
		{"9/2/9 4/2/4", "2 4"}, {"9/3/9 4/2/4", "3 -1"}, {"9/3/9 5/2/5 60/60/60", "3 5 -1"},
		// Nothing is left for those behind.
		{"1/1/1 60/1/60", "1 -1"}, {"60/60/60 60/1/60", "60 -1"}, {"2/1/2 2/1/2 60/1/60", "1 2 -1"},
		// One that has none counts for those behind, which may find time all the same.
		{"6/4/4 6/2/5 12/1/12", "4 -1 -1"}, {"6/3/3 6/2/4 12/1/12", "3 -1 6"}, {"6/3/3 6/2/4 12/2/12", "3 -1 12"}, {"6/3/3 6/2/4 12/2/11", "3 -1 -1"}, {"6/3/3 6/2/4 6/1/6 12/1/12", "3 -1 6 -1"},
		{"60/30/30 60/1/30 60/1/60 60/28/60", "30 -1 32 60"}, {"60/30/30 60/1/30 60/1/31 60/29/60", "30 -1 -1 -1"},
		{"60/10/60 60/10/60 60/10/60 60/10/60 60/10/60 60/10/60", "10 20 30 40 50 60"}, {"60/10/60 60/10/60 60/10/60 60/10/60 60/10/60 60/10/59", "10 20 30 40 50 -1"},
		// Round after round until it stands.
		{"7/2/7 11/3/11 13/2/13 59/6/59", "2 5 7 31"},
		{"", ""}, {"5/3/2", ""}, {"2/1/1 0/1/1", ""}, {"1/1/1 1/1/1 1/1/1 1/1/1 1/1/1 1/1/1 1/1/1", ""},
	} {
		if got := checkAnswers(t, choresOf(c.chores)); !slices.Equal(got, listOf(c.times)) {
			t.Errorf("AnswerTimes of %q: %v, want %v", c.chores, got, c.times)
		}
	}
}

// All lists of up to three chores of Periods up to 5, and of two up to 9.
func TestAllAnswerTimes(t *testing.T) {
	for _, l := range choreLists(3, 5) {
		checkAnswers(t, l)
	}
	for _, l := range choreLists(2, 9) {
		checkAnswers(t, l)
	}
	for _, l := range choreLists(4, 3) {
		checkAnswers(t, l)
	}
}

// seenTimes counts which kinds of answer come up.
func seenTimes(seen map[string]int, l []impl.Chore, times []int) {
	for i, r := range times {
		switch {
		case r < 0:
			seen["none"]++
		case i > 0 && slices.Contains(times[:i], -1):
			seen["behind one that has none"]++
		case r == l[i].Need:
			seen["Need"]++
		case r == l[i].Due:
			seen["Due"]++
		default:
			seen["between"]++
		}
	}
}

// Drawn chores up to the limits; a Due that is met just so, and one that is one less.
func TestDrawnAnswerTimes(t *testing.T) {
	r := rand.New(rand.NewSource(440))
	seen := map[string]int{}
	for range 20000 {
		l := drawnChores(r, 1+r.Intn(mostChores), []int{6, 20, longestPeriod}[r.Intn(3)])
		times := checkAnswers(t, l)
		seenTimes(seen, l, times)
		at := r.Intn(len(l))
		if times[at] < 0 {
			continue
		}
		l[at].Due = times[at]
		if got := checkAnswers(t, l); !slices.Equal(got, times) {
			t.Fatalf("AnswerTimes of %v: %v, want %v", l, got, times)
		}
		if l[at].Due > l[at].Need {
			l[at].Due--
			if got := checkAnswers(t, l); got[at] != -1 {
				t.Fatalf("AnswerTimes of %v: %v", l, got)
			}
		}
	}
	for _, kind := range []string{"none", "behind one that has none", "Need", "Due", "between"} {
		if seen[kind] < 200 {
			t.Error(kind, "came up too seldom:", seen)
		}
	}
}

// The Due of a chore changes no answer but its own, and what stands behind changes none.
func TestAnswersHangOnThoseAheadAlone(t *testing.T) {
	r := rand.New(rand.NewSource(441))
	for range 3000 {
		l := drawnChores(r, 1+r.Intn(mostChores), longestPeriod)
		times := checkAnswers(t, l)
		for i := range l {
			if got := checkAnswers(t, l[:i+1]); !slices.Equal(got, times[:i+1]) {
				t.Fatalf("AnswerTimes of %v: %v, of all %v", l[:i+1], got, times)
			}
			other := slices.Clone(l)
			other[i].Due = drawnBetween(r, l[i].Need, l[i].Period)
			got := checkAnswers(t, other)
			got[i] = times[i]
			if !slices.Equal(got, times) {
				t.Fatalf("AnswerTimes of %v: %v, of %v: %v", other, got, l, times)
			}
		}
	}
}
