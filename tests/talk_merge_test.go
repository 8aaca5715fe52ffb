package tests

import (
	"math"
	"math/rand"
	"slices"
	"testing"

	"loop.example/g00047/impl"
)

func TestMergedStamps(t *testing.T) {
	for _, c := range []struct {
		a, b, want string
		ok         bool
	}{
		{"", "", "", true}, {"1.1=5", "", "1.1=5", true}, {"1.1=5", "2.1=6", "1.1=5 2.1=6", true}, {"2.1=5", "1.1=6", "1.1=6 2.1=5", true}, {"1.2=5", "1.1=6", "1.1=6 1.2=5", true}, {"1.9=0", "2.1=0", "1.9=0 2.1=0", true},
		{"1.1=1 3.1=3 5.1=5", "2.1=2 4.1=4", "1.1=1 2.1=2 3.1=3 4.1=4 5.1=5", true}, {"-1.0=1 0.-1=2", "-1.-1=3 0.0=4", "-1.-1=3 -1.0=1 0.-1=2 0.0=4", true},
		// Doubles stand once.
		{"1.1=5", "1.1=5", "1.1=5", true}, {"1.1=5 2.1=6", "1.1=5 2.1=6", "1.1=5 2.1=6", true}, {"1.1=5 2.1=6", "0.1=4 2.1=6 3.1=7", "0.1=4 1.1=5 2.1=6 3.1=7", true}, {"0.0=0", "0.0=0", "0.0=0", true},
		// Another word at the same Time, from the same one.
		{"1.1=5", "1.1=6", "", false}, {"0.0=0", "0.0=1", "", false}, {"1.1=5 2.1=6", "1.1=5 2.1=7", "", false}, {"1.1=4 2.1=6", "1.1=5 2.1=6", "", false}, {"1.1=1 3.1=3", "0.1=0 3.1=2 4.1=4", "", false}, {"1.1=5", "1.2=6", "1.1=5 1.2=6", true}, {"1.1=5", "2.1=6", "1.1=5 2.1=6", true},
		// Lists that do not rise.
		{"2.1=5 1.1=5", "", "", false}, {"1.2=5 1.1=5", "", "", false}, {"1.1=5 1.1=5", "", "", false}, {"1.1=5 1.1=6", "", "", false}, {"1.1=5 2.1=5 2.1=5", "3.1=1", "", false}, {"1.1=5 3.1=5 2.1=5", "3.1=1", "", false}, {"2.1=1 1.2=1", "5.5=5", "", false}, {"1.1=1 1.1=1", "1.1=1", "", false},
	} {
		if got, ok := checkMerge(t, stampsOf(c.a), stampsOf(c.b)); ok != c.ok || !slices.Equal(got, stampsOf(c.want)) {
			t.Errorf("MergeStamped of %q and %q: %v %v", c.a, c.b, got, ok)
		}
	}
}

// All lists of up to three stamped words out of a few, rising ones and others, against each other.
func TestAllShortStamps(t *testing.T) {
	lists := listsUpTo(3, stampsOf("0.0=0 0.0=1 0.1=0 0.1=1 1.0=0 1.0=1")...)
	merged := 0
	for _, a := range lists {
		for _, b := range lists {
			if _, ok := checkMerge(t, a, b); ok {
				merged++
			}
		}
	}
	if merged < 100 {
		t.Error("only", merged)
	}
}

// stampRow rises, every step; no two rows of unlike shift have a stamp in common if step is 2.
func stampRow(many int, step int, shift int) []impl.Stamped {
	l := []impl.Stamped{}
	for i := range many {
		at := i*step + shift
		l = append(l, impl.Stamped{Time: at / 4, From: at % 4, Word: at})
	}
	return l
}

// Lists of 0, 40 and 41, apart, mixed and alike.
func TestStampsUpToTheMost(t *testing.T) {
	for _, many := range []int{0, 1, 2, 39, 40, 41, 42, 100} {
		for _, other := range []int{0, 1, 2, 39, 40, 41, 42, 100} {
			for shift := range 3 {
				got, ok := checkMerge(t, stampRow(many, 2, 0), stampRow(other, 2, shift))
				if good := many <= 40 && other <= 40; ok != good || good && shift == 1 && len(got) != many+other || good && shift == 0 && len(got) != max(many, other) {
					t.Errorf("%d and %d words: %d %v", many, other, len(got), ok)
				}
			}
		}
	}
	// One word of 40 is another one, at each place.
	for at := range 40 {
		a, b := stampRow(40, 1, 0), stampRow(40, 1, 0)
		b[at].Word++
		if _, ok := checkMerge(t, a, b); ok {
			t.Errorf("the word %d is another one", at)
		}
	}
	// Two of 40 are alike, or do not rise, at each place.
	for at := range 39 {
		a := stampRow(40, 1, 0)
		a[at+1] = a[at]
		checkMerge(t, a, nil)
		a = stampRow(40, 1, 0)
		a[at], a[at+1] = a[at+1], a[at]
		if _, ok := checkMerge(t, a, nil); ok {
			t.Errorf("%d does not rise", at)
		}
	}
}

func TestDrawnStamps(t *testing.T) {
	r := rand.New(rand.NewSource(431))
	merged, not := 0, 0
	for range 20000 {
		times, words := []int{4, 30, 1000}[r.Intn(3)], []int{1, 1, 2, 1000}[r.Intn(4)]
		a, b := drawnStamps(r, r.Intn(41), times, words), drawnStamps(r, r.Intn(41), times, words)
		all, ok := checkMerge(t, a, b)
		if !ok {
			not++
			continue
		}
		merged++
		for _, s := range slices.Concat(a, b) {
			if !slices.Contains(all, s) {
				t.Fatalf("%v is not in %v", s, all)
			}
		}
		if again, ok := checkMerge(t, a, a); !ok || !slices.Equal(again, a) {
			t.Fatalf("%v with itself: %v %v", a, again, ok)
		}
		if alone, ok := checkMerge(t, nil, b); !ok || !slices.Equal(alone, b) {
			t.Fatalf("%v with nothing: %v %v", b, alone, ok)
		}
	}
	if merged < 2000 || not < 2000 {
		t.Error("merged and not:", merged, not)
	}
}

// Three lists are one, whichever two are merged first.
func TestThreeListsOfStamps(t *testing.T) {
	r := rand.New(rand.NewSource(432))
	for range 5000 {
		words := 1 + r.Intn(2)
		l := [][]impl.Stamped{drawnStamps(r, r.Intn(10), 8, words), drawnStamps(r, r.Intn(10), 8, words), drawnStamps(r, r.Intn(10), 8, words)}
		all := [][]impl.Stamped{}
		for i := range l {
			if two, ok := checkMerge(t, l[i], l[(i+1)%3]); ok {
				if three, ok := checkMerge(t, two, l[(i+2)%3]); ok {
					all = append(all, three)
				}
			}
		}
		if len(all) != 0 && (len(all) != 3 || !slices.Equal(all[0], all[1]) || !slices.Equal(all[0], all[2])) {
			t.Fatalf("of %v: %v", l, all)
		}
	}
}

// Numbers that are far off are held against each other as they are; no difference of them wraps.
func TestFarStamps(t *testing.T) {
	l := []impl.Stamped{}
	for _, time := range []int{math.MinInt, math.MinInt + 1, -1, 0, 1, math.MaxInt - 1, math.MaxInt} {
		for _, from := range []int{math.MinInt, -1, 0, math.MaxInt} {
			l = append(l, impl.Stamped{Time: time, From: from, Word: from ^ time})
		}
	}
	if got, ok := checkMerge(t, l, nil); !ok || !slices.Equal(got, l) {
		t.Error(got, ok)
	}
	for i := range l {
		if got, ok := checkMerge(t, l[i:], l[:i]); !ok || !slices.Equal(got, l) {
			t.Error(got, ok)
		}
		for k := range l {
			if _, ok := checkMerge(t, []impl.Stamped{l[i], l[k]}, nil); ok != (i < k) {
				t.Errorf("%v %v: %v", l[i], l[k], ok)
			}
			checkMerge(t, l[i:i+1], l[k:k+1])
		}
	}
	for _, word := range farInts {
		for _, other := range farInts {
			if _, ok := checkMerge(t, []impl.Stamped{{Word: word}}, []impl.Stamped{{Word: other}}); ok != (word == other) {
				t.Errorf("words %d and %d: %v", word, other, ok)
			}
		}
	}
}
