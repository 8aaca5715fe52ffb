package tests

import (
	"math/rand"
	"slices"
	"testing"

	"loop.example/g00047/impl"
)

func TestLimitsOfClouds(t *testing.T) {
	if impl.MaxMotes != mostMotes || impl.MaxWeight != mostWeight {
		t.Error("another limit")
	}
}

func TestSumsOfClouds(t *testing.T) {
	for _, c := range []struct {
		l      []impl.Mote
		mean   string
		spread string
		worth  string
	}{
		{motesOf(5, 1, 7, 3), "13/2", "3/4", "8/5"},
		{motesOf(7, 3, 5, 1), "13/2", "3/4", "8/5"},
		{motesOf(-5, 1, -7, 3), "-13/2", "3/4", "8/5"},
		{motesOf(0, 1, 1, 1), "1/2", "1/4", "2"},
		{motesOf(-1, 1, 1, 1), "0", "1", "2"},
		{motesOf(1, 2, 2, 2, 3, 2), "2", "2/3", "3"},
		{motesOf(1, 1, 2, 2, 3, 3), "7/3", "5/9", "18/7"},
		{motesOf(4, 1, 4, 2, 4, 5), "4", "0", "32/15"},
		{motesOf(3, 0, 10, 2, -4, 0, 20, 2, 8, 0), "15", "25", "2"},
		{motesOf(mostAt, mostWeight, -mostAt, mostWeight), "0", "1000000000000", "2"},
		{motesOf(mostAt, mostWeight, -mostAt, 1), "999999000000/1000001", "4000000000000000000/1000002000001", "1000002000001/1000000000001"},
	} {
		mean, ok := impl.CloudMean(c.l)
		spread, okToo := impl.CloudSpread(c.l)
		worth, okAll := impl.Worth(c.l)
		if mean != c.mean || spread != c.spread || worth != c.worth || !ok || !okToo || !okAll {
			t.Errorf("of %v: mean %q, spread %q, worth %q, want %q, %q, %q", c.l, mean, spread, worth, c.mean, c.spread, c.worth)
		}
		checkCloud(t, c.l)
	}
}

func TestCloudsOfOneMote(t *testing.T) {
	for _, at := range []int{0, 1, -1, 17, mostAt - 1, mostAt, 1 - mostAt, -mostAt} {
		for _, weight := range []int{1, 2, 999, mostWeight - 1, mostWeight} {
			l := motesOf(at, weight)
			mean, _ := impl.CloudMean(l)
			spread, _ := impl.CloudSpread(l)
			worth, _ := impl.Worth(l)
			if mean != whole(int64(at)).RatString() || spread != "0" || worth != "1" {
				t.Errorf("of %v: mean %q, spread %q, worth %q", l, mean, spread, worth)
			}
			// Motes without a Weight change nothing, wherever they are.
			for _, more := range [][]impl.Mote{motesOf(at, weight, 9, 0), motesOf(9, 0, at, weight), motesOf(-mostAt, 0, at, weight, mostAt, 0)} {
				checkCloud(t, more)
				if same, _ := impl.CloudMean(more); same != mean {
					t.Errorf("CloudMean of %v: %q, want %q", more, same, mean)
				}
			}
			checkCloud(t, l)
		}
	}
}

// Motes of one Weight are worth as many as they are, motes of any Weights no more.
func TestWorthOfMotes(t *testing.T) {
	r := rand.New(rand.NewSource(170))
	for n := 1; n <= mostMotes; n++ {
		for _, weight := range []int{1, 2, 7, mostWeight} {
			l := weighted(slices.Repeat([]int{weight}, n)...)
			if worth, ok := impl.Worth(l); worth != whole(int64(n)).RatString() || !ok {
				t.Errorf("Worth of %d motes of the Weight %d: %q %v", n, weight, worth, ok)
			}
			checkCloud(t, l)
		}
		if worth, ok := impl.Worth(drawnCloud(r, n, mostAt, mostWeight)); ok && rat(t, worth).Cmp(whole(int64(n))) > 0 {
			t.Errorf("Worth of %d motes: %q", n, worth)
		}
	}
}

// The squares of these add up to more than an int holds.
func TestSumsThatAreAsGreatAsTheyMayBe(t *testing.T) {
	for n := 1; n <= mostMotes; n++ {
		far, both, odd := []impl.Mote{}, []impl.Mote{}, []impl.Mote{}
		for i := range n {
			far = append(far, impl.Mote{At: mostAt, Weight: mostWeight})
			both = append(both, impl.Mote{At: mostAt * (1 - i%2*2), Weight: mostWeight})
			odd = append(odd, impl.Mote{At: i - mostAt, Weight: mostWeight - i*i})
		}
		if mean, ok := impl.CloudMean(far); mean != "1000000" || !ok {
			t.Errorf("CloudMean of %d motes at %d: %q %v", n, mostAt, mean, ok)
		}
		if spread, ok := impl.CloudSpread(far); spread != "0" || !ok {
			t.Errorf("CloudSpread of %d motes at %d: %q %v", n, mostAt, spread, ok)
		}
		if spread, ok := impl.CloudSpread(both); n%2 == 0 && spread != "1000000000000" || !ok {
			t.Errorf("CloudSpread of %d motes at both ends: %q %v", n, spread, ok)
		}
		checkCloud(t, far)
		checkCloud(t, both)
		checkCloud(t, odd)
	}
}

func TestSumsOfDrawnClouds(t *testing.T) {
	r := rand.New(rand.NewSource(171))
	for n := range mostMotes + 2 {
		for _, far := range []int{0, 1, 9, 1000, mostAt} {
			for _, heavy := range []int{0, 1, 2, 100, mostWeight} {
				checkCloud(t, drawnCloud(r, n, far, heavy))
			}
		}
	}
}

// All clouds of three motes with small numbers.
func TestSumsOfAllSmallClouds(t *testing.T) {
	for i := range 3 * 3 * 3 * 5 * 5 * 5 {
		weights, places := i%27, i/27
		checkCloud(t, motesOf(places%5-2, weights%3, places/5%5-2, weights/3%3, places/25-2, weights/9))
	}
}

func TestLostClouds(t *testing.T) {
	for _, l := range [][]impl.Mote{nil, {}} {
		if !impl.GoodCloud(l) || !impl.LostCloud(l) {
			t.Errorf("of no motes: good %v, lost %v", impl.GoodCloud(l), impl.LostCloud(l))
		}
		checkCloud(t, l)
	}
	for n := 1; n <= mostMotes; n++ {
		l := weighted(make([]int, n)...)
		if !impl.GoodCloud(l) || !impl.LostCloud(l) {
			t.Errorf("of %d motes without Weights: good %v, lost %v", n, impl.GoodCloud(l), impl.LostCloud(l))
		}
		checkCloud(t, l)
		for at := range n {
			one := slices.Clone(l)
			one[at].Weight = 1
			if impl.LostCloud(one) {
				t.Errorf("LostCloud of %d motes, number %d of the Weight 1", n, at)
			}
			checkCloud(t, one)
		}
	}
	if impl.LostCloud(make([]impl.Mote, mostMotes+1)) {
		t.Error("LostCloud of too many motes")
	}
}
