package tests

import (
	"math/rand"
	"slices"
	"testing"

	"loop.example/g00047/impl"
)

func TestWaitRingByHand(t *testing.T) {
	for _, c := range []struct{ waits, want []int }{
		// Nobody, and those that wait for none.
		{nil, nil}, {[]int{}, nil}, {[]int{-1}, nil}, {[]int{-1, -1, -1, -1, -1}, nil},
		// One for itself.
		{[]int{0}, []int{0}}, {[]int{-1, 1}, []int{1}}, {[]int{0, 1, 2, 3, 4}, []int{0, 1, 2, 3, 4}}, {[]int{-1, -1, -1, -1, 4}, []int{4}},
		// Two, three, and all five, whichever way round.
		{[]int{1, 0}, []int{0, 1}}, {[]int{4, -1, -1, -1, 0}, []int{0, 4}}, {[]int{1, 2, 0}, []int{0, 1, 2}}, {[]int{2, 0, 1}, []int{0, 1, 2}},
		{[]int{1, 2, 3, 4, 0}, []int{0, 1, 2, 3, 4}}, {[]int{4, 0, 1, 2, 3}, []int{0, 1, 2, 3, 4}}, {[]int{2, 3, 4, 0, 1}, []int{0, 1, 2, 3, 4}}, {[]int{3, 4, 0, 1, 2}, []int{0, 1, 2, 3, 4}},
		// Two rings.
		{[]int{1, 0, 3, 2}, []int{0, 1, 2, 3}}, {[]int{3, 2, 1, 0, 4}, []int{0, 1, 2, 3, 4}}, {[]int{1, 0, 3, 4, 2}, []int{0, 1, 2, 3, 4}}, {[]int{1, 0, -1, 3}, []int{0, 1, 3}}, {[]int{4, 2, 1, -1, 0}, []int{0, 1, 2, 4}},
		// Those that wait for one in a ring, themselves or over others, are not in it.
		{[]int{1, 0, 0}, []int{0, 1}}, {[]int{1, 1}, []int{1}}, {[]int{0, 0}, []int{0}}, {[]int{1, 2, 3, 4, 4}, []int{4}}, {[]int{0, 0, 1, 2, 3}, []int{0}}, {[]int{1, 2, 3, 4, 3}, []int{3, 4}}, {[]int{1, 2, 3, 4, 2}, []int{2, 3, 4}}, {[]int{1, 0, 1, 2, 3}, []int{0, 1}},
		{[]int{2, 2, 2, 2, 2}, []int{2}}, {[]int{1, 0, 3, 2, 2}, []int{0, 1, 2, 3}},
		// Chains that end.
		{[]int{1, -1}, nil}, {[]int{-1, 0}, nil}, {[]int{1, 2, 3, 4, -1}, nil}, {[]int{-1, 0, 1, 2, 3}, nil}, {[]int{1, 2, -1, 4, 3}, []int{3, 4}},
		// A number beyond, wherever: none, whatever the others do.
		{[]int{1}, nil}, {[]int{-2}, nil}, {[]int{0, 2}, nil}, {[]int{1, 0, 3}, nil}, {[]int{1, 0, -2}, nil}, {[]int{-2, 1}, nil}, {[]int{0, 1, 2, 3, 5}, nil}, {[]int{5, 1, 2, 3, 4}, nil}, {[]int{0, 1, -2, 3, 4}, nil},
		// Six are too many.
		{[]int{0, 1, 2, 3, 4, 5}, nil}, {[]int{1, 0, -1, -1, -1, -1}, nil}, {[]int{-1, -1, -1, -1, -1, -1}, nil}, {[]int{1, 2, 3, 4, 5, 0}, nil}, {make([]int, 100), nil},
	} {
		if got := impl.WaitRing(c.waits); !slices.Equal(got, c.want) {
			t.Errorf("WaitRing of %v: %v, want %v", c.waits, got, c.want)
		}
		checkRing(t, c.waits)
	}
}

// All lists of up to six numbers, from -2 to one beyond.
func TestWaitRingOfAllLists(t *testing.T) {
	seen := map[int]int{}
	for n := range mostCrowd + 2 {
		many := 1
		for range n {
			many *= n + 3
		}
		for code := range many {
			waits := []int{}
			for rest := code; len(waits) < n; rest /= n + 3 {
				waits = append(waits, rest%(n+3)-2)
			}
			checkRing(t, waits)
			seen[len(impl.WaitRing(waits))]++
		}
	}
	if !slices.Equal(seenMost(seen), []int{0, 1, 2, 3, 4, 5}) {
		t.Errorf("only %v", seen)
	}
}

func TestWaitRingOfFarNumbers(t *testing.T) {
	r := rand.New(rand.NewSource(330))
	far := append([]int{-2, 5, 6, 256, 1 << 32, -1 << 32, 1<<32 + 1}, farInts...)
	for range 500 {
		waits := []int{}
		for range drawnBetween(r, 1, mostCrowd+1) {
			waits = append(waits, drawnBetween(r, -1, mostCrowd))
		}
		checkRing(t, waits)
		waits[r.Intn(len(waits))] = far[r.Intn(len(far))]
		checkRing(t, waits)
		if got := impl.WaitRing(waits); len(got) != 0 {
			t.Errorf("WaitRing of %v: %v", waits, got)
		}
	}
}
