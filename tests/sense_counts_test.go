package tests

import (
	"math"
	"math/rand"
	"slices"
	"testing"

	"loop.example/g00047/impl"
)

func TestLimitsOfSenses(t *testing.T) {
	if impl.MaxCounts != mostCounts || impl.MaxTicks != mostTicks || impl.MaxWalls != mostWalls || impl.MaxPlace != mostPlace {
		t.Error("another limit")
	}
}

func TestWrappedCounts(t *testing.T) {
	for _, c := range [][3]int{
		{0, 10, 0}, {7, 10, 7}, {9, 10, 9}, {10, 10, 0}, {11, 10, 1}, {25, 10, 5}, {-1, 10, 9}, {-9, 10, 1}, {-10, 10, 0}, {-11, 10, 9}, {-20, 10, 0}, {-25, 10, 5},
		{0, 2, 0}, {1, 2, 1}, {2, 2, 0}, {-1, 2, 1}, {-2, 2, 0}, {-3, 2, 1}, {7, 3, 1}, {-7, 3, 2},
		{999999, 1000000, 999999}, {1000000, 1000000, 0}, {-1, 1000000, 999999}, {-1000000, 1000000, 0}, {-1000001, 1000000, 999999},
		{mostWrapped, 2, 0}, {-mostWrapped, 2, 0}, {mostWrapped, 7, 1}, {-mostWrapped, 7, 6}, {mostWrapped, 999999, 1}, {-mostWrapped, 999999, 999998}, {mostWrapped - 1, 1000000, 999999}, {1 - mostWrapped, 1000000, 1},
	} {
		if got := impl.WrapCount(c[0], c[1]); got != c[2] {
			t.Errorf("WrapCount of %d, %d: %d, want %d", c[0], c[1], got, c[2])
		}
		checkWrap(t, c[0], c[1])
	}
}

func TestWrappingOfWrongCounts(t *testing.T) {
	for _, n := range []int{mostWrapped + 1, -mostWrapped - 1, mostWrapped + 3, math.MaxInt, math.MaxInt - 1, math.MinInt, math.MinInt + 1} {
		for _, size := range []int{2, 3, 7, 10, 999999, 1000000} {
			if got := impl.WrapCount(n, size); got != 0 {
				t.Errorf("WrapCount of %d, %d: %d", n, size, got)
			}
		}
	}
	for _, size := range []int{1, 0, -1, -2, -10, 1000001, 1000003, mostWrapped, math.MaxInt, math.MinInt} {
		for _, n := range []int{0, 1, -1, 5, 999999, 1000000, mostWrapped, -mostWrapped, math.MaxInt, math.MinInt} {
			if got := impl.WrapCount(n, size); got != 0 {
				t.Errorf("WrapCount of %d, %d: %d", n, size, got)
			}
		}
	}
}

func TestWrappingOfDrawnCounts(t *testing.T) {
	r := rand.New(rand.NewSource(110))
	for size := -2; size <= 12; size++ {
		for n := -40; n <= 40; n++ {
			checkWrap(t, n, size)
		}
	}
	for range 5000 {
		checkWrap(t, drawnBetween(r, -mostWrapped, mostWrapped), drawnBetween(r, 2, mostSize))
		checkWrap(t, drawnBetween(r, -1000, 1000), drawnBetween(r, 2, 100))
		checkWrap(t, int(r.Uint64()), drawnBetween(r, 2, mostSize))
	}
}

func TestUnwrappedCounts(t *testing.T) {
	for _, c := range []struct {
		size int
		l    []int
		want []int
	}{
		{10, []int{9, 0, 1, 9}, []int{9, 10, 11, 9}},
		{10, []int{0}, []int{0}},
		{10, []int{7}, []int{7}},
		{10, []int{3, 3, 3}, []int{3, 3, 3}},
		{10, []int{2, 9, 6, 3, 0, 7}, []int{2, -1, -4, -7, -10, -13}},
		{10, []int{8, 2, 6, 0, 4, 8}, []int{8, 12, 16, 20, 24, 28}},
		// Just half of the size: always up, from above 0 and from below.
		{10, []int{0, 5, 0, 5}, []int{0, 5, 10, 15}},
		{10, []int{5, 0}, []int{5, 10}},
		{10, []int{1, 8, 3, 8}, []int{1, -2, 3, 8}},
		{10, []int{2, 8, 4, 9}, []int{2, -2, -6, -1}},
		{2, []int{0, 1, 0, 1, 1}, []int{0, 1, 2, 3, 3}},
		{2, []int{1, 0}, []int{1, 2}},
		{4, []int{0, 2, 1, 3, 2, 0}, []int{0, 2, 1, 3, 2, 4}},
		{1000000, []int{0, 500000, 0}, []int{0, 500000, 1000000}},
		{1000000, []int{999999, 499999, 499998}, []int{999999, 1499999, 1499998}},
		{1000000, []int{0, 500001, 1}, []int{0, -499999, 1}},
		{1000000, []int{0, 499999, 999999}, []int{0, 499999, 999999}},
		// No step is just half of an odd size.
		{3, []int{0, 1, 2, 0, 2, 1, 0, 2}, []int{0, 1, 2, 3, 2, 1, 0, -1}},
		{11, []int{0, 5, 10, 4, 9}, []int{0, 5, 10, 15, 20}},
		{11, []int{0, 6, 1, 7}, []int{0, -5, -10, -15}},
		{999999, []int{0, 500000, 1, 500000}, []int{0, -499999, -999998, -1499998 + 999999}},
		{999999, []int{0, 499999, 999998}, []int{0, 499999, 999998}},
	} {
		got, ok := impl.UnwrapCounts(c.l, c.size)
		if !slices.Equal(got, c.want) || !ok {
			t.Errorf("UnwrapCounts of %v, %d: %v %v, want %v", c.l, c.size, got, ok, c.want)
		}
		checkUnwrap(t, c.l, c.size)
	}
}

// Round and round, up and down: the numbers go on where the counts come again.
func TestCountsThatGoRoundManyTimes(t *testing.T) {
	for _, size := range []int{2, 3, 4, 10, 11, 360, 4096, 999999, 1000000} {
		for _, step := range []int{1, -min(1, (size-1)/2), size / 2, -((size - 1) / 2), (size + 2) / 4, -(size / 4)} {
			numbers, counts := []int{size - 1}, []int{size - 1}
			for i := 1; i < mostCounts; i++ {
				numbers = append(numbers, numbers[i-1]+step)
				counts = append(counts, leftOf(numbers[i], size))
			}
			if got, ok := impl.UnwrapCounts(counts, size); !slices.Equal(got, numbers) || !ok {
				t.Errorf("UnwrapCounts by %d of %d: %v %v, want %v", step, size, got, ok, numbers)
			}
			checkUnwrap(t, counts, size)
		}
	}
}

func TestAllShortCounts(t *testing.T) {
	for size := 2; size <= 7; size++ {
		for i := range size * size * size * size {
			checkUnwrap(t, []int{i % size, i / size % size, i / size / size % size, i / size / size / size}, size)
		}
	}
}

func TestDrawnCounts(t *testing.T) {
	r := rand.New(rand.NewSource(111))
	for n := 1; n <= mostCounts+1; n++ {
		for _, size := range []int{2, 3, 10, 11, 64, 12345, 999999, 1000000, drawnBetween(r, 2, mostSize)} {
			l := make([]int, n)
			for i := range l {
				l[i] = r.Intn(size)
			}
			checkUnwrap(t, l, size)
		}
	}
}

func checkNoCounts(t *testing.T, l []int, size int) {
	t.Helper()
	if got, ok := impl.UnwrapCounts(l, size); len(got) != 0 || ok {
		t.Errorf("UnwrapCounts of %.200v, %d: %v %v", l, size, got, ok)
	}
	checkUnwrap(t, l, size)
}

func TestWrongCounts(t *testing.T) {
	for _, size := range []int{2, 3, 10, 1000000} {
		for _, wrong := range []int{-1, size, size + 1, -size, 2 * size, math.MaxInt, math.MinInt} {
			for _, n := range []int{1, 2, 5, mostCounts} {
				for at := range n {
					l := slices.Repeat([]int{1}, n)
					l[at] = wrong
					checkNoCounts(t, l, size)
				}
			}
		}
		for _, good := range []int{0, size - 1} {
			for at := range mostCounts {
				l := slices.Repeat([]int{1}, mostCounts)
				l[at] = good
				if _, ok := impl.UnwrapCounts(l, size); !ok {
					t.Errorf("UnwrapCounts with %d of %d at %d is false", good, size, at)
				}
				checkUnwrap(t, l, size)
			}
		}
	}
}

func TestTooFewOrTooManyCounts(t *testing.T) {
	for _, size := range []int{2, 10, 1000000} {
		checkNoCounts(t, nil, size)
		checkNoCounts(t, []int{}, size)
		for _, n := range []int{mostCounts + 1, mostCounts + 2, 1000} {
			checkNoCounts(t, make([]int, n), size)
		}
		if got, ok := impl.UnwrapCounts(make([]int, mostCounts), size); len(got) != mostCounts || !ok {
			t.Errorf("UnwrapCounts of %d counts: %v %v", mostCounts, got, ok)
		}
	}
}

func TestCountsOfWrongSizes(t *testing.T) {
	for _, size := range []int{1, 0, -1, -2, -10, 1000001, 2000000, math.MaxInt, math.MinInt} {
		for _, l := range [][]int{nil, {}, {0}, {0, 0}, {0, 1}, {-1}, {5, 4, 3}} {
			checkNoCounts(t, l, size)
		}
	}
}
