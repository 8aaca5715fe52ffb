package tests

import (
	"math/rand"
	"slices"
	"testing"

	"loop.example/g00047/impl"
)

// Rows that press more than needed: the same x by several masks, of which the first is told.
func TestBestOfTheFirstMask(t *testing.T) {
	for _, c := range []struct {
		q     impl.Quad
		masks []int
		want  impl.Best
	}{
		// Rows alike, and a row that is a multiple of another one.
		{quadOf("1", "-2", "1 | 1", "1 1"), []int{1, 2}, bestOf("1", "1 0", "-3/2")},
		{quadOf("1", "-2", "2 | 1", "2 1"), []int{1, 2}, bestOf("1", "1/2 0", "-3/2")},
		{quadOf("1", "-2", "1 | 2", "1 2"), []int{1, 2}, bestOf("1", "1 0", "-3/2")},
		{quadOf("1", "-2", "1 | 1", "3/2 1"), []int{2}, bestOf("1", "0 1", "-3/2")},
		{quadOf("1", "-2", "1 | 1", "1 3/2"), []int{1}, bestOf("1", "1 0", "-3/2")},
		{quadOf("1", "-2", "3 | 1 | 1 | 1/2 | 2", "4 2 1 1/2 2"), []int{4, 8, 16}, bestOf("1", "0 0 1 0 0", "-3/2")},
		{quadOf("1", "-2", "1 | 1 | 1 | 1 | 1", "1 1 1 1 1"), []int{1, 2, 4, 8, 16}, bestOf("1", "1 0 0 0 0", "-3/2")},
		{quadOf("1 0 | 0 1", "-2 -2", "1 1 | 2 2", "2 4"), []int{1, 2}, bestOf("1 1", "1 0", "-3")},
		{quadOf("1 0 | 0 1", "-2 -3", "0 1 | 1 0 | 0 1 | 1 0", "1 1 1 1"), []int{3, 6, 9, 12}, bestOf("1 1", "2 1 0 0", "-4")},
		// A row of noughts: it never presses, as its equation has no answer or many.
		{quadOf("1", "-2", "0", "1"), []int{0}, bestOf("2", "0", "-2")},
		{quadOf("1", "-2", "0", "0"), []int{0}, bestOf("2", "0", "-2")},
		{quadOf("1", "-2", "0", "-1"), []int{}, impl.Best{Kind: impl.BestNone}},
		{quadOf("1", "-2", "0 | 1 | 0", "0 1 7"), []int{2}, bestOf("1", "0 1 0", "-3/2")},
		{quadOf("1", "-2", "1 | 0", "1 -1"), []int{}, impl.Best{Kind: impl.BestNone}},
		{quadOf("1 0 | 0 1", "-2 -2", "0 0 | 1 1 | 0 0", "0 2 0"), []int{2}, bestOf("1 1", "0 1 0", "-3")},
		{quadOf("1 0 0 | 0 1 0 | 0 0 1", "1 1 1", "0 0 0 | 0 0 0", "0 0"), []int{0}, bestOf("-1 -1 -1", "0 0", "-3/2")},
		// A limit that is met by itself: the row presses with 0, or not at all.
		{quadOf("1", "-1", "1", "1"), []int{0, 1}, bestOf("1", "0", "-1/2")},
		{quadOf("1", "-1", "1 | -1 | 2", "1 -1 2"), []int{0, 1, 2, 4}, bestOf("1", "0 0 0", "-1/2")},
		{quadOf("1", "0", "1 | -1", "0 0"), []int{0, 1, 2}, bestOf("0", "0 0", "0")},
		{quadOf("1 0 | 0 1", "-1 -1", "1 0 | 0 1 | 1 1", "1 1 2"), []int{0, 1, 2, 3, 4, 5, 6}, bestOf("1 1", "0 0 0", "-1")},
		{quadOf("1 0 | 0 1", "-1 -2", "1 0 | 0 1", "1 1"), []int{2, 3}, bestOf("1 1", "0 1", "-2")},
		{quadOf("1 0 | 0 1", "-2 -1", "1 0 | 0 1", "1 1"), []int{1, 3}, bestOf("1 1", "1 0", "-2")},
		// More rows meet in x than there are numbers: two of them hold it, or one alone.
		{quadOf("1", "0", "1 | -1", "1 -1"), []int{2}, bestOf("1", "0 1", "1/2")},
		{quadOf("1", "-3", "1 | -1", "1 -1"), []int{1}, bestOf("1", "2 0", "-5/2")},
		{quadOf("1 0 | 0 1", "-2 -2", "1 0 | 0 1 | 1 1", "1 1 2"), []int{3, 4, 5, 6}, bestOf("1 1", "1 1 0", "-3")},
		{quadOf("1 0 | 0 1", "-2 -2", "1 1 | 1 0 | 0 1", "2 1 1"), []int{1, 3, 5, 6}, bestOf("1 1", "1 0 0", "-3")},
		{quadOf("1 0 | 0 1", "-2 -2", "1 0 | 1 1 | 0 1", "1 2 1"), []int{2, 3, 5, 6}, bestOf("1 1", "0 1 0", "-3")},
		{quadOf("1 0 | 0 1", "-2 -3", "1 0 | 0 1 | 1 1", "1 1 2"), []int{3, 6}, bestOf("1 1", "1 2 0", "-4")},
		{quadOf("1 0 | 0 1", "-2 -3", "1 1 | 1 0 | 0 1", "2 1 1"), []int{5, 6}, bestOf("1 1", "1 0 1", "-4")},
		{quadOf("1 0 0 | 0 1 0 | 0 0 1", "-2 -2 -2", "1 0 0 | 0 1 0 | 0 0 1 | 1 1 1", "1 1 1 3"), []int{7, 8, 9, 10, 11, 12, 13, 14}, bestOf("1 1 1", "1 1 1 0", "-9/2")},
	} {
		w := bowlOf(t, c.q)
		if masks := w.masks(); !slices.Equal(masks, c.masks) {
			t.Errorf("the masks of %v: %v", c.q, masks)
		}
		got, ok := impl.BestOf(c.q)
		if !sameBest(got, c.want) || !ok {
			t.Errorf("BestOf of %v: %v %v, want %v", c.q, got, ok, c.want)
		}
		checkQuad(t, c.q)
		checkEveryMask(t, c.q)
	}
}

// checkEveryMask: what each mask has holds, and it is the same x for all of them; the first one is told. Returned is how many there are.
func checkEveryMask(t *testing.T, q impl.Quad) int {
	t.Helper()
	w := bowlOf(t, q)
	got, _ := impl.BestOf(q)
	masks := w.masks()
	for i, mask := range masks {
		x, press, _ := w.standAt(mask)
		b := impl.Best{Kind: impl.BestFound, X: texts(t, x), Press: texts(t, press), Value: textOf(w.value(x))}
		if !impl.BestHolds(q, b) || !slices.Equal(b.X, got.X) || i == 0 && !sameBest(got, b) {
			t.Errorf("%v: by the mask %d %v, told is %v", q, mask, b, got)
		}
	}
	if (len(masks) == 0) != (got.Kind == impl.BestNone) {
		t.Errorf("%v: %v, by the masks %v", q, got, masks)
	}
	return len(masks)
}

// Drawn rows of few numbers: alike, multiples of one another, noughts, more than there are numbers.
func TestBestOfDependentRows(t *testing.T) {
	r := rand.New(rand.NewSource(247))
	several := 0
	for i := range 500 {
		n, rows := 1+i%mostState, 2+i/mostState%(mostLimits-1)
		q := smallQuad(r, n, rows)
		for row := 1; row < rows; row++ {
			from := r.Intn(row)
			switch r.Intn(4) {
			case 0:
				q.G[row], q.Limits[row] = slices.Clone(q.G[from]), q.Limits[from]
			case 1:
				q.G[row] = slices.Clone(q.G[from])
			case 2:
				by := drawnLength(r, 1)
				for k := range n {
					q.G[row][k] = impl.MulFrac(q.G[from][k], by)
				}
				q.Limits[row] = impl.MulFrac(q.Limits[from], by)
			}
		}
		checkQuad(t, q)
		if checkEveryMask(t, q) > 1 {
			several++
		}
	}
	if several < 100 {
		t.Error("several masks:", several)
	}
}

// All rows go through one place, by which x is held wherever F pulls: mostly by several masks.
func TestBestOfRowsThroughOnePlace(t *testing.T) {
	r := rand.New(rand.NewSource(248))
	several := 0
	for i := range 300 {
		n, rows := 1+i%mostState, 1+i/mostState%mostLimits
		q := smallQuad(r, n, rows)
		at := ratList(t, smallTexts(r, n, -2, 2))
		for row := range rows {
			q.Limits[row] = textOf(product(ratList(t, q.G[row]), at))
		}
		if b := checkQuad(t, q); b.Kind != impl.BestFound {
			t.Errorf("BestOf of %v: %v, but %v fits", q, b, at)
		}
		if checkEveryMask(t, q) > 1 {
			several++
		}
	}
	if several < 100 {
		t.Error("several masks:", several)
	}
}

// Both sides of each row are shut: the limits are met exactly, and x has nowhere to go.
func TestBestOfShutRows(t *testing.T) {
	r := rand.New(rand.NewSource(249))
	for i := range 100 {
		n := 1 + i%2
		q := drawnQuad(t, r, n, 0, 1)
		at := drawnTexts(r, n, 2)
		for k := range n {
			for _, s := range []string{"1", "-1"} {
				row := slices.Repeat([]string{"0"}, n)
				row[k] = s
				q.G, q.Limits = append(q.G, row), append(q.Limits, impl.MulFrac(s, at[k]))
			}
		}
		if b := checkQuad(t, q); b.Kind != impl.BestFound || !slices.Equal(b.X, at) {
			t.Errorf("BestOf of %v: %v, want %v", q, b, at)
		}
		checkEveryMask(t, q)
		q.Limits[2*n-1] = impl.SubFrac(q.Limits[2*n-1], "1/"+tenTo(300))
		if b := checkQuad(t, q); b.Kind != impl.BestNone {
			t.Errorf("BestOf of %v: %v", q, b)
		}
	}
}
