package tests

import (
	"math/rand"
	"slices"
	"strings"
	"testing"

	"loop.example/g00047/impl"
)

func TestQuadValue(t *testing.T) {
	for _, c := range []struct {
		q    impl.Quad
		x    string
		want string
	}{
		{quadOf("1", "0", "", ""), "0", "0"},
		{quadOf("1", "0", "", ""), "3", "9/2"},
		{quadOf("1", "0", "", ""), "-3", "9/2"},
		{quadOf("1", "-2", "", ""), "3", "-3/2"},
		{quadOf("1", "-2", "", ""), "-3", "21/2"},
		{quadOf("2/3", "1/5", "", ""), "1/2", "11/60"},
		// Where x does not fit it has its value all the same.
		{quadOf("1", "-2", "1", "-7"), "3", "-3/2"},
		{quadOf("2 0 | 0 4", "0 0", "", ""), "1 1", "3"},
		{quadOf("2 1 | 1 2", "0 0", "", ""), "1 1", "3"},
		{quadOf("2 1 | 1 2", "0 0", "", ""), "1 -1", "1"},
		{quadOf("2 1 | 1 2", "5 7", "", ""), "1 -1", "-1"},
		{quadOf("2 1 | 1 2", "5 7", "", ""), "-1 1", "3"},
		{quadOf("2 1 | 1 4", "0 0", "", ""), "1 0", "1"},
		{quadOf("2 1 | 1 4", "0 0", "", ""), "0 1", "2"},
		{quadOf("2 1 0 | 1 2 1 | 0 1 2", "1 10 100", "", ""), "1 1 1", "116"},
		{quadOf("2 1 0 | 1 2 1 | 0 1 2", "1 10 100", "", ""), "1 0 0", "2"},
		{quadOf("2 1 0 | 1 2 1 | 0 1 2", "1 10 100", "", ""), "0 1 0", "11"},
		{quadOf("2 1 0 | 1 2 1 | 0 1 2", "1 10 100", "", ""), "0 0 1", "101"},
		{quadOf("2 1 0 | 1 2 1 | 0 1 2", "1 10 100", "", ""), "1 0 1", "103"},
		{quadOf("2 1 0 | 1 2 1 | 0 1 2", "1 10 100", "", ""), "1 1 0", "14"},
	} {
		x := strings.Fields(c.x)
		if got, ok := impl.QuadValue(c.q, x); got != c.want || !ok {
			t.Errorf("QuadValue of %v, %s: %q %v, want %s", c.q, c.x, got, ok, c.want)
		}
		checkAt(t, c.q, x)
	}
}

func TestQuadFits(t *testing.T) {
	tiny := "1/" + nines(400)
	for _, c := range []struct {
		g, limits, x string
		want         bool
	}{
		{"", "", "7", true},
		{"1", "1", "0", true},
		{"1", "1", "1", true},
		{"1", "1", "1000001/1000000", false},
		{"1", "1", "-100", true},
		{"-1", "1", "-1", true},
		{"-1", "1", "-1000001/1000000", false},
		{"0", "0", "5", true},
		{"0", "-" + tiny, "5", false},
		{"0", tiny, "5", true},
		{"1", tiny, tiny, true},
		{"1", "0", tiny, false},
		{"1", "0", "-" + tiny, true},
		{"1/3 | 1/2", "1 1", "2", true},
		{"1/3 | 1/2", "1 1", "3", false},
		{"1/3 | -1/2", "1 1", "3", true},
		// Each row is asked: the first, one in the midst, the last.
		{"1 | 1 | 1 | 1 | 1", "0 1 1 1 1", "1", false},
		{"1 | 1 | 1 | 1 | 1", "1 1 0 1 1", "1", false},
		{"1 | 1 | 1 | 1 | 1", "1 1 1 1 0", "1", false},
		{"1 | 1 | 1 | 1 | 1", "1 1 1 1 1", "1", true},
		{"1 1", "2", "1 1", true},
		{"1 1", "2", "1 2", false},
		{"1 -1", "0", "5 5", true},
		{"1 -1", "0", "5 4", false},
		{"1 0 | 0 1", "1 2", "1 2", true},
		{"1 0 | 0 1", "1 2", "2 1", false},
		{"1 2 3", "14", "1 2 3", true},
		{"1 2 3", "13", "1 2 3", false},
		{"1 2 3 | -1 -2 -3", "14 -14", "1 2 3", true},
		{"1 2 3 | -1 -2 -3", "14 -15", "1 2 3", false},
	} {
		x := strings.Fields(c.x)
		q := impl.Quad{H: identity(len(x), "1"), F: x, Limits: strings.Fields(c.limits)}
		if c.g != "" {
			q.G = square(c.g)
		}
		if got := impl.QuadFits(q, x); got != c.want {
			t.Errorf("QuadFits of %s, %s at %s: %v", c.g, c.limits, c.x, got)
		}
		checkAt(t, q, x)
	}
}

// In each row of each quad the limit may be met exactly, and not be overstepped by anything.
func TestQuadFitsRowByRow(t *testing.T) {
	for n := 1; n <= mostState; n++ {
		for rows := 1; rows <= mostLimits; rows++ {
			for at := range rows {
				l := goodLookout(t, n, rows)
				w, x := bowlOf(t, l.q), ratList(t, l.x)
				for i := range rows {
					l.q.Limits[i] = textOf(plus(product(w.g[i], x), whole(1)))
				}
				met := textOf(product(w.g[at], x))
				for _, more := range []string{"0", "1/1000", "1/" + tenTo(350), "-1/1000", "-1/" + tenTo(350)} {
					l.q.Limits[at] = impl.AddFrac(met, more)
					if got := impl.QuadFits(l.q, l.x); got != (more[0] != '-') {
						t.Errorf("QuadFits of %.300v, %v: %v", l.q, l.x, got)
					}
					checkAt(t, l.q, l.x)
				}
			}
		}
	}
}

func TestDrawnNumbersAreAsked(t *testing.T) {
	r := rand.New(rand.NewSource(239))
	fits := 0
	for i := range 300 {
		n, rows := 1+i%mostState, i/mostState%(mostLimits+1)
		for _, q := range []impl.Quad{drawnQuad(t, r, n, rows, 1+i%9), smallQuad(r, n, rows)} {
			for _, x := range [][]string{drawnTexts(r, n, 1+i%9), smallTexts(r, n, -2, 2), slices.Repeat([]string{"0"}, n)} {
				checkAt(t, q, x)
				if impl.QuadFits(q, x) {
					fits++
				}
			}
		}
	}
	if fits < 200 || fits > 1600 {
		t.Error("fits:", fits)
	}
}

// What the value is at two numbers together is what it is at each, and what H has between them.
func TestValuesAddUp(t *testing.T) {
	r := rand.New(rand.NewSource(240))
	for i := range 60 {
		n := 1 + i%mostState
		q := drawnQuad(t, r, n, i%2, 2)
		x, y, both := drawnTexts(r, n, 2), drawnTexts(r, n, 2), []string{}
		for k := range n {
			both = append(both, impl.AddFrac(x[k], y[k]))
		}
		one, _ := impl.QuadValue(q, x)
		two, _ := impl.QuadValue(q, y)
		sum, ok := impl.QuadValue(q, both)
		between := textOf(product(ratList(t, x), column(rowsByColumns(ratRows(t, q.H), upright(ratList(t, y))), 0)))
		if want := impl.AddFrac(impl.AddFrac(one, two), between); sum != want || !ok {
			t.Errorf("QuadValue of %v: %q at %q, %q at %q, %q at %q", q, one, x, two, y, sum, both)
		}
	}
}
