package tests

import (
	"math"
	"math/big"
	"math/rand"
	"slices"
	"testing"

	"loop.example/g00047/impl"
)

func TestAheadQuad(t *testing.T) {
	one, two := "1 | -1", "1 0 | -1 0 | 0 1 | 0 -1"
	for _, c := range []struct {
		k    impl.Task
		want impl.Quad
	}{
		{taskOf("1 1 4 1 1", 1), quadOf("2", "4", one, "1 1")},
		{taskOf("2 3 5 7 11", 1), quadOf("16", "30", one, "11 11")},
		{taskOf("2 3 5 7 11", 2), quadOf("52 18 | 18 16", "150 60", two, "11 11 11 11")},
		{taskOf("-2 3 5 7 11", 1), quadOf("16", "-30", one, "11 11")},
		{taskOf("-2 3 5 7 11", 2), quadOf("52 -18 | -18 16", "-150 60", two, "11 11 11 11")},
		{taskOf("2 -3 5 7 11", 2), quadOf("52 18 | 18 16", "-150 -60", two, "11 11 11 11")},
		{taskOf("2 3 -5 7 11", 2), quadOf("52 18 | 18 16", "-150 -60", two, "11 11 11 11")},
		{taskOf("1 1 1 1 1/2", 2), quadOf("3 1 | 1 2", "2 1", two, "1/2 1/2 1/2 1/2")},
		{taskOf("0 3 5 7 1", 1), quadOf("16", "0", one, "1 1")},
		{taskOf("0 3 5 7 1", 2), quadOf("16 0 | 0 16", "0 0", two, "1 1 1 1")},
		{taskOf("2 0 5 7 1", 1), quadOf("7", "0", one, "1 1")},
		{taskOf("2 0 5 7 1", 2), quadOf("7 0 | 0 7", "0 0", two, "1 1 1 1")},
		{taskOf("2 3 0 7 1", 1), quadOf("16", "0", one, "1 1")},
		{taskOf("2 3 0 7 1", 2), quadOf("52 18 | 18 16", "0 0", two, "1 1 1 1")},
		{taskOf("1/2 1/3 1/5 1/7 1/11", 1), quadOf("16/63", "1/30", one, "1/11 1/11")},
		{taskOf("1/2 1/3 1/5 1/7 1/11", 2), quadOf("71/252 1/18 | 1/18 16/63", "1/24 1/60", two, "1/11 1/11 1/11 1/11")},
	} {
		if got, ok := impl.AheadQuad(c.k); !sameQuad(got, c.want) || !ok {
			t.Errorf("AheadQuad of %v: %v %v, want %v", c.k, got, ok, c.want)
		}
		checkTask(t, c.k)
	}
}

func TestAheadControl(t *testing.T) {
	for _, c := range []struct {
		k    impl.Task
		want string
	}{
		{taskOf("1 1 4 1 1", 1), "-1"},
		{taskOf("1 1 -4 1 1", 1), "1"},
		{taskOf("1 1 4 1 3/2", 1), "-3/2"},
		// At its limit exactly by itself, and just within it.
		{taskOf("1 1 4 1 2", 1), "-2"},
		{taskOf("1 1 -4 1 2", 1), "2"},
		{taskOf("1 1 4 1 2000001/1000000", 1), "-2"},
		{taskOf("1 1 4 1 1999999/1000000", 1), "-1999999/1000000"},
		{taskOf("1 1 4 1 5", 1), "-2"},
		{taskOf("1 1 1 1 5", 1), "-1/2"},
		{taskOf("1 -1 1 1 5", 1), "1/2"},
		{taskOf("-1 1 1 1 5", 1), "1/2"},
		{taskOf("1 1 0 1 5", 1), "0"},
		{taskOf("0 1 9 1 5", 1), "0"},
		{taskOf("1 0 9 1 5", 1), "0"},
		{taskOf("2 3 5 7 11", 1), "-15/8"},
		{taskOf("2 3 5 7 1", 1), "-1"},
		// Two steps: nothing presses, the first limit does, both do.
		{taskOf("1 1 5 1 5", 2), "-3"},
		{taskOf("1 1 5 1 3", 2), "-3"},
		{taskOf("1 1 5 1 2", 2), "-2"},
		{taskOf("1 1 -5 1 2", 2), "2"},
		{taskOf("1 1 100 1 2", 2), "-2"},
		{taskOf("1 1 5/3 1 1", 2), "-1"},
		{taskOf("1 1 0 1 1", 2), "0"},
		{taskOf("0 1 9 1 1", 2), "0"},
		{taskOf("3 0 9 1 1", 2), "0"},
		{taskOf("-2 1 1 1/4 1", 2), "1"},
	} {
		if got, ok := impl.AheadControl(c.k); got != c.want || !ok {
			t.Errorf("AheadControl of %v: %q %v, want %s", c.k, got, ok, c.want)
		}
		checkTask(t, c.k)
	}
}

func TestGoodTasks(t *testing.T) {
	tiny := "1/" + nines(400)
	for _, steps := range []int{1, 2} {
		for _, s := range []string{"1", "1/1000000", tiny, "2/" + nines(400)} {
			for _, k := range []impl.Task{taskOf("1 1 1 "+s+" 1", steps), taskOf("1 1 1 1 "+s, steps)} {
				if _, ok := impl.AheadControl(k); !ok && s != tiny && s[0] != '2' {
					t.Errorf("AheadControl of %.200v: false", k)
				}
				checkTask(t, k)
			}
		}
		for _, s := range []string{"0", "-1", "-1/1000000", "-" + tiny, "-" + nines(400)} {
			checkNoTask(t, taskOf("1 1 1 "+s+" 1", steps))
			checkNoTask(t, taskOf("1 1 1 1 "+s, steps))
		}
	}
	for _, steps := range append([]int{0, 3, 4, 5, -1, -2, 1 << 32, 1<<32 + 1, 1<<32 + 2, -1 << 32, math.MinInt32, math.MaxInt32}, farInts...) {
		if steps != 1 && steps != 2 {
			checkNoTask(t, taskOf("1 1 1 1 1", steps))
			checkTask(t, taskOf("2 3 5 7 11", steps))
		}
	}
	checkNoTask(t, impl.Task{})
}

// drawnTask has numbers of both signs, and 0 at times.
func drawnTask(r *rand.Rand, digits int) impl.Task {
	l := drawnTexts(r, 3, digits)
	if r.Intn(5) == 0 {
		l[r.Intn(3)] = "0"
	}
	return impl.Task{A: l[0], B: l[1], X: l[2], Weight: drawnLength(r, digits), Most: drawnLength(r, digits), Steps: 1 + r.Intn(2)}
}

// The value of the quad is half the sum that counts, but for what no control changes: half the sum without any.
func TestAheadValues(t *testing.T) {
	r := rand.New(rand.NewSource(251))
	for i := range 300 {
		k := drawnTask(r, 1+i%6)
		q, ok := impl.AheadQuad(k)
		if !ok {
			t.Fatalf("AheadQuad of %v is false", k)
		}
		u := drawnTexts(r, k.Steps, 2)
		got, ok := impl.QuadValue(q, u)
		still := halfSum(t, k, rats(make([]int64, k.Steps)...))
		if want := textOf(minus(halfSum(t, k, ratList(t, u)), still)); got != want || !ok {
			t.Errorf("QuadValue of the quad of %v, %q: %q %v, want %q", k, u, got, ok, want)
		}
		// The rows are those of the controls: each one in -Most..Most.
		within := true
		for _, n := range ratList(t, u) {
			within = within && new(big.Rat).Abs(n).Cmp(rat(t, k.Most)) <= 0
		}
		if impl.QuadFits(q, u) != within {
			t.Errorf("QuadFits of the quad of %v, %q: %v", k, u, !within)
		}
		for at := range k.Steps {
			for _, s := range []string{k.Most, "-" + k.Most} {
				u := slices.Repeat([]string{"0"}, k.Steps)
				u[at] = s
				more := impl.MulFrac(s, "1000001/1000000")
				if !impl.QuadFits(q, u) {
					t.Errorf("QuadFits of the quad of %v, %q is false", k, u)
				}
				if u[at] = more; impl.QuadFits(q, u) {
					t.Errorf("QuadFits of the quad of %v, %q", k, u)
				}
			}
		}
		checkTask(t, k)
	}
}

// No other controls within their limits cost less.
func TestAheadControlsCostLeast(t *testing.T) {
	r := rand.New(rand.NewSource(252))
	met := 0
	for i := range 200 {
		k := drawnTask(r, 1+i%2)
		q, _ := impl.AheadQuad(k)
		b, ok := impl.BestOf(q)
		u, fine := impl.AheadControl(k)
		if !ok || !fine || b.Kind != impl.BestFound || b.X[0] != u || !impl.BestHolds(q, b) {
			t.Fatalf("AheadControl of %v: %q %v, BestOf %v %v", k, u, fine, b, ok)
		}
		if u == k.Most || u == "-"+k.Most {
			met++
		}
		least := halfSum(t, k, ratList(t, b.X))
		for range 20 {
			other := []*big.Rat{}
			for range k.Steps {
				other = append(other, times(rat(t, k.Most), big.NewRat(int64(r.Intn(2001)-1000), 1000)))
			}
			if halfSum(t, k, other).Cmp(least) < 0 {
				t.Errorf("AheadControl of %v: %v, but %v cost less", k, b.X, other)
			}
		}
	}
	if met < 20 || met > 180 {
		t.Error("limits met:", met)
	}
}

// Where no limit is met the controls are those of chapter 15: there the first x counts too, which no control changes.
func TestAheadControlsWithoutLimits(t *testing.T) {
	r := rand.New(rand.NewSource(253))
	for i := range 200 {
		k := drawnTask(r, 1+i%3)
		k.Most = tenTo(100)
		u, cost, ok := impl.BestControls(impl.Cost{A: [][]string{{k.A}}, B: []string{k.B}, Q: [][]string{{"1"}}, R: k.Weight, Last: [][]string{{"1"}}, Steps: k.Steps}, []string{k.X})
		q, _ := impl.AheadQuad(k)
		b, fine := impl.BestOf(q)
		if !ok || !fine || !slices.Equal(b.X, u) || b.Press[0] != "0" {
			t.Errorf("BestOf of the quad of %v: %v %v, BestControls %q %v", k, b, fine, u, ok)
		}
		still := halfSum(t, k, rats(make([]int64, k.Steps)...))
		x := rat(t, k.X)
		if want := textOf(plus(times(whole(2), plus(rat(t, b.Value), still)), times(x, x))); cost != want {
			t.Errorf("BestControls of %v cost %q, by BestOf %q", k, cost, want)
		}
		if first, ok := impl.AheadControl(k); first != u[0] || !ok {
			t.Errorf("AheadControl of %v: %q %v, BestControls %q", k, first, ok, u)
		}
	}
}

// From the other side, or with the other sign of B, the control has the other sign.
func TestAheadControlsMirrored(t *testing.T) {
	r := rand.New(rand.NewSource(254))
	for range 100 {
		k := drawnTask(r, 2)
		u, _ := impl.AheadControl(k)
		other := k
		other.X = impl.SubFrac("0", k.X)
		v, _ := impl.AheadControl(other)
		other = k
		other.B = impl.SubFrac("0", k.B)
		w, _ := impl.AheadControl(other)
		if back := impl.SubFrac("0", u); v != back || w != back {
			t.Errorf("AheadControl of %v: %q, mirrored %q and %q", k, u, v, w)
		}
	}
}

func TestAllSmallTasks(t *testing.T) {
	eachTexts([]string{"-2", "-1", "0", "1", "1/2"}, 3, func(l []string) {
		for _, weight := range []string{"1", "1/3"} {
			for _, most := range []string{"1/4", "1", "5"} {
				for steps := 1; steps <= 2; steps++ {
					checkTask(t, impl.Task{A: l[0], B: l[1], X: l[2], Weight: weight, Most: most, Steps: steps})
				}
			}
		}
	})
}
