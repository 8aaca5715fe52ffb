package tests

import (
	"fmt"
	"math"
	"math/rand"
	"slices"
	"testing"

	"loop.example/g00047/impl"
)

func TestFirstGuess(t *testing.T) {
	checkPoints(t, "FirstGuess(1)", impl.FirstGuess(1), true, []impl.Point{{Re: 1}}, true)
	checkPoints(t, "FirstGuess(2)", impl.FirstGuess(2), true, []impl.Point{{Re: 1}, {Re: 0.4, Im: 0.9}}, true)
	checkPoints(t, "FirstGuess(3)", impl.FirstGuess(3), true, []impl.Point{{Re: 1}, {Re: 0.4, Im: 0.9}, {Re: -0.65, Im: 0.7200000000000001}}, true)
	for n := 1; n <= 10; n++ {
		checkPoints(t, fmt.Sprint("FirstGuess of ", n), impl.FirstGuess(n), true, guessInOrder(n), true)
	}
	for _, n := range []int{0, -1, 11, 12, 1 << 40, math.MaxInt, math.MinInt} {
		if l := impl.FirstGuess(n); len(l) != 0 {
			t.Errorf("FirstGuess(%d): %v", n, l)
		}
	}
}

// checkStep holds one step against the order told.
func checkStep(t *testing.T, coefs []float64, z []impl.Point) {
	t.Helper()
	inCoefs, inZ := hidden(coefs), behind(z, strange, impl.Point{Re: 1})
	got, ok := impl.RootStep(inCoefs, inZ)
	want, wantOk := stepInOrder(coefs, z)
	checkPoints(t, fmt.Sprintf("RootStep(%x, %x)", coefs, z), got, ok, want, wantOk)
	checkKept(t, "RootStep", inCoefs, coefs)
	if !kept(inZ, z, samePoint, strange, impl.Point{Re: 1}) {
		t.Errorf("RootStep changed its points: %v, before %v", inZ, z)
	}
}

func TestRootStepByHand(t *testing.T) {
	for _, c := range []struct {
		coefs   []float64
		z, want []impl.Point
	}{
		{[]float64{-5, 1}, []impl.Point{{Re: 1, Im: 1}}, []impl.Point{{Re: 5}}},
		{[]float64{0, 1}, []impl.Point{{Re: -7}}, []impl.Point{{}}},
		{[]float64{-6, 11, -6, 1}, []impl.Point{{Re: 1}, {Re: 2}, {Re: 3}}, []impl.Point{{Re: 1}, {Re: 2}, {Re: 3}}},
		// The second point is put with what the first one has become: that is 0 - (-4 / -4), and then 4 - 12 / 5.
		{[]float64{-4, 0, 1}, []impl.Point{{}, {Re: 4}}, []impl.Point{{Re: -1}, {Re: 1.6}}},
		{[]float64{1, 0, 1}, []impl.Point{{Re: 1}, {Im: 1}}, []impl.Point{{Im: -1}, {Im: 1}}},
	} {
		got, ok := impl.RootStep(c.coefs, c.z)
		checkPoints(t, fmt.Sprintf("RootStep(%v, %v)", c.coefs, c.z), got, ok, c.want, true)
	}
}

func TestRootStepsInTheOrderTold(t *testing.T) {
	r := rand.New(rand.NewSource(34))
	for n := 1; n <= 10; n++ {
		for range 12 {
			checkStep(t, monic(r, n, nearReal), pointList(r, n, nearPoint))
			checkStep(t, monic(r, n, nearReal), pointList(r, n, smallPoint))
			checkStep(t, monic(r, n, anyReal), pointList(r, n, smallPoint))
			checkStep(t, monic(r, n, anyReal), pointList(r, n, anyPoint))
			checkStep(t, monic(r, n, nearReal), guessInOrder(n))
		}
	}
}

func TestRootStepWithoutAnswer(t *testing.T) {
	one := []impl.Point{{Re: 3}}
	two := []impl.Point{{Re: 3}, {Im: 2}}
	for what, c := range map[string]struct {
		coefs []float64
		z     []impl.Point
	}{
		"no coefficient":                 {nil, nil},
		"one coefficient":                {[]float64{1}, nil},
		"one coefficient and a point":    {[]float64{1}, one},
		"a last coefficient of 2":        {[]float64{1, 2}, one},
		"a last coefficient of 0":        {[]float64{1, 0}, one},
		"a last coefficient of -1":       {[]float64{1, -1}, one},
		"a last coefficient just off 1":  {[]float64{1, stepDown(1)}, one},
		"the 1 ahead of the last":        {[]float64{1, 1, 0}, two},
		"no points":                      {[]float64{1, 1}, nil},
		"too few points":                 {[]float64{1, 0, 1}, one},
		"too many points":                {[]float64{1, 1}, two},
		"points that are the same":       {[]float64{1, 0, 1}, []impl.Point{{Re: 3}, {Re: 3}}},
		"points that are nearly so":      {[]float64{1, 0, 1}, []impl.Point{{Re: 0x1p-540}, {Re: 0x1p-541}}},
		"points too far off":             {[]float64{1, 0, 1}, []impl.Point{{Re: 0x1p600}, {}}},
		"points beyond the greatest off": {[]float64{1, 0, 1}, []impl.Point{{Re: greatest}, {Re: -greatest}}},
		"a value that is infinite":       {[]float64{greatest, 1}, []impl.Point{{Re: greatest}}},
	} {
		got, ok := impl.RootStep(c.coefs, c.z)
		checkPoints(t, "RootStep of "+what, got, ok, nil, false)
	}
	for _, n := range []int{11, 12, 199, 200} {
		coefs := append(make([]float64, n), 1)
		z := make([]impl.Point, n)
		for i := range z {
			z[i] = impl.Point{Re: float64(i)}
		}
		got, ok := impl.RootStep(coefs, z)
		checkPoints(t, fmt.Sprint("RootStep of the degree ", n), got, ok, nil, false)
	}
	// The first point becomes the second one within the step, so that the second one has nothing to divide by.
	got, ok := impl.RootStep([]float64{-3, 0, 1}, []impl.Point{{Re: 2}, {Re: 1}})
	checkPoints(t, "RootStep with a point that becomes another one", got, ok, nil, false)
	got, ok = impl.RootStep([]float64{0, 0, 1}, []impl.Point{{}, {}})
	checkPoints(t, "RootStep at a root twice", got, ok, nil, false)
}

// checkRoots holds so many steps against the order told, from each number to the next.
func checkRoots(t *testing.T, coefs []float64, most int) {
	t.Helper()
	want, wantOk := guessInOrder(len(coefs)-1), true
	for steps := range most + 1 {
		in := hidden(coefs)
		got, ok := impl.RootsOf(in, steps)
		checkPoints(t, fmt.Sprintf("RootsOf(%x, %d)", coefs, steps), got, ok, want, wantOk)
		checkKept(t, "RootsOf", in, coefs)
		if wantOk {
			want, wantOk = stepInOrder(coefs, want)
		}
	}
}

func TestRootsOfStepByStep(t *testing.T) {
	r := rand.New(rand.NewSource(35))
	for n := 1; n <= 10; n++ {
		checkRoots(t, monic(r, n, nearReal), 8)
		checkRoots(t, append(make([]float64, n), 1), 8)
	}
	checkRoots(t, []float64{-6, 11, -6, 1}, 60)
	checkRoots(t, []float64{1, 0, 1}, 60)
	checkRoots(t, []float64{1, 2, 1}, 60)
	checkRoots(t, monic(r, 5, anyReal), 60)
	checkRoots(t, []float64{3, -1, 4, -1, 5, -9, 2, -6, 5, -3, 1}, 20)
	// The first guess is the root.
	checkRoots(t, []float64{-1, 1}, 60)
	checkRoots(t, []float64{greatest, 1}, 3)
}

func TestRootsOfSteps(t *testing.T) {
	coefs := []float64{-6, 11, -6, 1}
	for _, steps := range []int{-1, 61, 62, math.MaxInt, math.MinInt} {
		got, ok := impl.RootsOf(coefs, steps)
		checkPoints(t, fmt.Sprint("RootsOf with steps ", steps), got, ok, nil, false)
	}
	got, ok := impl.RootsOf(coefs, 0)
	checkPoints(t, "RootsOf with no step", got, ok, impl.FirstGuess(3), true)
	if got, ok = impl.RootsOf(coefs, 60); !ok || len(got) != 3 {
		t.Errorf("RootsOf with 60 steps: %v %v", got, ok)
	}
	for _, wrong := range [][]float64{nil, {1}, {1, 2}, {1, 0}, {1, 1, 0}, {1, -1}, make([]float64, 11), append(make([]float64, 11), 1), append(make([]float64, 200), 1)} {
		for _, steps := range []int{0, 1, 60} {
			got, ok = impl.RootsOf(wrong, steps)
			checkPoints(t, fmt.Sprint("RootsOf ", wrong), got, ok, nil, false)
		}
	}
	if got, ok = impl.RootsOf(append(make([]float64, 10), 1), 0); !ok || len(got) != 10 {
		t.Errorf("RootsOf of the degree 10: %v %v", got, ok)
	}
}

// Where a step has no answer more steps have none either.
func TestRootsOfWithoutAnswerFromAStepOn(t *testing.T) {
	coefs := []float64{1e150, 0, 1}
	checkRoots(t, coefs, 60)
	for steps := range 61 {
		got, ok := impl.RootsOf(coefs, steps)
		if ok != (steps < 2) || ok != (len(got) == 2) {
			t.Errorf("RootsOf(%v, %d): %v %v", coefs, steps, got, ok)
		}
	}
}

// Roots that lie well apart are found.
func TestRootsOfFindsRoots(t *testing.T) {
	for _, c := range []struct {
		coefs []float64
		want  []impl.Point
	}{
		{[]float64{-6, 11, -6, 1}, []impl.Point{{Re: 1}, {Re: 2}, {Re: 3}}},
		{[]float64{1, 0, 1}, []impl.Point{{Im: 1}, {Im: -1}}},
		{[]float64{-1, 0, 0, 0, 1}, []impl.Point{{Re: 1}, {Re: -1}, {Im: 1}, {Im: -1}}},
		{[]float64{25, -6, 1}, []impl.Point{{Re: 3, Im: 4}, {Re: 3, Im: -4}}},
		{[]float64{-7, 1}, []impl.Point{{Re: 7}}},
	} {
		got, ok := impl.RootsOf(c.coefs, 60)
		if !ok || len(got) != len(c.want) {
			t.Fatalf("RootsOf(%v, 60): %v %v", c.coefs, got, ok)
		}
		for _, w := range c.want {
			if !slices.ContainsFunc(got, func(p impl.Point) bool { return math.Hypot(p.Re-w.Re, p.Im-w.Im) < 1e-12 }) {
				t.Errorf("RootsOf(%v, 60): %v has no %v", c.coefs, got, w)
			}
		}
	}
}
