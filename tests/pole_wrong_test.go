package tests

import (
	"fmt"
	"math"
	"math/rand"
	"slices"
	"sync"
	"testing"

	"loop.example/g00047/impl"
)

func TestWrongPointsHaveTheZeroAnswer(t *testing.T) {
	for _, p := range wrongPoints() {
		for _, q := range append(wrongPoints(), impl.Point{}, impl.Point{Re: 1}, impl.Point{Re: -2, Im: 3}) {
			what := fmt.Sprintf("of %x and %x", p, q)
			got, ok := impl.MulPoints(p, q)
			checkPoint(t, "MulPoints "+what, got, ok, impl.Point{}, false)
			got, ok = impl.MulPoints(q, p)
			checkPoint(t, "MulPoints turned "+what, got, ok, impl.Point{}, false)
			got, ok = impl.DivPoints(p, q)
			checkPoint(t, "DivPoints "+what, got, ok, impl.Point{}, false)
			got, ok = impl.DivPoints(q, p)
			checkPoint(t, "DivPoints turned "+what, got, ok, impl.Point{}, false)
		}
		for _, coefs := range [][]float64{{0}, {1}, {1, 2}, make([]float64, 11)} {
			got, ok := impl.PolyAt(coefs, p)
			checkPoint(t, fmt.Sprintf("PolyAt(%v, %x)", coefs, p), got, ok, impl.Point{}, false)
		}
	}
}

// A wrong float anywhere among the coefficients.
func TestWrongCoefficientsHaveTheZeroAnswer(t *testing.T) {
	r := rand.New(rand.NewSource(43))
	for _, n := range []int{1, 2, 5, 10} {
		for at := range n + 1 {
			for _, x := range wrongReals() {
				coefs := monic(r, n, nearReal)
				coefs[at] = x
				what := fmt.Sprintf("of %x at %d of %d", math.Float64bits(x), at, n+1)
				in, z := hidden(coefs), guessInOrder(n)
				p, ok := impl.PolyAt(in, impl.Point{Re: 0.5})
				checkPoint(t, "PolyAt "+what, p, ok, impl.Point{}, false)
				p, ok = impl.PolyAt(in, impl.Point{})
				checkPoint(t, "PolyAt at 0 "+what, p, ok, impl.Point{}, false)
				l, ok := impl.RootStep(in, z)
				checkPoints(t, "RootStep "+what, l, ok, nil, false)
				for _, steps := range []int{0, 1, 60} {
					l, ok = impl.RootsOf(in, steps)
					checkPoints(t, "RootsOf "+what, l, ok, nil, false)
				}
				checkKept(t, "a function of wrong coefficients", in, coefs)
			}
		}
	}
}

// A wrong point anywhere in a list of points.
func TestWrongPointsAnywhereInAList(t *testing.T) {
	r := rand.New(rand.NewSource(44))
	for _, n := range []int{1, 2, 5, 10} {
		coefs, fractions := monic(r, n, nearReal), make([]string, n+1)
		for i := range fractions {
			fractions[i] = impl.FracOfReal(coefs[i])
		}
		for at := range n {
			for _, p := range wrongPoints() {
				z := guessInOrder(n)
				z[at] = p
				what := fmt.Sprintf("of %x at %d of %d", p, at, n)
				in := behind(z, strange)
				l, ok := impl.RootStep(coefs, in)
				checkPoints(t, "RootStep "+what, l, ok, nil, false)
				checkNoDisks(t, what, fractions, in)
				if !kept(in, z, samePoint, strange) {
					t.Errorf("the points were changed %s: %v", what, in)
				}
			}
		}
	}
}

// A text that is no good fraction, anywhere among the coefficients, or as an end.
func TestWrongTextsAmongCoefficients(t *testing.T) {
	for _, s := range wrongTexts() {
		for _, n := range []int{1, 2, 4, 11} {
			for at := range n {
				coefs := make([]string, n)
				for i := range coefs {
					coefs[i] = "1"
				}
				coefs[at] = s
				checkNoCount(t, coefs, "-1", "1")
				checkNoDisks(t, fmt.Sprintf("%.60q", s), coefs, guessInOrder(n)[:n-1])
			}
		}
		checkNoCount(t, []string{"-2", "0", "1"}, s, "1")
		checkNoCount(t, []string{"-2", "0", "1"}, "1", s)
		checkNoCount(t, []string{"-2", "0", "1"}, s, s)
		checkNoCount(t, []string{"1"}, s, s)
	}
}

func checkNoCount(t *testing.T, coefs []string, lo string, hi string) {
	t.Helper()
	if n, ok := impl.RealRoots(coefs, lo, hi); n != 0 || ok {
		t.Errorf("RealRoots(%.100q, %.60q, %.60q): %d %v", coefs, lo, hi, n, ok)
	}
}

func TestRealRootsWithoutAnswer(t *testing.T) {
	checkNoCount(t, nil, "0", "1")
	checkNoCount(t, []string{}, "0", "1")
	checkNoCount(t, []string{"0"}, "0", "1")
	checkNoCount(t, []string{"0"}, "0", "0")
	checkNoCount(t, []string{"0", "0"}, "0", "1")
	checkNoCount(t, []string{"1", "0"}, "0", "1")
	checkNoCount(t, []string{"-1", "1", "0"}, "0", "1")
	checkNoCount(t, make([]string, 3), "0", "1")
	for _, n := range []int{12, 13, 100} {
		coefs := make([]string, n)
		for i := range coefs {
			coefs[i] = "1"
		}
		checkNoCount(t, coefs, "0", "1")
		checkCount(t, coefs[:11], "-9", "9", 0)
	}
	// lo above hi, by however little.
	six := []string{"-6", "11", "-6", "1"}
	checkNoCount(t, six, "4", "0")
	checkNoCount(t, six, "1", "-1")
	checkNoCount(t, six, "1/"+nines(399), "1/"+nines(400))
	checkNoCount(t, []string{"5"}, "1/2", "1/3")
	checkCount(t, six, "1/"+nines(400), "1/"+nines(399), 0)
}

// What is answered is new memory: whoever writes into it changes no argument and no later answer.
func TestPoleAnswersAreNewMemory(t *testing.T) {
	coefs, z := []float64{-6, 11, -6, 1}, []impl.Point{{Re: 1}, {Re: 2, Im: 1}, {Re: 4}}
	fractions := []string{"-6", "11", "-6", "1"}
	before := slices.Clone(z)
	for range 3 {
		guess := impl.FirstGuess(10)
		checkPoints(t, "FirstGuess again", guess, true, guessInOrder(10), true)
		step, ok := impl.RootStep(coefs, z)
		want, wantOk := stepInOrder(coefs, before)
		checkPoints(t, "RootStep again", step, ok, want, wantOk)
		roots, ok := impl.RootsOf(coefs, 0)
		checkPoints(t, "RootsOf again", roots, ok, guessInOrder(3), true)
		disks, _ := checkDisks(t, fractions, before)
		for _, l := range [][]impl.Point{guess, step, roots} {
			for i := range l {
				l[i] = strange
			}
		}
		for i := range disks {
			disks[i] = impl.Disk{Centre: strange, Square: math.NaN()}
		}
		if !slices.EqualFunc(z, before, samePoint) {
			t.Fatal("the points were changed:", z)
		}
	}
}

// The same call has the same answer every time, many at once too.
func TestPoleAnswersAreTheSameEveryTime(t *testing.T) {
	coefs, fractions := []float64{-6, 11, -6, 1}, []string{"-6", "11", "-6", "1"}
	roots, _ := impl.RootsOf(coefs, 30)
	disks, _ := impl.DisksOf(fractions, roots)
	var all sync.WaitGroup
	for range 8 {
		all.Go(func() {
			for range 50 {
				z, ok := impl.RootsOf(coefs, 30)
				d, okToo := impl.DisksOf(fractions, roots)
				n, okCount := impl.RealRoots(fractions, "0", "5/2")
				if !ok || !okToo || !okCount || n != 2 || !slices.EqualFunc(z, roots, samePoint) || !slices.EqualFunc(d, disks, sameDisk) || !impl.Apart(d) {
					t.Error("another answer:", z, d, n)
				}
			}
		})
	}
	all.Wait()
}

// FuzzPoles asks every function of any floats and texts.
func FuzzPoles(f *testing.F) {
	for _, x := range append(edgeReals(), wrongReals()...) {
		f.Add(math.Float64bits(x), uint64(0x3ff0000000000000), uint64(0x4008000000000000), uint64(0), "-2", "1/2", "3")
	}
	for _, s := range append(goodTexts(), "", "-0", "1/0", "2/4") {
		f.Add(uint64(0x3fd999999999999a), uint64(0x3feccccccccccccd), uint64(0x4000000000000000), uint64(0xbff0000000000000), s, "1", "-1/2")
	}
	f.Fuzz(func(t *testing.T, u uint64, v uint64, w uint64, x uint64, a string, b string, c string) {
		p := impl.Point{Re: math.Float64frombits(u), Im: math.Float64frombits(v)}
		q := impl.Point{Re: math.Float64frombits(w), Im: math.Float64frombits(x)}
		if !isPoint(p) || !isPoint(q) {
			got, ok := impl.MulPoints(p, q)
			checkPoint(t, "MulPoints", got, ok, impl.Point{}, false)
			got, ok = impl.DivPoints(p, q)
			checkPoint(t, "DivPoints", got, ok, impl.Point{}, false)
			checkNoDisks(t, "a wrong point", []string{"1", "1", "1"}, []impl.Point{p, q})
			return
		}
		checkTwoPoints(t, p, q)
		checkPoly(t, []float64{p.Re, p.Im, q.Re}, q)
		checkStep(t, []float64{p.Re, q.Im, 1}, []impl.Point{p, q})
		checkRoots(t, []float64{p.Re, q.Im, 1}, 3)
		texts := []string{a, b, c}
		if !isFrac(a) || !isFrac(b) || !isFrac(c) || c == "0" {
			checkNoDisks(t, "wrong texts", texts, []impl.Point{p, q})
			return
		}
		if p != q && isNear(p) && isNear(q) {
			checkDisks(t, texts, []impl.Point{p, q})
		}
		checkCut(t, texts, "-"+nines(400), "0", nines(400))
	})
}

// isNear: both floats of a good point are 0 or of a size from 2^-200 to 2^60.
func isNear(p impl.Point) bool {
	for _, x := range []float64{p.Re, p.Im} {
		if x != 0 && (exact(math.Abs(x)).Cmp(power(-200)) < 0 || exact(math.Abs(x)).Cmp(power(60)) > 0) {
			return false
		}
	}
	return true
}
