package tests

import (
	"fmt"
	"math"
	"math/big"
	"math/rand"
	"slices"
	"testing"

	"loop.example/g00047/impl"
)

// squareAt is the exact square of the radius around z[at].
func squareAt(coefs []*big.Rat, z []impl.Point, at int) *big.Rat {
	n := int64(len(z))
	last := coefs[len(coefs)-1]
	square := times(big.NewRat(n*n, 1), spotOf(z[at]).at(coefs).square())
	square.Quo(square, times(last, last))
	for i := range z {
		if i != at {
			square.Quo(square, spotOf(z[at]).sub(spotOf(z[i])).square())
		}
	}
	return square
}

// floatAbove is the least good float that is not below an exact number from 0 on; infinite where there is none.
func floatAbove(r *big.Rat) float64 {
	x := rounded(r)
	if math.IsInf(x, 1) && r.Cmp(exact(greatest)) <= 0 {
		x = greatest
	}
	if !math.IsInf(x, 1) && exact(x).Cmp(r) < 0 {
		x = stepUp(x)
	}
	return x
}

// checkDisks holds the disks of good arguments against exact numbers, and answers them.
func checkDisks(t *testing.T, coefs []string, z []impl.Point) ([]impl.Disk, bool) {
	t.Helper()
	inCoefs, inZ := behind(coefs, "1/0", "7"), behind(z, strange)
	got, ok := impl.DisksOf(inCoefs, inZ)
	want, wantOk := make([]impl.Disk, len(z)), true
	for i := range z {
		want[i] = impl.Disk{Centre: z[i], Square: floatAbove(squareAt(ratList(t, coefs), z, i))}
		wantOk = wantOk && !math.IsInf(want[i].Square, 0)
	}
	if !wantOk {
		want = nil
	}
	if !slices.EqualFunc(got, want, sameDisk) || ok != wantOk {
		t.Errorf("DisksOf(%.80q, %x): got %x %v, want %x %v", coefs, z, got, ok, want, wantOk)
	}
	if !kept(inCoefs, coefs, func(a, b string) bool { return a == b }, "1/0", "7") || !kept(inZ, z, samePoint, strange) {
		t.Errorf("DisksOf changed its arguments: %.80q %v", inCoefs, inZ)
	}
	return got, ok
}

func checkNoDisks(t *testing.T, what string, coefs []string, z []impl.Point) {
	t.Helper()
	if got, ok := impl.DisksOf(coefs, z); len(got) != 0 || ok {
		t.Errorf("DisksOf of %s: %v %v", what, got, ok)
	}
}

func TestDisksOfByHand(t *testing.T) {
	for _, c := range []struct {
		coefs   []string
		z       []impl.Point
		squares []float64
	}{
		{[]string{"-5", "1"}, []impl.Point{{Re: 2}}, []float64{9}},
		{[]string{"-5", "-1/2"}, []impl.Point{{Re: 2, Im: 3}}, []float64{153}},
		{[]string{"-5", "1"}, []impl.Point{{Re: 5}}, []float64{0}},
		// A root is found: nothing is missed there. Elsewhere: 2 * 3 / 2, squared.
		{[]string{"-1", "0", "1"}, []impl.Point{{Re: 1}, {Re: 2}}, []float64{0, 36}},
		{[]string{"1", "0", "1"}, []impl.Point{{Im: 1}, {Im: -1}}, []float64{0, 0}},
		{[]string{"1", "0", "1"}, []impl.Point{{Re: 1, Im: 1}, {Re: 1, Im: -1}}, []float64{5, 5}},
		// 1/3 is no float: the one above it.
		{[]string{"1", "3"}, []impl.Point{{}}, []float64{stepUp(1.0 / 9)}},
		{[]string{"1/" + tenTo(399), "1"}, []impl.Point{{}}, []float64{least}},
		{[]string{"0", "1"}, []impl.Point{{}}, []float64{0}},
	} {
		got, _ := checkDisks(t, c.coefs, c.z)
		for i, d := range got {
			if !same(d.Square, c.squares[i]) {
				t.Errorf("DisksOf(%v, %v): %v at %d, want %v", c.coefs, c.z, d.Square, i, c.squares[i])
			}
		}
	}
}

func TestDisksOfDrawnPolynomials(t *testing.T) {
	r := rand.New(rand.NewSource(36))
	for n := 1; n <= 10; n++ {
		for _, digits := range []int{1, 3, 20, 400} {
			coefs := make([]string, n+1)
			for i := range coefs {
				coefs[i] = randomFrac(r, digits)
			}
			if coefs[n] == "0" {
				coefs[n] = "-3/7"
			}
			checkDisks(t, coefs, pointList(r, n, nearPoint))
			checkDisks(t, coefs, guessInOrder(n))
		}
	}
}

// The sizes at which near points begin and end; just beyond both there is no answer.
func TestDisksOfAtTheSizesOfNearPoints(t *testing.T) {
	coefs := []string{"2", "-3", "1/7"}
	ends := []float64{0x1p-200, -0x1p-200, stepUp(0x1p-200), 0x1p60, -0x1p60, stepDown(0x1p60), 0x1.fffffffffffffp-200, 0}
	for _, x := range ends {
		for _, y := range ends {
			checkDisks(t, coefs, []impl.Point{{Re: x, Im: y}, {Re: 1}})
			checkDisks(t, coefs, []impl.Point{{Re: 1}, {Re: x, Im: y}})
			if x != y {
				checkDisks(t, coefs, []impl.Point{{Re: x, Im: y}, {Re: y, Im: x}})
			}
		}
	}
	for _, x := range []float64{stepDown(0x1p-200), 0x1p-201, least, leastFull, stepUp(0x1p60), 0x1p61, greatest} {
		for _, s := range []float64{x, -x} {
			checkNoDisks(t, fmt.Sprint(s), coefs, []impl.Point{{Re: s}, {Re: 1}})
			checkNoDisks(t, fmt.Sprint(s), coefs, []impl.Point{{Re: 1}, {Re: 1, Im: s}})
		}
	}
}

// Up to the greatest float there is an answer, beyond it there is none.
func TestDisksOfSquaresAtTheGreatestFloat(t *testing.T) {
	root := new(big.Int).Sqrt(exact(greatest).Num())
	if got, ok := checkDisks(t, []string{root.String(), "1"}, []impl.Point{{}}); !ok || got[0].Square != greatest {
		t.Errorf("the greatest Square: %v %v", got, ok)
	}
	beyond := new(big.Int).Add(root, big.NewInt(1)).String()
	checkNoDisks(t, "a Square just beyond", []string{beyond, "1"}, []impl.Point{{}})
	checkNoDisks(t, "a Square far beyond", []string{nines(400), "1/" + nines(400)}, []impl.Point{{}})
	// One of them is beyond, and the others are not: no disk is told.
	z := []impl.Point{{Re: 0x1p-200}, {Re: stepUp(0x1p-200)}, {Re: 1}}
	checkDisks(t, []string{"-1", "0", "0", "1"}, z)
	checkDisks(t, []string{"-" + tenTo(80), "0", "0", "1"}, z)
	checkNoDisks(t, "points that are too near", []string{"-" + tenTo(80), "0", "0", "1"}, z)
}

func TestDisksOfWithoutAnswer(t *testing.T) {
	one, two := []impl.Point{{Re: 1}}, []impl.Point{{Re: 1}, {Im: 1}}
	checkNoDisks(t, "no coefficient", nil, nil)
	checkNoDisks(t, "no coefficient and a point", nil, one)
	checkNoDisks(t, "the degree 0", []string{"1"}, nil)
	checkNoDisks(t, "the degree 0 and a point", []string{"1"}, one)
	checkNoDisks(t, "0 alone", []string{"0"}, nil)
	checkNoDisks(t, "a last coefficient of 0", []string{"1", "0"}, one)
	checkNoDisks(t, "a last coefficient of 0 behind another", []string{"1", "1", "0"}, two)
	checkNoDisks(t, "a last coefficient of 0, and points for those ahead", []string{"1", "1", "0"}, one)
	checkNoDisks(t, "noughts", []string{"0", "0"}, one)
	checkNoDisks(t, "no point", []string{"1", "1"}, nil)
	checkNoDisks(t, "too few points", []string{"1", "1", "1"}, one)
	checkNoDisks(t, "too many points", []string{"1", "1"}, two)
	checkNoDisks(t, "points the same", []string{"1", "1", "1"}, []impl.Point{{Re: 1, Im: 2}, {Re: 1, Im: 2}})
	checkNoDisks(t, "noughts the same", []string{"1", "1", "1", "1"}, []impl.Point{{}, {Re: 1}, {}})
	coefs, z := make([]string, 12), make([]impl.Point, 11)
	for i := range coefs {
		coefs[i] = "1"
	}
	for i := range z {
		z[i] = impl.Point{Re: float64(i)}
	}
	checkNoDisks(t, "the degree 11", coefs, z)
	checkDisks(t, coefs[:11], z[:10])
	// Points that differ in one part alone are not the same.
	checkDisks(t, []string{"1", "1", "1", "1"}, []impl.Point{{Re: 1, Im: 2}, {Re: 1, Im: stepUp(2)}, {Re: -1, Im: 2}})
}

// drawnRoots is a polynomial with real coefficients, and its roots, each as often as it is one. Some of them are ones several times.
func drawnRoots(r *rand.Rand, n int) ([]*big.Rat, []spot) {
	coefs, roots := []*big.Rat{big.NewRat(r.Int63n(9)+1, r.Int63n(9)+1)}, []spot{}
	part := func() *big.Rat { return big.NewRat(r.Int63n(81)-40, r.Int63n(4)+1) }
	for len(roots) < n {
		re, im := part(), part()
		if len(roots) > 0 && r.Intn(12) == 0 {
			re = roots[r.Intn(len(roots))].re
		}
		if len(roots)+2 > n || r.Intn(2) == 0 {
			roots = append(roots, spot{re, new(big.Rat)})
			coefs = polyProduct(coefs, []*big.Rat{negative(re), big.NewRat(1, 1)})
			continue
		}
		roots = append(roots, spot{re, im}, spot{re, negative(im)})
		coefs = polyProduct(coefs, []*big.Rat{spot{re, im}.square(), times(big.NewRat(-2, 1), re), big.NewRat(1, 1)})
	}
	return coefs, roots
}

// beside is a point near a root: off by at most 2 to the -off.
func beside(r *rand.Rand, root spot, off int) impl.Point {
	shake := func(x *big.Rat) float64 {
		return rounded(x) + (2*r.Float64()-1)*math.Ldexp(1, -off)
	}
	return impl.Point{Re: shake(root.re), Im: shake(root.im)}
}

// rootsIn counts the roots in a disk, its edge within.
func rootsIn(d impl.Disk, roots []spot) int {
	n := 0
	for _, root := range roots {
		if root.sub(spotOf(d.Centre)).square().Cmp(exact(d.Square)) <= 0 {
			n++
		}
	}
	return n
}

// Promise 3: where the disks lie apart each has just one of the roots.
func TestDisksApartHaveOneRootEach(t *testing.T) {
	r := rand.New(rand.NewSource(37))
	apart := 0
	for round := range 800 {
		n := 1 + round%10
		coefs, roots := drawnRoots(r, n)
		z := make([]impl.Point, n)
		off := r.Intn(30)
		for i := range z {
			z[i] = beside(r, roots[i], off)
		}
		disks, ok := impl.DisksOf(texts(t, coefs), z)
		if !ok {
			t.Fatalf("no disks of %v at %v", coefs, z)
		}
		if !impl.Apart(disks) {
			continue
		}
		apart++
		for _, d := range disks {
			if got := rootsIn(d, roots); got != 1 {
				t.Errorf("%d roots in %v of %v", got, d, disks)
			}
		}
	}
	if apart < 300 {
		t.Error("the disks were apart only", apart, "times")
	}
}

// The points of RootsOf, with the exact polynomial of its floats.
func TestDisksOfRootsFound(t *testing.T) {
	r := rand.New(rand.NewSource(38))
	apart := 0
	for round := range 100 {
		n := 1 + round%8
		coefs, roots := []float64{1}, []spot{}
		for i := range n {
			root := int64(3*i - r.Intn(2) - 8)
			roots = append(roots, spot{big.NewRat(root, 1), new(big.Rat)})
			coefs = append([]float64{0}, coefs...)
			for j := range len(coefs) - 1 {
				coefs[j] -= float64(root) * coefs[j+1]
			}
		}
		z, ok := impl.RootsOf(coefs, 60)
		fractions := make([]string, len(coefs))
		for i, c := range coefs {
			fractions[i] = impl.FracOfReal(c)
		}
		disks, okToo := impl.DisksOf(fractions, z)
		if !ok || !okToo || !impl.Apart(disks) {
			continue
		}
		apart++
		for _, d := range disks {
			if got := rootsIn(d, roots); got != 1 || d.Square > 1e-10 {
				t.Errorf("%d roots in %v of %v", got, d, disks)
			}
		}
	}
	if apart < 80 {
		t.Error("the disks were apart only", apart, "times")
	}
}
