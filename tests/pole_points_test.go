package tests

import (
	"fmt"
	"math"
	"math/rand"
	"testing"

	"loop.example/g00047/impl"
)

func TestMulPointsByHand(t *testing.T) {
	for _, c := range []struct{ a, b, want impl.Point }{
		{impl.Point{Re: 1, Im: 2}, impl.Point{Re: 3, Im: 4}, impl.Point{Re: -5, Im: 10}},
		{impl.Point{Im: 1}, impl.Point{Im: 1}, impl.Point{Re: -1}},
		{impl.Point{}, impl.Point{Re: greatest, Im: -greatest}, impl.Point{}},
		{impl.Point{Re: 0.1}, impl.Point{Re: 0.1}, impl.Point{Re: 0.010000000000000002}},
		{impl.Point{Re: 0.4, Im: 0.9}, impl.Point{Re: 0.4, Im: 0.9}, impl.Point{Re: -0.65, Im: 0.7200000000000001}},
		// Both products of the first part are rounded alike: nothing is left, but where one of them is not rounded by itself.
		{impl.Point{Re: 0.1, Im: 0.1}, impl.Point{Re: 0.3, Im: 0.3}, impl.Point{Im: 0.06}},
		// Noughts with a sign would come out of these.
		{impl.Point{Re: -1}, impl.Point{}, impl.Point{}},
		{impl.Point{Re: -1}, impl.Point{Im: 1}, impl.Point{Im: -1}},
		{impl.Point{Re: least}, impl.Point{Re: -least}, impl.Point{}},
		{impl.Point{Re: -least, Im: -least}, impl.Point{Re: 0.25}, impl.Point{}},
		{impl.Point{Re: -least, Im: least}, impl.Point{Re: least, Im: least}, impl.Point{}},
		{impl.Point{Re: greatest}, impl.Point{Re: 1}, impl.Point{Re: greatest}},
		{impl.Point{Re: 0x1p511, Im: 0x1p511}, impl.Point{Re: 0x1p512, Im: 0x1p511}, impl.Point{Re: 0x1p1022, Im: 0x1.8p1023}},
	} {
		got, ok := impl.MulPoints(c.a, c.b)
		checkPoint(t, fmt.Sprintf("MulPoints(%v, %v)", c.a, c.b), got, ok, c.want, true)
	}
}

func TestDivPointsByHand(t *testing.T) {
	for _, c := range []struct{ a, b, want impl.Point }{
		{impl.Point{Re: -5, Im: 10}, impl.Point{Re: 3, Im: 4}, impl.Point{Re: 1, Im: 2}},
		{impl.Point{Re: 1}, impl.Point{Im: 1}, impl.Point{Im: -1}},
		{impl.Point{Re: 1}, impl.Point{Re: 3}, impl.Point{Re: 1.0 / 3}},
		{impl.Point{}, impl.Point{Re: -1, Im: -1}, impl.Point{}},
		{impl.Point{}, impl.Point{Re: -1}, impl.Point{}},
		{impl.Point{Re: 1}, impl.Point{Re: -1}, impl.Point{Re: -1}},
		{impl.Point{Re: -least, Im: -least}, impl.Point{Re: 4}, impl.Point{}},
		{impl.Point{Re: 0x1p-537}, impl.Point{Re: 0x1p-537}, impl.Point{Re: 1}},
		{impl.Point{Re: 0x1p-500, Im: 0x1p-500}, impl.Point{Re: 0x1p-500, Im: 0x1p-500}, impl.Point{Re: 1}},
		// The product below is rounded up to the least float: (2^-538 * 1.5)^2 is 9/16 of it.
		{impl.Point{Re: 0x1p-530}, impl.Point{Re: 0x1.8p-538}, impl.Point{Re: 0x1.8p6}},
	} {
		got, ok := impl.DivPoints(c.a, c.b)
		checkPoint(t, fmt.Sprintf("DivPoints(%v, %v)", c.a, c.b), got, ok, c.want, true)
	}
}

func TestDivPointsWithoutQuotient(t *testing.T) {
	for _, c := range []struct{ a, b impl.Point }{
		{impl.Point{Re: 1}, impl.Point{}},
		{impl.Point{}, impl.Point{}},
		// Here b is not 0, but d comes out as 0.
		{impl.Point{Re: 1}, impl.Point{Re: least}},
		{impl.Point{}, impl.Point{Im: -0x1p-538}},
		{impl.Point{Re: 0x1p-538}, impl.Point{Re: 0x1p-538, Im: 0x1p-538}},
		// Here d is infinite, and what is divided by it would be finite.
		{impl.Point{Re: 1}, impl.Point{Re: 0x1p512}},
		{impl.Point{}, impl.Point{Re: 1, Im: greatest}},
		{impl.Point{Re: 3, Im: 4}, impl.Point{Re: 0x1.8p511, Im: 0x1.8p511}},
		// Here the upper number is infinite, and d is not.
		{impl.Point{Re: 0x1p1000}, impl.Point{Re: 0x1p500}},
		{impl.Point{Re: greatest, Im: greatest}, impl.Point{Re: 1, Im: 1}},
		{impl.Point{Re: greatest, Im: -greatest}, impl.Point{Re: 1, Im: 1}},
		// Here the quotient itself is infinite.
		{impl.Point{Re: greatest}, impl.Point{Re: 0.5}},
		{impl.Point{Im: greatest}, impl.Point{Im: 0.5}},
	} {
		got, ok := impl.DivPoints(c.a, c.b)
		checkPoint(t, fmt.Sprintf("DivPoints(%v, %v)", c.a, c.b), got, ok, impl.Point{}, false)
	}
}

func TestMulPointsThatAreNotFinite(t *testing.T) {
	for _, c := range []struct{ a, b impl.Point }{
		{impl.Point{Re: greatest}, impl.Point{Re: 2}},
		{impl.Point{Im: greatest}, impl.Point{Re: -2}},
		// One part would be finite.
		{impl.Point{Re: 0x1p512}, impl.Point{Re: 1, Im: 0x1p512}},
		{impl.Point{Re: 0x1p512}, impl.Point{Re: 0x1p512, Im: 1}},
		// Both products are infinite, the difference would be 0 without an end of floats.
		{impl.Point{Re: 0x1p512, Im: 0x1p512}, impl.Point{Re: 0x1p512, Im: 0x1p512}},
		{impl.Point{Re: 0x1p512, Im: 0x1p512}, impl.Point{Re: 0x1p512, Im: -0x1p512}},
		// Only the sum is beyond.
		{impl.Point{Re: greatest, Im: greatest}, impl.Point{Re: 1, Im: -1}},
		{impl.Point{Re: greatest, Im: greatest}, impl.Point{Re: 1, Im: 1}},
	} {
		got, ok := impl.MulPoints(c.a, c.b)
		checkPoint(t, fmt.Sprintf("MulPoints(%v, %v)", c.a, c.b), got, ok, impl.Point{}, false)
	}
}

// checkTwoPoints holds product and quotient of two good points against the order told.
func checkTwoPoints(t *testing.T, a impl.Point, b impl.Point) {
	t.Helper()
	got, ok := impl.MulPoints(a, b)
	want, wantOk := mulInOrder(a, b)
	checkPoint(t, fmt.Sprintf("MulPoints(%x, %x)", a, b), got, ok, want, wantOk)
	got, ok = impl.DivPoints(a, b)
	want, wantOk = divInOrder(a, b)
	checkPoint(t, fmt.Sprintf("DivPoints(%x, %x)", a, b), got, ok, want, wantOk)
}

func TestPointsInTheOrderTold(t *testing.T) {
	r := rand.New(rand.NewSource(31))
	for range 4000 {
		checkTwoPoints(t, nearPoint(r), nearPoint(r))
		checkTwoPoints(t, smallPoint(r), nearPoint(r))
		checkTwoPoints(t, anyPoint(r), anyPoint(r))
		// Nearly the same products: what is left of them shows each rounding.
		p := nearPoint(r)
		checkTwoPoints(t, p, impl.Point{Re: p.Im, Im: stepUp(p.Re)})
		checkTwoPoints(t, p, impl.Point{Re: p.Im, Im: negated(p.Re)})
	}
}

// negated is -x, without a sign at a nought.
func negated(x float64) float64 {
	if x == 0 {
		return 0
	}
	return -x
}

func TestPointsOfEdges(t *testing.T) {
	l := append(edgeReals(), 0x1p512, -0x1p512, 0x1p-537, 0x1p-538, stepUp(0x1p-538), 0x1.7p-538)
	r := rand.New(rand.NewSource(32))
	for _, x := range l {
		for _, y := range l {
			u, v := l[r.Intn(len(l))], l[r.Intn(len(l))]
			checkTwoPoints(t, impl.Point{Re: x, Im: u}, impl.Point{Re: y, Im: v})
			checkTwoPoints(t, impl.Point{Re: u, Im: x}, impl.Point{Re: v, Im: y})
		}
	}
}

// checkPoly holds a polynomial at a good point against the order told.
func checkPoly(t *testing.T, coefs []float64, x impl.Point) {
	t.Helper()
	in := hidden(coefs)
	got, ok := impl.PolyAt(in, x)
	want, wantOk := polyInOrder(coefs, x)
	checkPoint(t, fmt.Sprintf("PolyAt(%x, %x)", coefs, x), got, ok, want, wantOk)
	checkKept(t, "PolyAt", in, coefs)
}

func TestPolyAtByHand(t *testing.T) {
	for _, c := range []struct {
		coefs   []float64
		x, want impl.Point
	}{
		{[]float64{7}, impl.Point{Re: 3, Im: 5}, impl.Point{Re: 7}},
		{[]float64{0}, impl.Point{Re: -3, Im: -5}, impl.Point{}},
		{[]float64{1, 0, 1}, impl.Point{Im: 1}, impl.Point{}},
		{[]float64{1, 2, 3}, impl.Point{Re: 2}, impl.Point{Re: 17}},
		{[]float64{1, 2, 3}, impl.Point{Re: 1, Im: 1}, impl.Point{Re: 3, Im: 8}},
		{[]float64{-6, 11, -6, 1}, impl.Point{Re: 2}, impl.Point{}},
		{[]float64{0, 0, 0}, impl.Point{Re: -1, Im: -1}, impl.Point{}},
		{[]float64{0, -1}, impl.Point{}, impl.Point{}},
		// The last coefficient may be 0, and of any size.
		{[]float64{5, 0, 0}, impl.Point{Re: greatest, Im: -greatest}, impl.Point{Re: 5}},
		{[]float64{0, 0, 0, 0, 0, 0, 0, 0, 0, 0, 1}, impl.Point{Re: 2}, impl.Point{Re: 1024}},
		{[]float64{0, 0, 0, 0, 0, 0, 0, 0, 0, 0, 1}, impl.Point{Re: 1, Im: 1}, impl.Point{Im: 32}},
	} {
		got, ok := impl.PolyAt(c.coefs, c.x)
		checkPoint(t, fmt.Sprintf("PolyAt(%v, %v)", c.coefs, c.x), got, ok, c.want, true)
	}
}

func TestPolyAtOfAllLengths(t *testing.T) {
	r := rand.New(rand.NewSource(33))
	for n := 1; n <= 11; n++ {
		for range 60 {
			checkPoly(t, realList(r, n, nearReal), nearPoint(r))
			checkPoly(t, realList(r, n, nearReal), smallPoint(r))
			checkPoly(t, realList(r, n, anyReal), smallPoint(r))
			checkPoly(t, realList(r, n, anyReal), anyPoint(r))
		}
	}
	for _, n := range []int{0, 12, 13, 200, 201} {
		got, ok := impl.PolyAt(make([]float64, n), impl.Point{Re: 1})
		checkPoint(t, fmt.Sprint("PolyAt of ", n, " coefficients"), got, ok, impl.Point{}, false)
	}
	if impl.MaxDegree != 10 {
		t.Error("MaxDegree is", impl.MaxDegree)
	}
}

// What is infinite on the way though the end would not be has no answer.
func TestPolyAtThatIsInfiniteOnTheWay(t *testing.T) {
	for _, c := range []struct {
		coefs []float64
		x     impl.Point
	}{
		{[]float64{-greatest, greatest}, impl.Point{Re: 2}},
		{[]float64{greatest, greatest}, impl.Point{Re: -2}},
		{[]float64{1, greatest, greatest}, impl.Point{Re: 1}},
		{[]float64{1, -greatest, 0x1p1023}, impl.Point{Re: -1}},
		{[]float64{0, 0, greatest}, impl.Point{Im: 2}},
		{[]float64{greatest, 0, greatest}, impl.Point{Im: 0x1.0000000000001p0}},
	} {
		got, ok := impl.PolyAt(c.coefs, c.x)
		checkPoint(t, fmt.Sprintf("PolyAt(%v, %v)", c.coefs, c.x), got, ok, impl.Point{}, false)
	}
	// Where nothing is infinite on the way the greatest float comes out.
	got, ok := impl.PolyAt([]float64{greatest, 0, 0}, impl.Point{Re: 1e300})
	checkPoint(t, "PolyAt of the greatest", got, ok, impl.Point{Re: math.MaxFloat64}, true)
}
