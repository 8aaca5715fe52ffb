package tests

import (
	"fmt"
	"math"
	"math/big"
	"math/rand"
	"slices"
	"testing"

	"loop.example/g00047/impl"
)

func samePoint(a impl.Point, b impl.Point) bool { return same(a.Re, b.Re) && same(a.Im, b.Im) }

func sameDisk(a impl.Disk, b impl.Disk) bool {
	return samePoint(a.Centre, b.Centre) && same(a.Square, b.Square)
}

func isPoint(p impl.Point) bool { return isReal(p.Re) && isReal(p.Im) }

// checkPoint holds an answer against what is wanted, bit by bit.
func checkPoint(t *testing.T, what string, got impl.Point, ok bool, want impl.Point, wantOk bool) {
	t.Helper()
	if !samePoint(got, want) || ok != wantOk {
		t.Errorf("%.300s: got %x %v, want %x %v", what, got, ok, want, wantOk)
	}
}

func checkPoints(t *testing.T, what string, got []impl.Point, ok bool, want []impl.Point, wantOk bool) {
	t.Helper()
	if !slices.EqualFunc(got, want, samePoint) || ok != wantOk {
		t.Errorf("%.300s: got %x %v, want %x %v", what, got, ok, want, wantOk)
	}
}

// divOnce is exact at first, and rounded once; NaN where there is no such quotient of finite numbers.
func divOnce(a float64, b float64) float64 {
	if math.IsInf(a, 0) || math.IsInf(b, 0) || math.IsNaN(a) || math.IsNaN(b) || b == 0 {
		return math.NaN()
	}
	return rounded(new(big.Rat).Quo(exact(a), exact(b)))
}

func subOnce(a float64, b float64) float64 { return addOnce(a, -b) }

// toldPoint is how a point is told: the zero point and false where a part of it is not finite.
func toldPoint(re float64, im float64) (impl.Point, bool) {
	x, okX := told(re)
	y, okY := told(im)
	if !okX || !okY {
		return impl.Point{}, false
	}
	return impl.Point{Re: x, Im: y}, true
}

// mulInOrder and divInOrder are the document's formulas, one rounding after the other, of any points.
func mulInOrder(a impl.Point, b impl.Point) (impl.Point, bool) {
	return toldPoint(subOnce(mulOnce(a.Re, b.Re), mulOnce(a.Im, b.Im)), addOnce(mulOnce(a.Re, b.Im), mulOnce(a.Im, b.Re)))
}

func divInOrder(a impl.Point, b impl.Point) (impl.Point, bool) {
	d := addOnce(mulOnce(b.Re, b.Re), mulOnce(b.Im, b.Im))
	re := addOnce(mulOnce(a.Re, b.Re), mulOnce(a.Im, b.Im))
	im := subOnce(mulOnce(a.Im, b.Re), mulOnce(a.Re, b.Im))
	return toldPoint(divOnce(re, d), divOnce(im, d))
}

func polyInOrder(coefs []float64, x impl.Point) (impl.Point, bool) {
	sum := impl.Point{}
	for _, c := range slices.Backward(coefs) {
		product, ok := mulInOrder(sum, x)
		if !ok {
			return impl.Point{}, false
		}
		if sum, ok = toldPoint(addOnce(product.Re, c), product.Im); !ok {
			return impl.Point{}, false
		}
	}
	return sum, true
}

// stepInOrder is one step of the document for a list of points; it leaves the list as it is.
func stepInOrder(coefs []float64, z []impl.Point) ([]impl.Point, bool) {
	l := slices.Clone(z)
	for i := range l {
		w, ok := polyInOrder(coefs, l[i])
		for j := range l {
			if !ok {
				return nil, false
			}
			if j == i {
				continue
			}
			var way impl.Point
			if way, ok = toldPoint(subOnce(l[i].Re, l[j].Re), subOnce(l[i].Im, l[j].Im)); ok {
				w, ok = divInOrder(w, way)
			}
		}
		if !ok {
			return nil, false
		}
		if l[i], ok = toldPoint(subOnce(l[i].Re, w.Re), subOnce(l[i].Im, w.Im)); !ok {
			return nil, false
		}
	}
	return l, true
}

// guessInOrder are the first points, one product after the other.
func guessInOrder(n int) []impl.Point {
	l := []impl.Point{{Re: 1}}
	for len(l) < n {
		p, _ := mulInOrder(l[len(l)-1], impl.Point{Re: 0.4, Im: 0.9})
		l = append(l, p)
	}
	return l
}

// anyPoint is a good point of any bits, nearPoint one of parts near 1 or 0.
func anyPoint(r *rand.Rand) impl.Point { return impl.Point{Re: anyReal(r), Im: anyReal(r)} }

func nearPoint(r *rand.Rand) impl.Point { return impl.Point{Re: nearReal(r), Im: nearReal(r)} }

// smallPoint has parts that are whole numbers of one digit.
func smallPoint(r *rand.Rand) impl.Point {
	return impl.Point{Re: float64(r.Intn(19) - 9), Im: float64(r.Intn(19) - 9)}
}

func pointList(r *rand.Rand, n int, one func(*rand.Rand) impl.Point) []impl.Point {
	l := make([]impl.Point, n)
	for i := range l {
		l[i] = one(r)
	}
	return l
}

// wrongPoints have a float that is not good in one field or in both.
func wrongPoints() []impl.Point {
	l := []impl.Point{}
	for _, x := range wrongReals() {
		l = append(l, impl.Point{Re: x}, impl.Point{Im: x}, impl.Point{Re: x, Im: 1}, impl.Point{Re: 1, Im: x}, impl.Point{Re: x, Im: x})
	}
	return l
}

// behind is a copy of a list with more behind its end that no function may read or write; kept says whether both are as they were.
func behind[T any](l []T, more ...T) []T {
	return append(slices.Clone(l), more...)[:len(l)]
}

func kept[T any](handed []T, before []T, same func(T, T) bool, more ...T) bool {
	return slices.EqualFunc(handed, before, same) && slices.EqualFunc(handed[:len(handed)+len(more)][len(handed):], more, same)
}

// strange is what lies behind lists of points and disks in the tests: nothing good.
var strange = impl.Point{Re: math.NaN(), Im: math.Inf(-1)}

// monic is a polynomial of that degree with drawn coefficients, the last one 1.
func monic(r *rand.Rand, n int, one func(*rand.Rand) float64) []float64 {
	return append(realList(r, n, one), 1)
}

// spot is a point whose parts are exact.
type spot struct {
	re *big.Rat
	im *big.Rat
}

func spotOf(p impl.Point) spot { return spot{exact(p.Re), exact(p.Im)} }

func (a spot) mul(b spot) spot {
	return spot{minus(times(a.re, b.re), times(a.im, b.im)), plus(times(a.re, b.im), times(a.im, b.re))}
}

func (a spot) sub(b spot) spot { return spot{minus(a.re, b.re), minus(a.im, b.im)} }

// square is the square of the distance to 0.
func (a spot) square() *big.Rat { return plus(times(a.re, a.re), times(a.im, a.im)) }

// at is the polynomial there, by its powers one after the other.
func (a spot) at(coefs []*big.Rat) spot {
	sum, x := spot{new(big.Rat), new(big.Rat)}, spot{big.NewRat(1, 1), new(big.Rat)}
	for _, c := range coefs {
		sum = spot{plus(sum.re, times(c, x.re)), plus(sum.im, times(c, x.im))}
		x = x.mul(a)
	}
	return sum
}

// polyProduct multiplies polynomials, the coefficient without x first.
func polyProduct(a []*big.Rat, b []*big.Rat) []*big.Rat {
	l := make([]*big.Rat, len(a)+len(b)-1)
	for i := range l {
		l[i] = new(big.Rat)
	}
	for i := range a {
		for j := range b {
			l[i+j] = plus(l[i+j], times(a[i], b[j]))
		}
	}
	return l
}

func rats(l ...int64) []*big.Rat {
	out := make([]*big.Rat, len(l))
	for i := range l {
		out[i] = big.NewRat(l[i], 1)
	}
	return out
}

func ratList(t *testing.T, l []string) []*big.Rat {
	t.Helper()
	out := make([]*big.Rat, len(l))
	for i := range l {
		out[i] = rat(t, l[i])
	}
	return out
}

// texts are the fractions of a polynomial; it is a fault of the test if one is too long.
func texts(t *testing.T, l []*big.Rat) []string {
	t.Helper()
	out := make([]string, len(l))
	for i := range l {
		if out[i] = textOf(l[i]); out[i] == "" {
			t.Fatal("a coefficient that is too long:", fmt.Sprintf("%.80s", l[i].RatString()))
		}
	}
	return out
}
