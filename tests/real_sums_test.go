package tests

import (
	"fmt"
	"math"
	"math/big"
	"math/rand"
	"slices"
	"testing"

	"loop.example/g00047/impl"
)

// addOnce and mulOnce are exact at first, and rounded once. Infinite stays infinite.
func addOnce(a float64, b float64) float64 {
	if math.IsInf(a, 0) || math.IsInf(b, 0) || math.IsNaN(a) || math.IsNaN(b) {
		return math.NaN()
	}
	return rounded(plus(exact(a), exact(b)))
}

func mulOnce(a float64, b float64) float64 {
	if math.IsInf(a, 0) || math.IsInf(b, 0) || math.IsNaN(a) || math.IsNaN(b) {
		return math.NaN()
	}
	return rounded(times(exact(a), exact(b)))
}

// sumInOrder is the document's order of a sum, one addition after the other.
func sumInOrder(l []float64) float64 {
	if len(l) == 0 {
		return 0
	}
	if len(l) == 1 {
		return l[0]
	}
	k := 1
	for 2*k < len(l) {
		k *= 2
	}
	return addOnce(sumInOrder(l[:k]), sumInOrder(l[k:]))
}

func products(a []float64, b []float64) []float64 {
	l := make([]float64, len(a))
	for i := range l {
		l[i] = mulOnce(a[i], b[i])
	}
	return l
}

func hornerInOrder(coefs []float64, x float64) float64 {
	sum := 0.0
	for _, c := range slices.Backward(coefs) {
		sum = addOnce(mulOnce(sum, x), c)
	}
	return sum
}

// told is how an answer is told: 0 and false where it is not finite, no nought with a sign.
func told(x float64) (float64, bool) {
	if math.IsNaN(x) || math.IsInf(x, 0) {
		return 0, false
	}
	if x == 0 {
		return 0, true
	}
	return x, true
}

// isRootOf: no float is nearer to the square root of s than x; exactly, by squares of the halves beside x.
func isRootOf(x float64, s float64) bool {
	if s == 0 || x <= 0 {
		return s == 0 && same(x, 0)
	}
	lo := half(plus(exact(x), exact(stepDown(x))))
	hi := half(plus(exact(x), exact(stepUp(x))))
	return times(lo, lo).Cmp(exact(s)) <= 0 && times(hi, hi).Cmp(exact(s)) >= 0
}

// checkSums asks all four functions of the lists, and holds them against the order told.
func checkSums(t *testing.T, a []float64, b []float64, x float64) {
	t.Helper()
	what := fmt.Sprintf("%d floats, the first ones %x", len(a), a[:min(len(a), 3)])
	inA, inB := hidden(a), hidden(b)
	got, ok := impl.SumReals(inA)
	want, wantOk := told(sumInOrder(a))
	checkReal(t, "SumReals of "+what, got, ok, want, wantOk)
	got, ok = impl.DotReals(inA, inB)
	want, wantOk = told(sumInOrder(products(a, b)))
	checkReal(t, "DotReals of "+what, got, ok, want, wantOk)
	got, ok = impl.HornerReal(inA, x)
	want, wantOk = told(hornerInOrder(a, x))
	checkReal(t, fmt.Sprintf("HornerReal at %x of %s", x, what), got, ok, want, wantOk)
	got, ok = impl.NormReal(inA)
	square, squareOk := told(sumInOrder(products(a, a)))
	if ok != squareOk || ok && !isRootOf(got, square) || !ok && !same(got, 0) {
		t.Errorf("NormReal of %s: %x %v, the square is %x %v", what, got, ok, square, squareOk)
	}
	checkKept(t, "a function of sums", inA, a)
	checkKept(t, "a function of sums", inB, b)
}

func TestSumReals(t *testing.T) {
	for _, c := range []struct {
		l    []float64
		want float64
	}{
		{nil, 0}, {[]float64{}, 0}, {[]float64{7}, 7}, {[]float64{-0.1}, -0.1}, {[]float64{1, 2}, 3}, {[]float64{0.1, 0.2}, 0.30000000000000004},
		{[]float64{1e16, 1, -1e16}, 0}, {[]float64{1e16, -1e16, 1}, 1}, {[]float64{1, 1e16, -1e16}, 0},
		// Of four the halves are two and two, of five four and one.
		{[]float64{1e16, 1, 1, -1e16}, 0}, {[]float64{1, 1e16, -1e16, 1}, 0}, {[]float64{1e16, -1e16, 1, 1}, 2},
		{[]float64{1, 1, 1, 1e16, -1e16}, 2}, {[]float64{1e16, 1, 1, 1, -1e16}, 2}, {[]float64{1e16, 1, 1, 1, 1, 1, -1e16}, 4},
		{[]float64{least, least, -least}, least}, {[]float64{1, -1}, 0}, {[]float64{0, 0}, 0}, {[]float64{0}, 0},
		{[]float64{greatest, 0x1p969}, greatest}, {[]float64{greatest, -greatest}, 0}, {[]float64{greatest, -greatest, greatest}, greatest},
	} {
		got, ok := impl.SumReals(c.l)
		checkReal(t, fmt.Sprint("SumReals ", c.l), got, ok, c.want, true)
	}
}

func TestDotReals(t *testing.T) {
	for _, c := range []struct {
		a, b []float64
		want float64
	}{
		{nil, nil, 0}, {nil, []float64{}, 0}, {[]float64{3}, []float64{-4}, -12}, {[]float64{1, 2, 3}, []float64{4, 5, 6}, 32}, {[]float64{1e8, 1, 1e8}, []float64{1e8, 1, -1e8}, 0},
		{[]float64{1e8, 1e8, 1}, []float64{1e8, -1e8, 1}, 1}, {[]float64{0.1}, []float64{0.1}, 0.010000000000000002},
		// Rounded at once with the sum the first product would leave a rest.
		{[]float64{0.1, -1}, []float64{10, 1}, 0}, {[]float64{-1, 0.1}, []float64{1, 10}, 0}, {[]float64{1 + 0x1p-30, -1}, []float64{1 + 0x1p-30, 1 + 0x1p-29}, 0},
	} {
		got, ok := impl.DotReals(c.a, c.b)
		checkReal(t, fmt.Sprint("DotReals ", c.a, c.b), got, ok, c.want, true)
	}
}

func TestNormReal(t *testing.T) {
	for _, c := range []struct {
		l    []float64
		want float64
	}{
		{nil, 0}, {[]float64{0}, 0}, {[]float64{3, 4}, 5}, {[]float64{-3, 4}, 5}, {[]float64{1, 1}, math.Sqrt2}, {[]float64{-7}, 7}, {[]float64{2, 3, 6}, 7}, {[]float64{1, 1, 1, 1}, 2},
		{[]float64{1e-200}, 0}, {[]float64{least}, 0}, {[]float64{0x1p-537}, 0x1p-537}, {[]float64{0x1p511, 0x1p511}, 0x1.6a09e667f3bcdp511},
	} {
		got, ok := impl.NormReal(c.l)
		checkReal(t, fmt.Sprint("NormReal ", c.l), got, ok, c.want, true)
	}
}

func TestHornerReal(t *testing.T) {
	for _, c := range []struct {
		coefs   []float64
		x, want float64
	}{
		{nil, 3, 0}, {[]float64{}, greatest, 0}, {[]float64{5}, 3, 5}, {[]float64{1, 2, 3}, 2, 17}, {[]float64{3, 2, 1}, 2, 11}, {[]float64{1, 2, 3}, 0, 1}, {[]float64{0, 0, 0, 1}, -2, -8}, {[]float64{0, 0, 1}, 0.1, 0.010000000000000002},
		// Rounded at once with the coefficient the product would leave a rest.
		{[]float64{-1, 0.1}, 10, 0}, {[]float64{-1 - 0x1p-29, 1 + 0x1p-30}, 1 + 0x1p-30, 0}, {[]float64{-1, 3}, 1.0 / 3, 0},
		{[]float64{greatest}, greatest, greatest}, {[]float64{1, greatest}, 1, greatest},
	} {
		got, ok := impl.HornerReal(c.coefs, c.x)
		checkReal(t, fmt.Sprint("HornerReal ", c.coefs, c.x), got, ok, c.want, true)
	}
}

// All lengths up to the limit, floats of about one size and floats of any bits.
func TestSumsOfAllLengths(t *testing.T) {
	r := rand.New(rand.NewSource(7))
	for n := 0; n <= impl.MaxReals; n++ {
		checkSums(t, realList(r, n, nearReal), realList(r, n, nearReal), nearReal(r)/0x1p30)
		if n <= 24 || n%40 == 0 {
			checkSums(t, realList(r, n, anyReal), realList(r, n, anyReal), anyReal(r))
		}
	}
	for range 300 {
		n := r.Intn(9)
		checkSums(t, realList(r, n, anyReal), realList(r, n, anyReal), nearReal(r))
	}
}

func TestSumsOfEdges(t *testing.T) {
	l := edgeReals()
	for _, a := range l {
		for _, b := range l {
			checkSums(t, []float64{a, b}, []float64{b, a}, b)
			checkSums(t, []float64{b, a, b}, []float64{a, 0, -1}, 0)
		}
	}
}

// Levels are how often the length of a list can be halved; each rounds a sum once more.
func TestSumsAreAsNearAsTheirLevels(t *testing.T) {
	r := rand.New(rand.NewSource(8))
	for _, n := range []int{2, 3, 4, 5, 31, 32, 33, 64, 65, 100, 128, 129, 199, 200} {
		for range 20 {
			l := realList(r, n, nearReal)
			levels := int64(math.Ceil(math.Log2(float64(n))))
			sum, sizes := new(big.Rat), new(big.Rat)
			for _, x := range l {
				sum = plus(sum, exact(x))
				sizes = plus(sizes, exact(math.Abs(x)))
			}
			got, ok := impl.SumReals(l)
			miss := new(big.Rat).Abs(minus(exact(got), sum))
			// levels * u / (1 - levels * u), u being half of the last bit of 1
			most := times(sizes, big.NewRat(levels, 1<<53-levels))
			if !ok || miss.Cmp(most) > 0 {
				t.Errorf("%d floats: misses by %s, most is %s", n, miss.FloatString(30), most.FloatString(30))
			}
		}
	}
}

// What is infinite on the way has no answer, though another way would have one.
func TestSumsThatAreInfiniteOnTheWay(t *testing.T) {
	for _, l := range [][]float64{{greatest, greatest}, {-greatest, -greatest}, {greatest, greatest, -greatest, -greatest}, {greatest, greatest, -greatest}, {1, greatest, -greatest, -greatest},
		{greatest, 0x1p970}, {-greatest, -0x1p970, greatest}, {0x1p1023, 0x1p1023, -0x1p1023}} {
		got, ok := impl.SumReals(l)
		checkReal(t, fmt.Sprint("SumReals ", l), got, ok, 0, false)
	}
	long := make([]float64, 200)
	long[0], long[1], long[198], long[199] = greatest, greatest, -greatest, -greatest
	got, ok := impl.SumReals(long)
	checkReal(t, "SumReals of 200", got, ok, 0, false)
	for _, c := range [][2][]float64{{{1e200}, {1e200}}, {{1e200, 1e200}, {1e200, -1e200}}, {{greatest, 1}, {-2, 1}}, {{greatest, greatest, -greatest}, {1, 1, 1}}} {
		got, ok = impl.DotReals(c[0], c[1])
		checkReal(t, fmt.Sprint("DotReals ", c), got, ok, 0, false)
	}
	for _, l := range [][]float64{{1e200}, {-greatest}, {0, 0x1p512}, {0x1p511, 0x1p511, 0x1p511, 0x1p511}} {
		got, ok = impl.NormReal(l)
		checkReal(t, fmt.Sprint("NormReal ", l), got, ok, 0, false)
	}
	for _, c := range []struct {
		coefs []float64
		x     float64
	}{{[]float64{-greatest, greatest}, 2}, {[]float64{0, 1e300, 1e300}, 1e10}, {[]float64{greatest, greatest}, 1}, {[]float64{0, 0, 0, -greatest, greatest}, -2}} {
		got, ok = impl.HornerReal(c.coefs, c.x)
		checkReal(t, fmt.Sprint("HornerReal ", c), got, ok, 0, false)
	}
}

// Noughts that would come out with a sign do not have one.
func TestNoughtsThatComeOut(t *testing.T) {
	for _, c := range [][2][]float64{{{1e-200}, {-1e-200}}, {{0}, {-1}}, {{-1}, {0}}, {{least, -least}, {-0.5, 0.5}}, {{1e-200, -least}, {-1e-200, 0.25}}, {{-5, 0, -5}, {0, -5, 0}}} {
		got, ok := impl.DotReals(c[0], c[1])
		checkReal(t, fmt.Sprint("DotReals ", c), got, ok, 0, true)
	}
	many := make([]float64, 200)
	fives := make([]float64, 200)
	for i := range fives {
		fives[i] = -5
	}
	got, ok := impl.DotReals(many, fives)
	checkReal(t, "DotReals of 200 noughts", got, ok, 0, true)
	got, ok = impl.SumReals(many)
	checkReal(t, "SumReals of 200 noughts", got, ok, 0, true)
	for _, c := range []struct {
		coefs []float64
		x     float64
	}{{[]float64{0}, -1}, {[]float64{0, 0, 0}, -1}, {[]float64{0, -least}, 0.5}, {[]float64{0, least}, -0.25}, {[]float64{1, -1}, 1}, {[]float64{0, -5}, 0}} {
		got, ok := impl.HornerReal(c.coefs, c.x)
		checkReal(t, fmt.Sprint("HornerReal ", c), got, ok, 0, true)
	}
	for _, l := range [][]float64{{-least}, {-1e-200, 1e-200}} {
		got, ok := impl.NormReal(l)
		checkReal(t, fmt.Sprint("NormReal ", l), got, ok, 0, true)
	}
}
