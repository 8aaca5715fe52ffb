package tests

import (
	"fmt"
	"math"
	"math/big"
	"math/rand"
	"testing"

	"loop.example/g00047/impl"
)

// checkOut holds what is told of an exact number against what the document says of it: the greatest float that is not above, the least one that is not below.
func checkOut(t *testing.T, what string, r *big.Rat, lo float64, hi float64, ok bool) {
	t.Helper()
	if new(big.Rat).Abs(r).Cmp(exact(greatest)) > 0 {
		if !same(lo, 0) || !same(hi, 0) || ok {
			t.Errorf("%s: got %x %x %v, and one of both does not exist", what, lo, hi, ok)
		}
		return
	}
	if !ok || !isReal(lo) || !isReal(hi) {
		t.Errorf("%s: got %x %x %v", what, lo, hi, ok)
		return
	}
	below, above := exact(lo).Cmp(r), exact(hi).Cmp(r)
	alike := same(lo, hi) && below == 0
	beside := same(stepUp(lo), hi) && below < 0 && above > 0
	if !alike && !beside {
		t.Errorf("%s: got %x and %x, that lie %d and %d", what, lo, hi, below, above)
	}
	// The test's own rounding, by which steps are held against their answers.
	if !same(lo, under(r)) || !same(hi, over(r)) {
		t.Errorf("%s: got %x and %x, want %x and %x", what, lo, hi, under(r), over(r))
	}
}

// checkOuts asks AddOut and MulOut of two good floats, in both orders, and with both signs turned.
func checkOuts(t *testing.T, a float64, b float64) {
	t.Helper()
	for _, c := range [][2]float64{{a, b}, {b, a}, {-a + 0, -b + 0}, {-a + 0, b}} {
		what := fmt.Sprintf("of %x and %x", c[0], c[1])
		lo, hi, ok := impl.AddOut(c[0], c[1])
		checkOut(t, "AddOut "+what, plus(exact(c[0]), exact(c[1])), lo, hi, ok)
		lo, hi, ok = impl.MulOut(c[0], c[1])
		checkOut(t, "MulOut "+what, times(exact(c[0]), exact(c[1])), lo, hi, ok)
	}
}

// outCase is a sum or product, and what is told of it.
type outCase struct{ a, b, lo, hi float64 }

func (c outCase) check(t *testing.T, name string, do func(float64, float64) (float64, float64, bool), wantOk bool) {
	t.Helper()
	lo, hi, ok := do(c.a, c.b)
	if !same(lo, c.lo) || !same(hi, c.hi) || ok != wantOk {
		t.Errorf("%s(%x, %x): got %x %x %v, want %x %x %v", name, c.a, c.b, lo, hi, ok, c.lo, c.hi, wantOk)
	}
}

func TestAddOutByHand(t *testing.T) {
	for _, c := range []outCase{
		{0.1, 0.2, 0.3, stepUp(0.3)}, {-0.1, -0.2, -stepUp(0.3), -0.3}, {0.1, 0.7, stepDown(0.8), 0.8}, {0.5, 0.25, 0.75, 0.75}, {1, 2, 3, 3}, {0, 0, 0, 0}, {0, 0.1, 0.1, 0.1}, {-0.1, 0, -0.1, -0.1},
		// Sizes that are very unlike.
		{1, least, 1, stepUp(1)}, {1, -least, stepDown(1), 1}, {-1, least, -1, -stepDown(1)}, {1e300, 1e-300, 1e300, stepUp(1e300)}, {1, 0x1p-52, stepUp(1), stepUp(1)}, {1, 0x1p-53, 1, stepUp(1)}, {1, 0x1p-54, 1, stepUp(1)},
		{1 << 53, 1, 1 << 53, 1<<53 + 2}, {1<<53 + 2, 1, 1<<53 + 2, 1<<53 + 4}, {-1 << 53, -1, -1<<53 - 2, -1 << 53},
		// They nearly take each other away, or do.
		{1, -1, 0, 0}, {0.3, -0.3, 0, 0}, {stepUp(1), -1, 0x1p-52, 0x1p-52}, {stepDown(1), -1, -0x1p-53, -0x1p-53}, {0.3, -stepUp(0.3), -0x1p-54, -0x1p-54}, {greatest, -greatest, 0, 0}, {stepUp(leastFull), -leastFull, least, least},
		// The least floats, whose sums are exact.
		{least, least, 2 * least, 2 * least}, {least, -least, 0, 0}, {-least, -least, -2 * least, -2 * least}, {stepDown(leastFull), least, leastFull, leastFull}, {3 * least, -5 * least, -2 * least, -2 * least},
		// The greatest float, and just below it.
		{greatest, 0, greatest, greatest}, {greatest, -least, stepDown(greatest), greatest}, {-greatest, least, -greatest, -stepDown(greatest)}, {stepDown(greatest), 0x1p971, greatest, greatest}, {stepDown(greatest), 0x1p970, stepDown(greatest), greatest},
		{-0x1p1023, 0, -0x1p1023, -0x1p1023}, {stepDown(greatest), least, stepDown(greatest), greatest},
	} {
		c.check(t, "AddOut", impl.AddOut, true)
		outCase{c.b, c.a, c.lo, c.hi}.check(t, "AddOut", impl.AddOut, true)
	}
}

func TestMulOutByHand(t *testing.T) {
	for _, c := range []outCase{
		{2, 3, 6, 6}, {-2, 3, -6, -6}, {-2, -3, 6, 6}, {0.5, 0.1, 0.05, 0.05}, {0.1, 10, 1, stepUp(1)}, {-0.1, 10, -stepUp(1), -1}, {0.1, 0.1, 0.01, stepUp(0.01)}, {0.1, 3, 0.3, stepUp(0.3)},
		{0, 0, 0, 0}, {0, 1, 0, 0}, {0, -1, 0, 0}, {0, greatest, 0, 0}, {0, -greatest, 0, 0}, {0, least, 0, 0}, {0, -least, 0, 0},
		// Between 0 and the least float.
		{least, least, 0, least}, {-least, least, -least, 0}, {-least, -least, 0, least}, {least, 0.5, 0, least}, {least, -0.5, -least, 0}, {least, stepDown(1), 0, least}, {least, 1, least, least}, {least, stepUp(1), least, 2 * least},
		{0x1p-537, 0x1p-537, least, least}, {0x1p-538, 0x1p-537, 0, least}, {0x1p-538, -0x1p-537, -least, 0}, {stepUp(0x1p-537), 0x1p-537, least, 2 * least}, {stepDown(0x1p-537), 0x1p-537, 0, least}, {leastFull, 0x1p-52, least, least}, {leastFull, 0x1p-53, 0, least},
		{3 * least, 0.5, least, 2 * least}, {-3 * least, 0.5, -2 * least, -least}, {2 * least, 0.5, least, least}, {leastFull, leastFull, 0, least}, {stepUp(leastFull), 0.5, leastFull / 2, leastFull/2 + least}, {leastFull, 0.5, leastFull / 2, leastFull / 2},
		// Up to the greatest float.
		{greatest, 1, greatest, greatest}, {greatest, -1, -greatest, -greatest}, {greatest, 0.5, greatest / 2, greatest / 2}, {greatest / 2, 2, greatest, greatest}, {greatest, stepDown(1), stepDown(greatest), greatest},
		{6361 * 0x1p971, 69431 * 20394401, greatest, greatest}, {0x1p512, 0x1p511, 0x1p1023, 0x1p1023}, {greatest, least, stepDown(0x1p-50), stepDown(0x1p-50)},
		{stepUp(1), stepUp(1), 1 + 0x1p-51, stepUp(1 + 0x1p-51)}, {stepUp(1), stepDown(1), 1, stepUp(1)}, {stepDown(1), stepDown(1), stepDown(stepDown(1)), stepDown(1)},
	} {
		c.check(t, "MulOut", impl.MulOut, true)
		outCase{c.b, c.a, c.lo, c.hi}.check(t, "MulOut", impl.MulOut, true)
	}
}

// Where one of both does not exist: beyond the greatest float, above and below, and just above it.
func TestOutBeyondTheGreatest(t *testing.T) {
	for _, c := range [][2]float64{{greatest, least}, {greatest, greatest}, {greatest, 1}, {greatest, 0x1p969}, {greatest, 0x1p970}, {greatest, 0x1p971}, {0x1p1023, 0x1p1023}, {0x1p1023, stepDown(0x1p1023)}, {stepDown(greatest), stepUp(0x1p971)}, {stepDown(greatest), 0x1p972}, {stepDown(0x1p1023), stepUp(0x1p1023)}} {
		outCase{c[0], c[1], 0, 0}.check(t, "AddOut", impl.AddOut, false)
		outCase{c[1], c[0], 0, 0}.check(t, "AddOut", impl.AddOut, false)
		outCase{-c[0], -c[1], 0, 0}.check(t, "AddOut", impl.AddOut, false)
		checkOuts(t, c[0], c[1])
	}
	for _, c := range [][2]float64{{greatest, stepUp(1)}, {greatest, greatest}, {greatest, 2}, {0x1p1023, 2}, {0x1p512, 0x1p512}, {stepUp(1), stepDown(2) * 0x1p1023}, {stepUp(0x1p512), stepDown(0x1p512)}, {6361 * 0x1p971, 69431*20394401 + 1}, {stepUp(6361 * 0x1p971), 69431 * 20394401}} {
		for _, s := range [][2]float64{{1, 1}, {-1, 1}, {1, -1}, {-1, -1}} {
			outCase{s[0] * c[0], s[1] * c[1], 0, 0}.check(t, "MulOut", impl.MulOut, false)
			outCase{s[1] * c[1], s[0] * c[0], 0, 0}.check(t, "MulOut", impl.MulOut, false)
		}
		checkOuts(t, c[0], c[1])
	}
}

func TestOutOfTheEdges(t *testing.T) {
	l := edgeReals()
	for i, a := range l {
		for _, b := range l[i:] {
			checkOuts(t, a, b)
		}
	}
}

func TestOutOfDrawnFloats(t *testing.T) {
	r := rand.New(rand.NewSource(259))
	kinds := realKinds()
	for range 300 {
		for i, one := range kinds {
			for _, other := range kinds[i:] {
				checkOuts(t, one(r), other(r))
			}
		}
	}
}

// Whatever nearly takes another away: the same but for some last bits, of all powers.
func TestOutOfFloatsThatNearlyTakeEachOtherAway(t *testing.T) {
	r := rand.New(rand.NewSource(260))
	for range 1000 {
		a := anyReal(r)
		if math.Abs(a) > greatest/4 {
			a /= 4
		}
		bits := math.Float64bits(a) ^ uint64(r.Intn(16))
		checkOuts(t, a, -math.Float64frombits(bits)+0)
		checkOuts(t, a, -a+0)
		checkOuts(t, a, -a/2+0)
	}
}

// Products of every size near the least and the greatest float.
func TestOutOfProductsAtTheEnds(t *testing.T) {
	r := rand.New(rand.NewSource(261))
	for _, end := range []int{-1080, -1075, -1074, -1073, -1070, -1025, -1022, -1021, 0, 1021, 1022, 1023, 1024} {
		for range 60 {
			first := max(min(r.Intn(2000)-1000, end+1000), end-1000)
			checkOuts(t, math.Ldexp(1+r.Float64(), first), math.Ldexp(1+r.Float64(), end-first))
			checkOuts(t, math.Ldexp(1, first), math.Ldexp(1, end-first))
			checkOuts(t, math.Ldexp(float64(1+r.Intn(1<<20)), first-20), math.Ldexp(float64(1+r.Intn(1<<20)), end-first-20))
		}
	}
}

func TestNoughtWithAnything(t *testing.T) {
	r := rand.New(rand.NewSource(262))
	l := edgeReals()
	for range 200 {
		l = append(l, anyReal(r))
	}
	for _, x := range l {
		for _, c := range [][2]float64{{0, x}, {x, 0}} {
			outCase{c[0], c[1], x, x}.check(t, "AddOut", impl.AddOut, true)
			outCase{c[0], c[1], 0, 0}.check(t, "MulOut", impl.MulOut, true)
		}
		outCase{x, -x + 0, 0, 0}.check(t, "AddOut", impl.AddOut, true)
		outCase{x, 1, x, x}.check(t, "MulOut", impl.MulOut, true)
		outCase{x, -1, -x + 0, -x + 0}.check(t, "MulOut", impl.MulOut, true)
	}
}

func TestOutOfWrongFloats(t *testing.T) {
	for _, x := range wrongReals() {
		for _, y := range append(edgeReals(), wrongReals()...) {
			for _, c := range []outCase{{a: x, b: y}, {a: y, b: x}} {
				c.check(t, "AddOut", impl.AddOut, false)
				c.check(t, "MulOut", impl.MulOut, false)
			}
		}
	}
}
