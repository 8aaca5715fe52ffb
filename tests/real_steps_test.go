package tests

import (
	"fmt"
	"math"
	"math/rand"
	"testing"

	"loop.example/g00047/impl"
)

func TestGoodReal(t *testing.T) {
	l := edgeReals()
	r := rand.New(rand.NewSource(4))
	for range 500 {
		l = append(l, anyReal(r))
	}
	for _, x := range l {
		if !impl.GoodReal(x) {
			t.Errorf("good: %x", x)
		}
	}
	for _, x := range wrongReals() {
		if impl.GoodReal(x) {
			t.Errorf("not good: %x", math.Float64bits(x))
		}
	}
}

// checkBack: the fraction of a float is the float, exactly, and is taken back by RealOf, RealBelow and RealAbove.
func checkBack(t *testing.T, x float64) {
	t.Helper()
	a := impl.FracOfReal(x)
	if a != textOf(exact(x)) || !impl.GoodFrac(a) {
		t.Errorf("FracOfReal(%x): %.80q", x, a)
	}
	y, ok := impl.RealOf(a)
	checkReal(t, fmt.Sprintf("RealOf of FracOfReal(%x)", x), y, ok, x, true)
	y, ok = impl.RealBelow(a)
	checkReal(t, fmt.Sprintf("RealBelow of FracOfReal(%x)", x), y, ok, x, true)
	y, ok = impl.RealAbove(a)
	checkReal(t, fmt.Sprintf("RealAbove of FracOfReal(%x)", x), y, ok, x, true)
}

func TestFracOfRealIsTakenBack(t *testing.T) {
	r := rand.New(rand.NewSource(5))
	for _, x := range edgeReals() {
		checkBack(t, x)
	}
	for range 500 {
		checkBack(t, anyReal(r))
		checkBack(t, nearReal(r))
		checkBack(t, math.Float64frombits(r.Uint64()>>uint(12+r.Intn(50))))
	}
	for n := -1074; n <= 1023; n++ {
		checkBack(t, math.Ldexp(1, n))
		checkBack(t, -math.Ldexp(1, n))
	}
}

func TestFracOfRealByHand(t *testing.T) {
	for _, c := range []struct {
		x    float64
		want string
	}{
		{0, "0"}, {1, "1"}, {-1, "-1"}, {0.5, "1/2"}, {-0.5, "-1/2"}, {0.375, "3/8"}, {-6.25, "-25/4"}, {10, "10"}, {1e16, tenTo(16)}, {1 << 62, "4611686018427387904"},
		{0.1, "3602879701896397/36028797018963968"}, {1e22, tenTo(22)}, {1e23, "99999999999999991611392"}, {0x1p-52, "1/4503599627370496"},
	} {
		if got := impl.FracOfReal(c.x); got != c.want {
			t.Errorf("FracOfReal(%x): %q, want %q", c.x, got, c.want)
		}
	}
	if a := impl.FracOfReal(least); len(a) != len("1/")+324 {
		t.Errorf("the least float: %q", a)
	}
	if a := impl.FracOfReal(greatest); len(a) != 309 {
		t.Errorf("the greatest float: %q", a)
	}
}

func TestStepsByHand(t *testing.T) {
	for _, c := range []struct{ x, next float64 }{
		{0, least}, {least, 2 * least}, {-least, 0}, {-2 * least, -least}, {2 * least, 3 * least},
		{math.Float64frombits(1<<52 - 1), leastFull}, {-leastFull, -math.Float64frombits(1<<52 - 1)}, {leastFull, math.Float64frombits(1<<52 + 1)},
		{1, 1 + 0x1p-52}, {1 - 0x1p-53, 1}, {-1, -1 + 0x1p-53}, {-1 - 0x1p-52, -1}, {2 - 0x1p-52, 2}, {2, 2 + 0x1p-51}, {-2, -2 + 0x1p-52}, {0.5, 0.5 + 0x1p-53}, {1 << 53, 1<<53 + 2}, {1<<53 - 1, 1 << 53},
		{0x1p1023 - 0x1p970, 0x1p1023}, {greatest - 0x1p971, greatest}, {-greatest, -greatest + 0x1p971},
	} {
		next, ok := impl.NextReal(c.x)
		checkReal(t, fmt.Sprintf("NextReal(%x)", c.x), next, ok, c.next, true)
		last, ok := impl.LastReal(c.next)
		checkReal(t, fmt.Sprintf("LastReal(%x)", c.next), last, ok, c.x, true)
	}
	x, ok := impl.NextReal(greatest)
	checkReal(t, "NextReal of the greatest", x, ok, 0, false)
	x, ok = impl.LastReal(-greatest)
	checkReal(t, "LastReal of the least of all", x, ok, 0, false)
	x, ok = impl.NextReal(-greatest)
	checkReal(t, "NextReal of the least of all", x, ok, stepUp(-greatest), true)
	x, ok = impl.LastReal(greatest)
	checkReal(t, "LastReal of the greatest", x, ok, stepDown(greatest), true)
}

func TestStepsGoThereAndBack(t *testing.T) {
	l := edgeReals()
	r := rand.New(rand.NewSource(6))
	for range 1000 {
		l = append(l, anyReal(r), nearReal(r))
	}
	for n := -1074; n <= 1023; n++ {
		l = append(l, math.Ldexp(1, n), -math.Ldexp(1, n))
	}
	for _, x := range l {
		next, ok := impl.NextReal(x)
		if x != greatest {
			checkReal(t, fmt.Sprintf("NextReal(%x)", x), next, ok, stepUp(x), true)
			back, ok := impl.LastReal(next)
			checkReal(t, fmt.Sprintf("LastReal(%x)", next), back, ok, x, true)
		}
		last, ok := impl.LastReal(x)
		if x != -greatest {
			checkReal(t, fmt.Sprintf("LastReal(%x)", x), last, ok, stepDown(x), true)
			back, ok := impl.NextReal(last)
			checkReal(t, fmt.Sprintf("NextReal(%x)", last), back, ok, x, true)
		}
	}
}

// No float lies between a float and its next one, as fractions tell it.
func TestNothingLiesBetweenSteps(t *testing.T) {
	for _, x := range edgeReals() {
		next, ok := impl.NextReal(x)
		if !ok {
			continue
		}
		middle := textOf(half(plus(exact(x), exact(next))))
		lo, okLo := impl.RealBelow(middle)
		hi, okHi := impl.RealAbove(middle)
		checkReal(t, "RealBelow("+middle+")", lo, okLo, x, true)
		checkReal(t, "RealAbove("+middle+")", hi, okHi, next, true)
	}
}
