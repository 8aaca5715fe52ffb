package tests

import (
	"fmt"
	"math"
	"math/rand"
	"runtime"
	"slices"
	"sync"
	"testing"

	"loop.example/g00047/impl"
)

func TestWrongTextsHaveNoReal(t *testing.T) {
	for _, s := range wrongTexts() {
		x, ok := impl.RealOf(s)
		checkReal(t, fmt.Sprintf("RealOf(%.60q)", s), x, ok, 0, false)
		x, ok = impl.RealBelow(s)
		checkReal(t, fmt.Sprintf("RealBelow(%.60q)", s), x, ok, 0, false)
		x, ok = impl.RealAbove(s)
		checkReal(t, fmt.Sprintf("RealAbove(%.60q)", s), x, ok, 0, false)
	}
	shortTexts("-/0124 +", 4, func(s string) {
		_, near := impl.RealOf(s)
		_, below := impl.RealBelow(s)
		_, above := impl.RealAbove(s)
		if near != isFrac(s) || below != isFrac(s) || above != isFrac(s) {
			t.Errorf("%q: %v %v %v", s, near, below, above)
		}
	})
}

func TestWrongRealsHaveTheZeroAnswer(t *testing.T) {
	for _, x := range wrongReals() {
		what := fmt.Sprintf("%x", math.Float64bits(x))
		if a := impl.FracOfReal(x); a != "" {
			t.Errorf("FracOfReal of %s: %q", what, a)
		}
		y, ok := impl.NextReal(x)
		checkReal(t, "NextReal of "+what, y, ok, 0, false)
		y, ok = impl.LastReal(x)
		checkReal(t, "LastReal of "+what, y, ok, 0, false)
		for _, coefs := range [][]float64{nil, {1}, {1, 2, 3}, make([]float64, 200)} {
			y, ok = impl.HornerReal(coefs, x)
			checkReal(t, "HornerReal at "+what, y, ok, 0, false)
		}
	}
}

// checkWrongList: the list has no answer of any function, on either side.
func checkWrongList(t *testing.T, what string, l []float64) {
	t.Helper()
	in := hidden(l)
	ones := make([]float64, len(l))
	for i := range ones {
		ones[i] = 1
	}
	x, ok := impl.SumReals(in)
	checkReal(t, "SumReals of "+what, x, ok, 0, false)
	x, ok = impl.DotReals(in, ones)
	checkReal(t, "DotReals of it and ones, of "+what, x, ok, 0, false)
	x, ok = impl.DotReals(ones, in)
	checkReal(t, "DotReals of ones and it, of "+what, x, ok, 0, false)
	x, ok = impl.DotReals(in, in)
	checkReal(t, "DotReals of itself, of "+what, x, ok, 0, false)
	x, ok = impl.NormReal(in)
	checkReal(t, "NormReal of "+what, x, ok, 0, false)
	x, ok = impl.HornerReal(in, 0)
	checkReal(t, "HornerReal of "+what, x, ok, 0, false)
	x, ok = impl.HornerReal(in, 0.5)
	checkReal(t, "HornerReal of "+what, x, ok, 0, false)
	checkKept(t, "a function of "+what, in, l)
}

func TestWrongRealsAnywhereInAList(t *testing.T) {
	for _, n := range []int{1, 2, 3, 5, 33, 64, 200} {
		for at := range n {
			for _, x := range wrongReals() {
				l := make([]float64, n)
				for i := range l {
					l[i] = float64(i%3) - 1
				}
				l[at] = x
				checkWrongList(t, fmt.Sprintf("%d floats with %x at %d", n, math.Float64bits(x), at), l)
			}
		}
	}
}

func TestListsThatAreTooLong(t *testing.T) {
	for _, n := range []int{201, 202, 256, 400, 100000} {
		checkWrongList(t, fmt.Sprint(n, " noughts"), make([]float64, n))
	}
	// At the limit there is an answer still.
	l := make([]float64, impl.MaxReals)
	for i := range l {
		l[i] = 1
	}
	x, ok := impl.SumReals(l)
	checkReal(t, "SumReals of 200", x, ok, 200, true)
	x, ok = impl.DotReals(l, l)
	checkReal(t, "DotReals of 200", x, ok, 200, true)
	x, ok = impl.NormReal(l)
	checkReal(t, "NormReal of 200", x, ok, math.Sqrt(200), true)
	x, ok = impl.HornerReal(l, 1)
	checkReal(t, "HornerReal of 200", x, ok, 200, true)
	if impl.MaxReals != 200 {
		t.Error("MaxReals is", impl.MaxReals)
	}
}

func TestListsNotAsLongAsEachOther(t *testing.T) {
	long := make([]float64, 201)
	for i := range long {
		long[i] = 1
	}
	for _, n := range []int{0, 1, 2, 3, 64, 199, 200, 201} {
		for _, m := range []int{0, 1, 2, 3, 64, 199, 200, 201} {
			x, ok := impl.DotReals(long[:n], long[:m])
			if n == m && n <= 200 {
				checkReal(t, fmt.Sprint("DotReals of ", n), x, ok, float64(n), true)
			} else {
				checkReal(t, fmt.Sprint("DotReals of ", n, " and ", m), x, ok, 0, false)
			}
		}
	}
}

// The same call has the same answer every time, many at once too, and nothing goes on behind it.
func TestSumsAreTheSameWhoeverAddsThemUp(t *testing.T) {
	r := rand.New(rand.NewSource(9))
	l := realList(r, 200, nearReal)
	before := slices.Clone(l)
	sum, _ := impl.SumReals(l)
	dot, _ := impl.DotReals(l, before)
	norm, _ := impl.NormReal(l)
	checkReal(t, "the sum", sum, true, sumInOrder(l), true)
	running := runtime.NumGoroutine()
	var all sync.WaitGroup
	for range 16 {
		all.Go(func() {
			for range 200 {
				x, okX := impl.SumReals(l)
				y, okY := impl.DotReals(l, before)
				z, okZ := impl.NormReal(l)
				if !same(x, sum) || !same(y, dot) || !same(z, norm) || !okX || !okY || !okZ {
					t.Error("another answer:", x, y, z)
				}
			}
		})
	}
	all.Wait()
	if !slices.EqualFunc(l, before, same) {
		t.Error("the list was changed")
	}
	// One that has ended may be counted for a moment still.
	for range 100000 {
		if runtime.NumGoroutine() <= running {
			return
		}
		runtime.Gosched()
	}
	t.Error("goroutines go on:", runtime.NumGoroutine(), "before", running)
}

// FuzzReals asks every function of any text and any floats.
func FuzzReals(f *testing.F) {
	for _, s := range append(goodTexts(), "", "-0", "1/0", "2/4") {
		f.Add(s, uint64(0x3ff0000000000000), uint64(0xbfb999999999999a), uint64(1))
	}
	for _, x := range append(edgeReals(), wrongReals()...) {
		f.Add("1/3", math.Float64bits(x), uint64(0x3ff0000000000000), uint64(0x7fefffffffffffff))
	}
	f.Fuzz(func(t *testing.T, a string, u uint64, v uint64, w uint64) {
		if isFrac(a) {
			checkNear(t, rat(t, a))
			checkBetween(t, rat(t, a))
		}
		l := []float64{math.Float64frombits(u), math.Float64frombits(v), math.Float64frombits(w)}
		for _, x := range l {
			if impl.GoodReal(x) != isReal(x) {
				t.Errorf("GoodReal of %x", math.Float64bits(x))
			}
			if isReal(x) {
				checkBack(t, x)
			}
		}
		if slices.ContainsFunc(l, func(x float64) bool { return !isReal(x) }) {
			checkWrongList(t, fmt.Sprint(l), l)
			return
		}
		checkSums(t, l, []float64{l[2], l[0], l[1]}, l[1])
	})
}
