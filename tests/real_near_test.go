package tests

import (
	"fmt"
	"math"
	"math/big"
	"math/rand"
	"testing"

	"loop.example/g00047/impl"
)

// beyond is halfway from the greatest float to what would be next: what is so great or greater has no nearest float.
func beyond() *big.Rat { return minus(power(1024), power(970)) }

// checkNear holds the nearest float to r against both its neighbours.
func checkNear(t *testing.T, r *big.Rat) {
	t.Helper()
	a := textOf(r)
	if a == "" {
		t.Fatal("too long a fraction for a test")
	}
	x, ok := impl.RealOf(a)
	if new(big.Rat).Abs(r).Cmp(beyond()) >= 0 {
		checkReal(t, "RealOf("+a+")", x, ok, 0, false)
		return
	}
	if !ok || !isReal(x) {
		t.Errorf("RealOf(%.80s): %x %v", a, x, ok)
		return
	}
	miss := new(big.Rat).Abs(minus(r, exact(x)))
	for _, y := range []float64{stepUp(x), stepDown(x)} {
		if math.IsInf(y, 0) {
			continue
		}
		other := new(big.Rat).Abs(minus(r, exact(y)))
		if c := miss.Cmp(other); c > 0 || c == 0 && math.Float64bits(x)%2 == 1 {
			t.Errorf("RealOf(%.80s): %x, but %x is the nearest", a, x, y)
		}
	}
}

// checkBetween: the floats below and above r are one, or next to each other with r between.
func checkBetween(t *testing.T, r *big.Rat) {
	t.Helper()
	a := textOf(r)
	lo, okLo := impl.RealBelow(a)
	hi, okHi := impl.RealAbove(a)
	if r.Cmp(exact(greatest)) > 0 {
		checkReal(t, "RealBelow("+a+")", lo, okLo, greatest, true)
		checkReal(t, "RealAbove("+a+")", hi, okHi, 0, false)
		return
	}
	if r.Cmp(exact(-greatest)) < 0 {
		checkReal(t, "RealBelow("+a+")", lo, okLo, 0, false)
		checkReal(t, "RealAbove("+a+")", hi, okHi, -greatest, true)
		return
	}
	if !okLo || !okHi || !isReal(lo) || !isReal(hi) {
		t.Errorf("%.80s: below %x %v, above %x %v", a, lo, okLo, hi, okHi)
		return
	}
	below, above := exact(lo).Cmp(r), r.Cmp(exact(hi))
	if below == 0 && above == 0 && same(lo, hi) {
		return
	}
	if below >= 0 || above >= 0 || !same(stepUp(lo), hi) {
		t.Errorf("%.80s: below %x, above %x", a, lo, hi)
	}
}

func checkPlace(t *testing.T, r *big.Rat) {
	t.Helper()
	checkNear(t, r)
	checkBetween(t, r)
	checkNear(t, negative(r))
	checkBetween(t, negative(r))
}

func TestRealOfByHand(t *testing.T) {
	for _, c := range []struct {
		a    string
		want float64
	}{
		{"0", 0}, {"1", 1}, {"-1", -1}, {"1/2", 0.5}, {"-3/8", -0.375}, {"1/10", 0.1}, {"1/3", 0x1.5555555555555p-2}, {"2/3", 0x1.5555555555555p-1}, {"-1/3", -0x1.5555555555555p-2},
		{"1/5", 0.2}, {"3/10", 0.3}, {"10", 10}, {"9007199254740991", 1<<53 - 1}, {"9007199254740992", 1 << 53},
		// Halfway: the last bit is 0 on the lesser side, then on the greater one.
		{"9007199254740993", 1 << 53}, {"-9007199254740993", -(1 << 53)}, {"9007199254740995", 1<<53 + 4}, {"-9007199254740995", -(1<<53 + 4)},
		{"18014398509481985/2", 1 << 53}, {"18014398509481987/2", 1<<53 + 2}, {"18014398509481989/2", 1<<53 + 2}, {"18014398509481991/2", 1<<53 + 4},
		{"18014398509481983/2", 1 << 53}, {"-18014398509481983/2", -(1 << 53)}, {"18014398509481981/2", 1<<53 - 2},
		{"9223372036854775807", 1 << 63}, {"-9223372036854775808", -(1 << 63)},
		{tenTo(22), 1e22}, {tenTo(23), 1e23}, {"1/" + tenTo(5), 1e-5}, {tenTo(300), 1e300}, {"1/" + tenTo(300), 1e-300}, {tenTo(308), 1e308}, {"1/" + tenTo(310), 1e-310}, {"1/" + tenTo(323), 1e-323},
		{"1/" + tenTo(324), 0}, {"-1/" + tenTo(324), 0}, {"1/" + nines(400), 0}, {"-1/" + nines(400), 0}, {nines(400) + "/" + tenTo(399), 10}, {"-" + nines(399) + "/" + tenTo(399), -1},
	} {
		x, ok := impl.RealOf(c.a)
		checkReal(t, "RealOf("+c.a+")", x, ok, c.want, true)
	}
	for _, a := range []string{tenTo(309), "-" + tenTo(309), nines(400), "-" + nines(400), nines(400) + "/2", "-" + nines(400) + "/2", nines(309)} {
		x, ok := impl.RealOf(a)
		checkReal(t, "RealOf("+a+")", x, ok, 0, false)
	}
}

func TestRealBelowAndAboveByHand(t *testing.T) {
	for _, c := range []struct {
		a      string
		lo, hi float64
	}{
		{"0", 0, 0}, {"1", 1, 1}, {"-1/2", -0.5, -0.5}, {"1/10", 0.09999999999999999, 0.1}, {"-1/10", -0.1, -0.09999999999999999},
		{"1/3", 0x1.5555555555555p-2, 0x1.5555555555556p-2}, {"9007199254740993", 1 << 53, 1<<53 + 2}, {"-9007199254740993", -(1<<53 + 2), -(1 << 53)},
		{"1/" + nines(400), 0, least}, {"-1/" + nines(400), -least, 0}, {nines(400) + "/" + tenTo(399), stepDown(10), 10}, {tenTo(399) + "/" + nines(400), stepDown(0.1), 0.1},
	} {
		lo, ok := impl.RealBelow(c.a)
		checkReal(t, "RealBelow("+c.a+")", lo, ok, c.lo, true)
		hi, ok := impl.RealAbove(c.a)
		checkReal(t, "RealAbove("+c.a+")", hi, ok, c.hi, true)
	}
}

// Around each float: itself, halfway to both neighbours, just beside the half and just beside the float.
func TestRealsAtHalves(t *testing.T) {
	l := edgeReals()
	r := rand.New(rand.NewSource(2))
	for range 300 {
		l = append(l, anyReal(r), nearReal(r))
	}
	for _, x := range l {
		if x < 0 || x >= greatest {
			continue
		}
		checkAround(t, exact(x), exact(stepUp(x)))
	}
}

// checkAround: lo and hi are floats next to each other, from 0 on.
func checkAround(t *testing.T, lo *big.Rat, hi *big.Rat) {
	t.Helper()
	checkPlace(t, lo)
	middle := half(plus(lo, hi))
	checkPlace(t, middle)
	for _, n := range []int{1, 3, 20} {
		beside := times(minus(hi, lo), power(-n))
		checkPlace(t, plus(lo, beside))
		checkPlace(t, minus(hi, beside))
		beside = half(times(beside, power(-1)))
		checkPlace(t, plus(middle, beside))
		checkPlace(t, minus(middle, beside))
	}
}

// The last bit decides at a half, whichever side has it 0.
func TestHalvesGoToTheEvenSide(t *testing.T) {
	for _, x := range []float64{0, least, 2 * least, 3 * least, stepDown(leastFull), leastFull, stepUp(leastFull), 1, stepUp(1), stepDown(1), stepDown(2), 1 << 53, 1<<53 + 2, 0.1, stepDown(stepDown(greatest)), stepDown(greatest)} {
		y := stepUp(x)
		want := x
		if math.Float64bits(x)%2 == 1 {
			want = y
		}
		middle := half(plus(exact(x), exact(y)))
		got, ok := impl.RealOf(textOf(middle))
		checkReal(t, fmt.Sprintf("halfway from %x to %x", x, y), got, ok, want, true)
		got, ok = impl.RealOf(textOf(negative(middle)))
		checkReal(t, fmt.Sprintf("halfway from %x to %x", -x, -y), got, ok, 0-want, true)
	}
}

func TestRealsAtTheLeastFloats(t *testing.T) {
	unit := exact(least)
	for _, n := range []int64{1, 2, 3, 4, 5, 7, 15, 16, 17, 1 << 52, 1<<52 - 1, 1<<52 + 1, 1<<53 - 1, 1<<53 + 1} {
		for _, d := range []int64{1, 2, 3, 4, 16, 1 << 20} {
			checkPlace(t, times(unit, big.NewRat(n, d)))
		}
	}
	bit := power(-200)
	for _, c := range []struct {
		r    *big.Rat
		want float64
	}{
		{unit, least}, {half(unit), 0}, {half(plus(unit, times(unit, bit))), least}, {half(minus(unit, times(unit, bit))), 0},
		{times(unit, big.NewRat(3, 2)), 2 * least}, {times(unit, big.NewRat(5, 2)), 2 * least}, {half(half(unit)), 0}, {power(-1300), 0},
	} {
		got, ok := impl.RealOf(textOf(c.r))
		checkReal(t, textOf(c.r), got, ok, c.want, true)
		got, ok = impl.RealOf(textOf(negative(c.r)))
		checkReal(t, textOf(negative(c.r)), got, ok, 0-c.want, true)
	}
}

func TestRealsAtTheGreatestFloat(t *testing.T) {
	top, end := exact(greatest), power(1024)
	bit := new(big.Rat).SetInt64(1)
	for _, r := range []*big.Rat{top, plus(top, bit), minus(top, bit), beyond(), plus(beyond(), bit), minus(beyond(), bit), plus(beyond(), power(-60)), minus(beyond(), power(-60)),
		end, minus(end, bit), plus(end, bit), power(1025), power(1200), half(plus(top, exact(stepDown(greatest)))), new(big.Rat).SetInt(rat(t, nines(400)).Num())} {
		checkPlace(t, r)
	}
	x, ok := impl.RealOf(textOf(minus(beyond(), bit)))
	checkReal(t, "just ahead of the end", x, ok, greatest, true)
	x, ok = impl.RealOf(textOf(beyond()))
	checkReal(t, "at the end", x, ok, 0, false)
	x, ok = impl.RealOf(textOf(negative(beyond())))
	checkReal(t, "at the end below 0", x, ok, 0, false)
}

func TestRealsOfFractionsOfAllLengths(t *testing.T) {
	r := rand.New(rand.NewSource(3))
	for _, most := range []int{1, 2, 5, 17, 40, 150, 320, 400} {
		for range 150 {
			checkPlace(t, rat(t, randomFrac(r, most)))
		}
	}
	for _, s := range append(goodTexts(), ordinary()...) {
		checkPlace(t, rat(t, s))
	}
	for range 60 {
		checkPlace(t, rat(t, randomDigits(r, 400)))
		n, d := randomDigits(r, 400), randomDigits(r, 400)
		checkPlace(t, new(big.Rat).Quo(rat(t, n), rat(t, d)))
	}
}

func TestRealsOfQuotientsNearOne(t *testing.T) {
	for n := int64(1); n <= 40; n++ {
		for d := int64(1); d <= 40; d++ {
			checkPlace(t, big.NewRat(n, d))
		}
	}
}
