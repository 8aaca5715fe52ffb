package tests

import (
	"math/big"
	"math/rand"
	"slices"
	"strings"
	"testing"

	"loop.example/g00047/impl"
)

// What is told has at most 400 digits above and below; what comes up on the way may have more.
func TestLongSumsOfCosts(t *testing.T) {
	long, tiny, far := nines(400), "1/"+nines(400), tenTo(300)
	for _, c := range []struct {
		c    impl.Cost
		x    string
		u    string
		fine bool
	}{
		{costOf("1", "1", "0", "1", "0", 1), "0", tenTo(199), true},
		{costOf("1", "1", "0", "1", "0", 1), "0", tenTo(200), false},
		{costOf("1", "1", "0", "1", "0", 1), "0", nines(200), true},
		{costOf("1", "1", "0", "1", "0", 1), "0", "-1/" + nines(200), true},
		{costOf("1", "1", "0", "1", "0", 1), "0", "-1/" + tenTo(200), false},
		{costOf("0", "0", "1", "1", "0", 1), nines(200), "0", true},
		{costOf("0", "0", "1", "1", "0", 1), "-" + tenTo(200), "0", false},
		{costOf("1", "0", "0", "1", "1", 1), nines(200), "0", true},
		{costOf("1", "0", "0", "1", "1", 1), "1/" + tenTo(200), "0", false},
		{costOf("1", "0", "0", long, "0", 1), "1", "1", true},
		{costOf("1", "0", "0", long, "0", 2), "1", "1 1", false},
		{costOf("1", "0", long, "1", "1", 1), "1", "0", false},
		{costOf("1", "0", nines(399)+"8", "1", "1", 1), "1", "0", true},
		{costOf("1", "0", tiny, "1", "1", 1), "1", "0", false},
		{costOf("1", "0", tiny, "1", "0", 1), "1", "0", true},
		// One number of several.
		{costOf("0 0 | 0 0", "0 0", "1 0 | 0 1", "1", "0 0 | 0 0", 1), "3 " + tenTo(200), "0", false},
		{costOf("0 0 | 0 0", "0 0", "1 0 | 0 0", "1", "0 0 | 0 0", 1), "3 " + tenTo(200), "0", true},
		{costOf("1 0 0 | 0 1 0 | 0 0 1", "0 1 0", "0 0 0 | 0 0 0 | 0 0 0", "1/9", "0 0 0 | 0 1 0 | 0 0 0", 5), long + " 0 " + tiny, "1 -1 0 2 -2", true},
		{costOf("1 0 0 | 0 1 0 | 0 0 1", "0 1 0", "0 0 0 | 0 0 0 | 0 0 0", "1/9", "0 0 0 | 0 1 0 | 0 0 1", 5), long + " 0 " + tiny, "1 -1 0 2 -2", false},
		// By themselves both are too long, together they are not.
		{costOf("1", "0", "3", "1", "7", 1), "1/" + tenTo(200), "0", true},
		{costOf("1", "0", "3", "1", "6", 1), "1/" + tenTo(200), "0", false},
		{costOf("1", "0", "2", "1", "2", 4), "1/" + tenTo(200), "0 0 0 0", true},
		{costOf("1", "0", "1", "1", "0", 3), "1/" + tenTo(200), "0 0 0", false},
		// On the way alone.
		{costOf(long, long, "0", "1", "0", 5), long, "1 1 1 1 1", true},
		{costOf(tiny, "-"+long, "0", "1", "0", 5), "-" + tiny, "1 2 3 4 5", true},
		{costOf(far, far, "1/"+far, "1/"+far, "1", 1), far, "-" + far, true},
		{costOf(far, far, "1/"+far, "1/"+far, "1", 1), far, far, false},
		{costOf(far, far, "1/"+far, "1/"+far, "1", 2), far, "-" + far + " 0", true},
		{costOf(far, far, "1/"+far, "1/"+far, "1", 2), far, "-" + far + " 1/" + far, false},
		{costOf("0 "+long+" | 0 0", "0 0", "0 0 | 0 1", "1", "0 0 | 0 1", 3), "0 7", "0 0 0", true},
		{costOf("0 "+long+" | 0 0", "0 0", "0 0 | 0 1", "1", "0 0 | 0 1", 3), long + " 7", "0 0 0", true},
		{costOf("0 "+long+" | 0 0", "0 0", "1 0 | 0 1", "1", "0 0 | 0 1", 3), "0 7", "0 0 0", false},
	} {
		x, u := strings.Fields(c.x), strings.Fields(c.u)
		if _, ok := impl.CostOf(c.c, x, u); ok != c.fine {
			t.Errorf("CostOf of %.200v, %.100q, %.100q: %v", c.c, c.x, c.u, ok)
		}
		checkTotal(t, c.c, x, u)
	}
}

// shiftCost: the first number becomes the second one and what is pushed, the second one the third. So the gain is beside the second number alone, by what the first one costs behind the step: at the last step that is last, at all others q.
func shiftCost(q string, last string, steps int) impl.Cost {
	c := impl.Cost{A: square("0 1 0 | 0 0 1 | 0 0 0"), B: []string{"1", "0", "0"}, Q: identity(3, "0"), R: "1", Last: identity(3, "0"), Steps: steps}
	c.Q[0][0], c.Last[0][0] = q, last
	return c
}

func TestLongGainsAndCostsToGo(t *testing.T) {
	long, tiny, less := nines(400), "1/"+nines(400), "1/"+nines(399)
	for _, c := range []struct {
		c      impl.Cost
		gained bool
		went   bool
	}{
		{costOf("1", "1", "0", "1", less, 1), true, true},
		{costOf("1", "1", "0", "1", tiny, 1), false, false},
		{costOf("1", "1", "0", "1", long, 1), false, false},
		{costOf("1", "1", "0", "1", nines(399), 1), true, true},
		{costOf("0", "1", "0", "1", tiny, 1), true, true},
		{costOf("1", "1", tiny, "1", "0", 1), true, true},
		{costOf("1", "1", tiny, "1", "0", 2), false, false},
		// Without a control that moves anything all gains are 0, however long the costs to go are.
		{costOf("1", "0", long, "1", "1", 1), true, false},
		{costOf("1", "0", nines(399)+"8", "1", "1", 1), true, true},
		{costOf("1", "0", nines(399)+"8", "1", "1", 2), true, false},
		{costOf(tenTo(40), "0", "0", "1", "1", 4), true, true},
		{costOf(tenTo(40), "0", "0", "1", "1", 5), true, false},
		{costOf(long, "0", long, "1", long, 5), true, false},
		{costOf(tenTo(40)+" 0 | 0 1", "0 1", "0 0 | 0 0", "1", "1 0 | 0 1", 5), true, false},
		{costOf(tenTo(40)+" 0 | 0 1", "0 1", "0 0 | 0 0", "1", "0 0 | 0 1", 5), true, true},
		// One of the costs to go, or the gain of one step, by itself: the first, one in the midst, the last.
		{shiftCost("1", less, 1), true, true},
		{shiftCost("1", tiny, 1), false, false},
		{shiftCost("1", tiny, 3), false, false},
		{shiftCost("1", tiny, 5), false, false},
		{shiftCost("1", less, 5), true, true},
		{shiftCost(tiny, "1", 1), true, true},
		{shiftCost(tiny, "1", 2), false, false},
		{shiftCost(less, "1", 5), true, true},
		// One number of a gain, and one place of a cost to go.
		{costOf("1 1 | 0 0", "1 0", "0 0 | 0 0", "1", "1 0 | 0 0", 1), true, true},
		{costOf("1 "+tiny+" | 0 0", "1 0", "0 0 | 0 0", "1", "1 0 | 0 0", 1), false, false},
		{costOf(tiny+" 1 | 0 0", "1 0", "0 0 | 0 0", "1", "1 0 | 0 0", 1), false, false},
		{costOf("0 1 "+tiny+" | 0 0 0 | 0 0 0", "1 0 0", "0 0 0 | 0 0 0 | 0 0 0", "1", "1 0 0 | 0 0 0 | 0 0 0", 1), false, false},
		{costOf("0 1 "+less+" | 0 0 0 | 0 0 0", "1 0 0", "0 0 0 | 0 0 0 | 0 0 0", "1", "1 0 0 | 0 0 0 | 0 0 0", 1), true, false},
		{costOf("0 1 1/"+nines(199)+" | 0 0 0 | 0 0 0", "1 0 0", "0 0 0 | 0 0 0 | 0 0 0", "1", "1 0 0 | 0 0 0 | 0 0 0", 1), true, true},
	} {
		_, gained := impl.CostGains(c.c)
		_, went := impl.CostToGo(c.c)
		if gained != c.gained || went != c.went {
			t.Errorf("%.200v: CostGains %v, CostToGo %v", c.c, gained, went)
		}
		checkCost(t, c.c)
	}
}

// A gain that is too long beside costs to go that are not: with R = z / y and Last = 1 / l the gain is m y / (z l + y), and the cost to go m m z / (z l + y); and z l + y is m m e.
func TestLongGainAlone(t *testing.T) {
	m, e, l := bigText(t, tenTo(250)), bigText(t, tenTo(200)), bigText(t, tenTo(390))
	sum := new(big.Int).Mul(e, new(big.Int).Mul(m, m))
	for l.Add(l, big.NewInt(3)); ; l.Add(l, big.NewInt(2)) {
		z, y := new(big.Int).QuoRem(sum, l, new(big.Int))
		c := costOf(tenTo(250), "1", "0", z.String()+"/"+y.String(), "1/"+l.String(), 1)
		if !impl.GoodCost(c) || new(big.Int).GCD(nil, nil, y, big.NewInt(10)).Int64() != 1 {
			continue
		}
		toGo, went := impl.CostToGo(c)
		if _, gained := impl.CostGains(c); gained || !went || toGo[0][0][0] != impl.DivFrac(z.String(), tenTo(200)) {
			t.Errorf("%.400v: CostGains %v, CostToGo %v %.300q", c, gained, went, toGo)
		}
		checkCost(t, c)
		return
	}
}

func bigText(t *testing.T, s string) *big.Int {
	t.Helper()
	return new(big.Int).Set(rat(t, s).Num())
}

func TestLongControls(t *testing.T) {
	long, tiny := nines(400), "1/"+nines(400)
	for _, c := range []struct {
		c    impl.Cost
		x    string
		fine bool
	}{
		// Gains and costs to go are too long here, controls and what they cost need not be.
		{costOf("1", "1", "0", "1", tiny, 1), "0", true},
		{costOf("1", "1", "0", "1", tiny, 1), "1", false},
		{costOf("1", "1", "0", "1", tiny, 1), "10", true},
		{costOf("1", "1", "0", "1", tiny, 1), tenTo(200), true},
		{costOf("1", "1", "0", "1", tiny, 1), tenTo(399), true},
		{costOf("1", "1", "0", "1", tiny, 1), "1/3", false},
		{costOf("1", "1", "0", "1", tiny, 1), long, false},
		// What the controls cost, alone.
		{costOf("1", "0", "1", "1", "0", 1), tenTo(200), false},
		{costOf("1", "0", "1", "1", "0", 1), nines(200), true},
		{costOf("1", "0", "1", "1", "0", 1), "1/" + tenTo(200), false},
		{costOf("1", "1", long, "1", "0", 1), "1", true},
		{costOf("1", "1", long, "1", "0", 1), "2", false},
		// The control at one step: the second one of two is by the third number.
		{shiftCost("1", tiny, 2), "0 2 0", true},
		{shiftCost("1", tiny, 2), "0 2 1", false},
		{shiftCost("1", tiny, 2), "0 2 10", true},
		{shiftCost(tiny, "1", 2), "0 1 2", false},
		{shiftCost(tiny, "1", 2), "0 10 2", true},
		{shiftCost("1", tiny, 5), "1 2 3", true},
		// States on the way that can't be told.
		{costOf("1 0 | 0 "+long, "1 0", "0 0 | 0 0", "1", "1 0 | 0 0", 1), "2 " + long, true},
		{costOf("1 0 | 0 "+long, "1 0", "0 0 | 0 0", "1", "1 0 | 0 0", 5), "6 " + long, true},
		{costOf("1 0 | 0 "+long, "1 0", "0 0 | 0 0", "1", "1 0 | 0 "+tiny, 5), "6 " + long, false},
		{costOf(tiny+" 0 0 | 0 "+long+" 0 | 0 0 1", "0 0 1", "0 0 0 | 0 0 0 | 0 0 1", "1", "0 0 0 | 0 0 0 | 0 0 1", 3), tiny + " " + long + " 13", true},
	} {
		x := strings.Fields(c.x)
		if _, _, ok := impl.BestControls(c.c, x); ok != c.fine {
			t.Errorf("BestControls of %.200v, %.100q: %v", c.c, c.x, ok)
		}
		checkBest(t, c.c, x)
	}
}

// A control that is too long beside a cost that is not: of x the control is x z / (R y + z), Last being z / y, and the cost R times x times as much.
func TestLongControlAlone(t *testing.T) {
	sum := bigText(t, "1"+strings.Repeat("0", 399))
	sum.Mul(sum, bigText(t, tenTo(21)))
	for r := bigText(t, tenTo(21)); ; {
		r.Add(r, big.NewInt(1))
		y, z := new(big.Int).QuoRem(sum, r, new(big.Int))
		c := costOf("1", "1", "0", r.String(), z.String()+"/"+y.String(), 1)
		if !impl.GoodCost(c) || new(big.Int).GCD(nil, nil, new(big.Int).Mul(z, r), big.NewInt(10)).Int64() != 1 {
			continue
		}
		x := tenTo(15)
		checkNoBest(t, c, []string{x})
		checkBest(t, c, []string{x})
		// The cost by itself: R z x x / sum.
		cost := new(big.Rat).SetFrac(new(big.Int).Mul(new(big.Int).Mul(r, z), bigText(t, tenTo(30))), sum)
		if textOf(cost) == "" || textOf(new(big.Rat).SetFrac(new(big.Int).Mul(z, bigText(t, x)), sum)) != "" {
			t.Fatalf("not what is looked for: %.300v", c)
		}
		checkBest(t, c, []string{tenTo(25)})
		if u, s, ok := impl.BestControls(c, []string{tenTo(25)}); len(u) != 1 || s == "" || !ok {
			t.Errorf("BestControls of %.300v: %.100q %.100q %v", c, u, s, ok)
		}
		return
	}
}

// Numbers of 400 digits everywhere: from 0 on nothing is to be done all the same, and the answer comes in good time.
func TestLongestCosts(t *testing.T) {
	r := rand.New(rand.NewSource(234))
	longLength := func() string { return strings.TrimPrefix(longFrac(r), "-") }
	for n := 1; n <= mostState; n++ {
		c := impl.Cost{R: longLength(), Steps: mostSteps}
		for i := range n {
			c.A, c.Q, c.Last = append(c.A, nil), append(c.Q, slices.Repeat([]string{"0"}, n)), append(c.Last, slices.Repeat([]string{"0"}, n))
			for range n {
				c.A[i] = append(c.A[i], longFrac(r))
			}
			c.B, c.Q[i][i], c.Last[i][i] = append(c.B, longFrac(r)), longLength(), longLength()
		}
		zero := slices.Repeat([]string{"0"}, n)
		u, cost, ok := impl.BestControls(c, zero)
		if !slices.Equal(u, slices.Repeat([]string{"0"}, mostSteps)) || cost != "0" || !ok {
			t.Errorf("BestControls from 0: %.300q %.100q %v", u, cost, ok)
		}
		x, controls := []string{}, []string{}
		for range n {
			x = append(x, longFrac(r))
		}
		for range mostSteps {
			controls = append(controls, longFrac(r))
		}
		checkNoBest(t, c, x)
		checkNoTotal(t, c, x, controls)
		if _, ok := impl.CostGains(c); ok {
			t.Error("CostGains of long numbers")
		}
		if _, ok := impl.CostToGo(c); ok {
			t.Error("CostToGo of long numbers")
		}
		// Nothing can be pushed: so no gain is long.
		c.B = zero
		gains, ok := impl.CostGains(c)
		for _, row := range gains {
			ok = ok && slices.Equal(row, zero)
		}
		if !ok || len(gains) != mostSteps {
			t.Errorf("CostGains without a push: %.300q %v", gains, ok)
		}
	}
}

// Drawn numbers of all lengths: mostly little can be told.
func TestDrawnLongErrands(t *testing.T) {
	r := rand.New(rand.NewSource(235))
	for i := range 30 {
		n, digits := 1+i%mostState, []int{5, 15, 40, 100, 200, 400}[i/mostState%6]
		e := drawnErrand(t, r, n, min(digits, 40))
		e.c.A, e.c.B, e.c.R, e.c.Steps = drawnSquare(r, n, digits), drawnTexts(r, n, digits), drawnLength(r, digits), 1+i%2
		e.x, e.u = drawnTexts(r, n, digits), drawnTexts(r, e.c.Steps, digits)
		e.check(t)
	}
}
