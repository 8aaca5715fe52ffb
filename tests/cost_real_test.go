package tests

import (
	"fmt"
	"math"
	"math/big"
	"math/rand"
	"testing"

	"loop.example/g00047/impl"
)

// scalar is a cost of one number in floats, and a p.
type scalar struct {
	a, b, q, r, p float64
}

func (s *scalar) floats() []*float64 { return []*float64{&s.a, &s.b, &s.q, &s.r, &s.p} }

// parts are n and d, one rounding after the other, in the document's order. Behind what is not finite all is NaN.
func (s scalar) parts() (float64, float64) {
	return mulOnce(mulOnce(s.a, s.b), s.p), addOnce(s.r, mulOnce(mulOnce(s.b, s.b), s.p))
}

// next is what one round makes of p.
func (s scalar) next() float64 {
	n, d := s.parts()
	return subOnce(addOnce(s.q, mulOnce(mulOnce(s.a, s.a), s.p)), divOnce(mulOnce(n, n), d))
}

func (s scalar) gain() float64 { return divOnce(s.parts()) }

func (s scalar) isGain() bool {
	return isReal(s.a) && isReal(s.b) && isReal(s.r) && s.b != 0 && s.r > 0
}

func (s scalar) isCost() bool { return s.isGain() && isReal(s.q) && s.q > 0 }

// toldIf is how an answer of good floats is told; what is not good has none.
func toldIf(good bool, x float64) (float64, bool) {
	if !good {
		return 0, false
	}
	return told(x)
}

// check asks all three functions of any floats, bit by bit; RiccatiReal of 0 to that many rounds.
func (s scalar) check(t *testing.T, rounds int) {
	t.Helper()
	what := fmt.Sprintf("%x", []float64{s.a, s.b, s.q, s.r, s.p})
	got, ok := impl.GainReal(s.a, s.b, s.r, s.p)
	want, wantOk := 0.0, false
	if s.isGain() && isReal(s.p) {
		want, wantOk = told(s.gain())
	}
	checkReal(t, "GainReal of "+what, got, ok, want, wantOk)
	got, ok = impl.MissReal(s.a, s.b, s.q, s.r, s.p)
	want, wantOk = 0, false
	if s.isCost() && isReal(s.p) {
		want, wantOk = told(subOnce(s.next(), s.p))
	}
	checkReal(t, "MissReal of "+what, got, ok, want, wantOk)
	at := s
	at.p = s.q
	for n := range rounds + 1 {
		want, wantOk = 0, false
		if s.isCost() {
			want, wantOk = told(at.p)
		}
		got, ok = impl.RiccatiReal(s.a, s.b, s.q, s.r, n)
		checkReal(t, fmt.Sprintf("RiccatiReal of %s, %d rounds", what, n), got, ok, want, wantOk)
		if !wantOk {
			at.p = math.NaN()
			continue
		}
		at.p = got
		miss, missOk := impl.MissReal(s.a, s.b, s.q, s.r, got)
		checkMiss(t, s, n, got, miss, missOk)
		at.p = at.next()
	}
}

// checkMiss: MissReal of what RiccatiReal tells is what one round more tells, less it.
func checkMiss(t *testing.T, s scalar, rounds int, p float64, miss float64, ok bool) {
	t.Helper()
	if rounds == mostRounds {
		return
	}
	more, moreOk := impl.RiccatiReal(s.a, s.b, s.q, s.r, rounds+1)
	want, wantOk := toldIf(moreOk, subOnce(more, p))
	checkReal(t, fmt.Sprintf("MissReal of %x behind %d rounds", s, rounds), miss, ok, want, wantOk)
}

func TestRiccatiReal(t *testing.T) {
	for _, c := range []struct {
		s      scalar
		rounds int
		want   float64
	}{
		{scalar{a: 1, b: 1, q: 1, r: 1}, 0, 1},
		{scalar{a: 1, b: 1, q: 1, r: 1}, 1, 1.5},
		{scalar{a: 1, b: 1, q: 1, r: 1}, 2, 1.6},
		{scalar{a: 1, b: 1, q: 1, r: 1}, 40, 0x1.9e3779b97f4a8p+00},
		{scalar{a: 2, b: 1, q: 3, r: 1}, 1, 6},
		{scalar{a: -2, b: 1, q: 3, r: 1}, 1, 6},
		{scalar{a: 2, b: -1, q: 3, r: 1}, 1, 6},
		{scalar{a: 0, b: 5, q: 3, r: 7}, 0, 3},
		{scalar{a: 0, b: 5, q: 3, r: 7}, 1, 3},
		{scalar{a: 0, b: 5, q: 3, r: 7}, 40, 3},
		{scalar{a: 4, b: 2, q: 1, r: 4}, 1, 9},
		{scalar{a: 0.5, b: 2, q: 4, r: 16}, 1, 4.5},
		// Nothing comes up in no round, however great the floats are.
		{scalar{a: greatest, b: greatest, q: greatest, r: greatest}, 0, greatest},
		{scalar{a: -greatest, b: least, q: least, r: least}, 0, least},
	} {
		got, ok := impl.RiccatiReal(c.s.a, c.s.b, c.s.q, c.s.r, c.rounds)
		checkReal(t, fmt.Sprintf("RiccatiReal of %v, %d", c.s, c.rounds), got, ok, c.want, true)
		c.s.check(t, mostRounds)
	}
}

func TestGainReal(t *testing.T) {
	for _, c := range []struct {
		s    scalar
		want float64
		ok   bool
	}{
		{scalar{a: 1, b: 1, r: 1, p: 1}, 0.5, true},
		{scalar{a: 3, b: 1, r: 1, p: 2}, 2, true},
		{scalar{a: 3, b: -1, r: 1, p: 2}, -2, true},
		{scalar{a: 1, b: 2, r: 1, p: 0.75}, 0.375, true},
		{scalar{a: 1, b: 1, r: 2, p: -1}, -1, true},
		{scalar{a: 1, b: 1, r: 1, p: -2}, 2, true},
		{scalar{a: 0.1, b: 3, r: 7, p: 0.2}, 0x1.bed61bed61beep-08, true},
		// No sign at a nought, from whatever side it comes.
		{scalar{a: 0, b: -1, r: 1, p: 1}, 0, true},
		{scalar{a: 0, b: 1, r: 1, p: -5}, 0, true},
		{scalar{a: -1, b: 1, r: 1, p: 0}, 0, true},
		{scalar{a: -1, b: 1, r: 1, p: least / 2}, 0, true},
		{scalar{a: -least, b: 0.25, r: 1, p: 1}, 0, true},
		{scalar{a: -least, b: 1, r: 4, p: 1}, 0, true},
		// The sum is 0.
		{scalar{a: 1, b: 1, r: 1, p: -1}, 0, false},
		{scalar{a: 0, b: 1, r: 1, p: -1}, 0, false},
		{scalar{a: -7, b: 2, r: 8, p: -2}, 0, false},
		{scalar{a: 1, b: 1, r: least, p: -least}, 0, false},
		{scalar{a: 1, b: 1, r: greatest, p: -greatest}, 0, false},
		// Rounded by itself the product is the float that is taken off.
		{scalar{a: 1, b: 3, r: 0.9, p: -0.1}, 0, false},
	} {
		got, ok := impl.GainReal(c.s.a, c.s.b, c.s.r, c.s.p)
		checkReal(t, fmt.Sprintf("GainReal of %v", c.s), got, ok, c.want, c.ok)
		c.s.q = 1
		c.s.check(t, 2)
	}
}

func TestMissReal(t *testing.T) {
	for _, c := range []struct {
		s    scalar
		want float64
		ok   bool
	}{
		{scalar{1, 1, 1, 1, 1}, 0.5, true},
		{scalar{1, 1, 1, 1, 1.5}, 0x1.99999999999ap-4, true},
		{scalar{1, 1, 1, 1, 0}, 1, true},
		{scalar{1, 1, 2, 1, -0.5}, 1.5, true},
		{scalar{2, 1, 3, 1, 3}, 3, true},
		// It stays as it is: no sign at the nought.
		{scalar{0, 1, 3, 1, 3}, 0, true},
		{scalar{1, 1, 0.5, 0.5, 1}, -0.16666666666666663, true},
		{scalar{1, 1, 6, 3, 9}, -0.75, true},
		// By the sum of 0 nothing is divided.
		{scalar{1, 1, 1, 1, -1}, 0, false},
		{scalar{0, 1, 1, 1, -1}, 0, false},
		// The round is finite, but not what is left of it less p.
		{scalar{0, 0x1p-600, greatest, 1, -greatest}, 0, false},
		{scalar{0, 0x1p-600, greatest, 1, greatest}, 0, true},
		{scalar{0, 0x1p-600, greatest, 1, 1}, greatest, true},
	} {
		c.s.check(t, 3)
		got, ok := impl.MissReal(c.s.a, c.s.b, c.s.q, c.s.r, c.s.p)
		checkReal(t, fmt.Sprintf("MissReal of %v", c.s), got, ok, c.want, c.ok)
	}
}

// fma is a product and a sum rounded once.
func fma(a float64, b float64, c float64) float64 {
	return rounded(plus(times(exact(a), exact(b)), exact(c)))
}

// otherOrders are what a round might look like, but is not to: other orders of products and sums, two operations at once.
func otherOrders(s scalar) map[string]float64 {
	n, d := s.parts()
	squared := divOnce(mulOnce(n, n), d)
	ahead := addOnce(s.q, mulOnce(mulOnce(s.a, s.a), s.p))
	by := func(n float64, d float64) float64 { return subOnce(ahead, divOnce(mulOnce(n, n), d)) }
	return map[string]float64{
		"n is a (b p)":                 by(mulOnce(s.a, mulOnce(s.b, s.p)), d),
		"n is (a p) b":                 by(mulOnce(mulOnce(s.a, s.p), s.b), d),
		"d has b (b p)":                by(n, addOnce(s.r, mulOnce(s.b, mulOnce(s.b, s.p)))),
		"d at once":                    by(n, fma(mulOnce(s.b, s.b), s.p, s.r)),
		"a (a p)":                      subOnce(addOnce(s.q, mulOnce(s.a, mulOnce(s.a, s.p))), squared),
		"q + (a a) p at once":          subOnce(fma(mulOnce(s.a, s.a), s.p, s.q), squared),
		"q + ((a a) p - n n / d)":      addOnce(s.q, subOnce(mulOnce(mulOnce(s.a, s.a), s.p), squared)),
		"(q - n n / d) + (a a) p":      addOnce(subOnce(s.q, squared), mulOnce(mulOnce(s.a, s.a), s.p)),
		"n (n / d)":                    subOnce(ahead, mulOnce(n, divOnce(n, d))),
		"n (n / d) at once":            fma(-n, divOnce(n, d), ahead),
		"(a a) p r / d":                addOnce(s.q, divOnce(mulOnce(mulOnce(mulOnce(s.a, s.a), s.p), s.r), d)),
		"exactly, rounded in the end":  s.exactNext(),
		"a product in the end at once": fma(mulOnce(n, n), -divOnce(1, d), ahead),
	}
}

// exactNext rounds once, behind all of a round.
func (s scalar) exactNext() float64 {
	a, b, q, r, p := exact(s.a), exact(s.b), exact(s.q), exact(s.r), exact(s.p)
	n, d := times(times(a, b), p), plus(r, times(times(b, b), p))
	return rounded(minus(plus(q, times(times(a, a), p)), quotient(times(n, n), d)))
}

// Each other order gives another last bit somewhere, and there the program has the told one.
func TestOrderOfARound(t *testing.T) {
	r := rand.New(rand.NewSource(228))
	unlike := map[string]int{}
	for range 400 {
		s := scalar{r.Float64()*4 - 2, r.Float64()*4 - 2, r.Float64() + 0.1, r.Float64() + 0.1, 0}
		s.p = s.q
		got, ok := impl.RiccatiReal(s.a, s.b, s.q, s.r, 1)
		checkReal(t, fmt.Sprintf("RiccatiReal of %x", s), got, ok, s.next(), true)
		miss, ok := impl.MissReal(s.a, s.b, s.q, s.r, s.p)
		checkReal(t, fmt.Sprintf("MissReal of %x", s), miss, ok, subOnce(s.next(), s.p), true)
		for order, p := range otherOrders(s) {
			unlike[order] += 0
			if !same(p, got) {
				unlike[order]++
			}
		}
	}
	for order, count := range unlike {
		if count < 5 {
			t.Errorf("%s: only %d inputs tell it from the order told", order, count)
		}
	}
}

func TestOrderOfAGain(t *testing.T) {
	r := rand.New(rand.NewSource(229))
	unlike := map[string]int{}
	for range 400 {
		s := scalar{a: r.Float64()*4 - 2, b: r.Float64()*4 - 2, r: r.Float64() + 0.1, p: r.Float64()*3 - 1}
		got, ok := impl.GainReal(s.a, s.b, s.r, s.p)
		checkReal(t, fmt.Sprintf("GainReal of %x", s), got, ok, s.gain(), true)
		n, d := s.parts()
		for order, k := range map[string]float64{
			"n is a (b p)":  divOnce(mulOnce(s.a, mulOnce(s.b, s.p)), d),
			"n is (a p) b":  divOnce(mulOnce(mulOnce(s.a, s.p), s.b), d),
			"d has b (b p)": divOnce(n, addOnce(s.r, mulOnce(s.b, mulOnce(s.b, s.p)))),
			"d at once":     divOnce(n, fma(mulOnce(s.b, s.b), s.p, s.r)),
			"a (b p / d)":   mulOnce(s.a, divOnce(mulOnce(s.b, s.p), d)),
			"(a b) (p / d)": mulOnce(mulOnce(s.a, s.b), divOnce(s.p, d)),
			"n times 1 / d": mulOnce(n, divOnce(1, d)),
		} {
			unlike[order] += 0
			if !same(k, got) {
				unlike[order]++
			}
		}
	}
	for order, count := range unlike {
		if count < 5 {
			t.Errorf("%s: only %d inputs tell it from the order told", order, count)
		}
	}
}

// The last sum of MissReal is one of its own: q and what is taken off are not summed up with p in another order.
func TestOrderOfAMiss(t *testing.T) {
	r := rand.New(rand.NewSource(230))
	unlike := 0
	for range 400 {
		s := scalar{r.Float64()*4 - 2, r.Float64()*4 - 2, r.Float64() + 0.1, r.Float64() + 0.1, r.Float64() * 3}
		got, ok := impl.MissReal(s.a, s.b, s.q, s.r, s.p)
		checkReal(t, fmt.Sprintf("MissReal of %x", s), got, ok, subOnce(s.next(), s.p), true)
		n, d := s.parts()
		if other := subOnce(subOnce(addOnce(s.q, mulOnce(mulOnce(s.a, s.a), s.p)), s.p), divOnce(mulOnce(n, n), d)); !same(other, got) {
			unlike++
		}
	}
	if unlike < 5 {
		t.Errorf("only %d inputs tell one order from the other", unlike)
	}
}

func TestDrawnScalars(t *testing.T) {
	r := rand.New(rand.NewSource(231))
	for range 150 {
		scalar{nearReal(r), nearReal(r), math.Abs(nearReal(r)), math.Abs(nearReal(r)), nearReal(r)}.check(t, 4)
		scalar{anyReal(r), anyReal(r), math.Abs(anyReal(r)), math.Abs(anyReal(r)), anyReal(r)}.check(t, 2)
	}
	for range 15 {
		scalar{r.Float64()*4 - 2, r.Float64()*4 - 2, r.Float64(), r.Float64(), r.Float64()}.check(t, mostRounds)
	}
	// Sizes at which products and squares are just finite, or just not.
	for range 300 {
		size := func(most int) float64 { return math.Ldexp(1+r.Float64(), r.Intn(2*most)-most) }
		s := scalar{size(520), size(520), size(1020), size(1020), size(1020)}
		s.check(t, 2)
		s.a, s.p = -s.a, -s.p
		s.check(t, 2)
	}
}

// All edges of floats, in each place by itself and two by two.
func TestEdgesOfScalars(t *testing.T) {
	edges := append(edgeReals(), wrongReals()...)
	for i, x := range edges {
		for place := range 5 {
			s := scalar{0.75, 1.25, 1, 2, 1.5}
			*s.floats()[place] = x
			s.check(t, 2)
			*s.floats()[(place+1)%5] = edges[(i*7+place)%len(edges)]
			s.check(t, 2)
			*s.floats()[(place+3)%5] = edges[(i*11+3*place)%len(edges)]
			s.check(t, 2)
		}
	}
}

// What is infinite or NaN on the way has the zero answer, also where all behind it would be finite again.
func TestNotFiniteOnTheWay(t *testing.T) {
	for _, c := range []struct {
		what       string
		s          scalar
		gain, miss bool
	}{
		{"nothing", scalar{1, 1, 1, 1, 1}, true, true},
		{"a b", scalar{0x1p600, 0x1p600, 1, 1, 0x1p-1000}, false, false},
		{"a b, times 0", scalar{0x1p600, 0x1p600, 1, 1, 0}, false, false},
		{"(a b) p", scalar{0x1p400, 0x1p400, 1, 1, 0x1p400}, false, false},
		{"b b, by which is divided", scalar{1, 0x1p512, 1, 1, 1}, false, false},
		{"b b, times the least", scalar{0, 0x1p512, 1, 1, least}, false, false},
		{"b b, times 0", scalar{0, 0x1p512, 1, 1, 0}, false, false},
		{"(b b) p, by which is divided", scalar{0x1p-100, 0x1p300, 1, 1, 0x1p500}, false, false},
		{"(b b) p, below 0", scalar{0, 0x1p300, 1, 1, -0x1p500}, false, false},
		{"the sum, by which is divided", scalar{0, 1, 1, greatest, greatest}, false, false},
		{"nothing, the sum is just finite", scalar{0, 1, 1, greatest, 0x1p969}, true, true},
		{"a a", scalar{0x1p512, 0x1p-512, 1, 1, 0x1p-200}, true, false},
		{"a a, times 0", scalar{0x1p512, 0x1p-512, 1, 1, 0}, true, false},
		{"(a a) p", scalar{0x1p500, 0x1p-500, 1, 1, 0x1p100}, true, false},
		{"q + (a a) p", scalar{1, 0x1p-500, greatest, 1, greatest}, true, false},
		{"n n", scalar{0x1p300, 0x1p300, 1, 1, 1}, true, false},
		{"n n, divided by as much", scalar{1, 0x1p511, 1, 1, 2}, true, false},
		{"nothing, n n is just finite", scalar{1, 0x1p511, 1, 1, 1}, true, true},
		{"nothing, n n is 0", scalar{1, 1, 1, 0x1p-600, 0x1p-600}, true, true},
		{"n n / d", scalar{0x1p500, 1, 1, 1, -stepDown(1)}, true, false},
		{"n / d", scalar{0x1p1000, 0x1p-100, 1, 0x1p-200, 1}, false, false},
		{"the sum of 0", scalar{1, 1, 1, 1, -1}, false, false},
		{"the sum of 0 and n of 0", scalar{0, 1, 1, 1, -1}, false, false},
		{"nothing, the last difference is just finite", scalar{0, 0x1p-400, 1, 1, greatest}, true, true},
		{"the last difference", scalar{0, 0x1p-400, greatest, 1, -greatest}, true, false},
	} {
		_, gain := impl.GainReal(c.s.a, c.s.b, c.s.r, c.s.p)
		_, miss := impl.MissReal(c.s.a, c.s.b, c.s.q, c.s.r, c.s.p)
		if gain != c.gain || miss != c.miss {
			t.Errorf("%s: GainReal of %v is %v, MissReal is %v", c.what, c.s, gain, miss)
		}
		c.s.check(t, 3)
		// The first round has p as q.
		if c.s.p > 0 {
			c.s.q = c.s.p
			c.s.check(t, 3)
		}
	}
}

// Rounds that go well at first, and not to the end: there is no answer from there on.
func TestRoundsThatEndNowhere(t *testing.T) {
	stopped := 0
	for _, s := range []scalar{{a: 0x1p100, b: 0x1p-500, q: 1, r: 1}, {a: 0x1p200, b: 0x1p-300, q: 1, r: 0x1p200}, {a: 3, b: 0x1p-300, q: 0x1p1000, r: 1},
		{a: 1.5, b: 0x1p-400, q: 0x1p1010, r: 0x1p1000}, {a: -0x1p60, b: 1, q: 0x1p-100, r: 0x1p900}} {
		s.check(t, mostRounds)
		_, first := impl.RiccatiReal(s.a, s.b, s.q, s.r, 1)
		_, last := impl.RiccatiReal(s.a, s.b, s.q, s.r, mostRounds)
		if first && !last {
			stopped++
		}
	}
	if stopped < 3 {
		t.Errorf("only %d came to an end", stopped)
	}
}

// Rounding may bring p to 0 and below where q and r are small: the rounds go on by what is told.
func TestRoundsOfLittle(t *testing.T) {
	r := rand.New(rand.NewSource(232))
	below := 0
	for range 200 {
		s := scalar{a: math.Ldexp(1+r.Float64(), 20+r.Intn(40)), b: 1 + r.Float64(), q: math.Ldexp(1+r.Float64(), -r.Intn(40)), r: math.Ldexp(1, -60-r.Intn(60))}
		s.check(t, 5)
		for rounds := range 6 {
			if p, ok := impl.RiccatiReal(s.a, s.b, s.q, s.r, rounds); ok && p <= 0 {
				below++
			}
		}
	}
	if below < 5 {
		t.Errorf("only %d were 0 or below", below)
	}
}

func TestCountsOfRounds(t *testing.T) {
	wrong := append([]int{-1, -2, -40, mostRounds + 1, mostRounds + 2, 80, 1 << 32, 1<<32 + 1, -1 << 32, math.MinInt32, math.MaxInt32}, farInts...)
	for _, s := range []scalar{{a: 1, b: 1, q: 1, r: 1}, {a: 0, b: -2, q: 0.1, r: 0.3}, {a: 1.1, b: 0.7, q: greatest / 16, r: least}} {
		for _, rounds := range wrong {
			got, ok := impl.RiccatiReal(s.a, s.b, s.q, s.r, rounds)
			checkReal(t, fmt.Sprintf("RiccatiReal of %v, %d rounds", s, rounds), got, ok, 0, false)
		}
		for _, rounds := range []int{0, 1, mostRounds} {
			if _, ok := impl.RiccatiReal(s.a, s.b, s.q, s.r, rounds); !ok && s.q < 2 {
				t.Errorf("RiccatiReal of %v, %d rounds: false", s, rounds)
			}
		}
	}
}

// Floats that are not good, and good ones that the chapter does not allow, in each place.
func TestWrongScalars(t *testing.T) {
	check := func(s scalar, gain bool, cost bool, p bool) {
		t.Helper()
		what := fmt.Sprint(s)
		if !gain || !p {
			x, ok := impl.GainReal(s.a, s.b, s.r, s.p)
			checkReal(t, "GainReal of "+what, x, ok, 0, false)
		}
		if !cost || !p {
			x, ok := impl.MissReal(s.a, s.b, s.q, s.r, s.p)
			checkReal(t, "MissReal of "+what, x, ok, 0, false)
		}
		for rounds := range 3 {
			if !cost {
				x, ok := impl.RiccatiReal(s.a, s.b, s.q, s.r, rounds)
				checkReal(t, "RiccatiReal of "+what, x, ok, 0, false)
			}
		}
		s.check(t, 2)
	}
	for place := range 5 {
		for _, x := range wrongReals() {
			s := scalar{1, 1, 1, 1, 1}
			*s.floats()[place] = x
			// A gain has no q, and the rounds have no p.
			check(s, place == 2, place == 4, place != 4)
		}
	}
	for _, x := range []float64{0, -least, -1, -greatest} {
		check(scalar{1, 1, x, 1, 1}, true, false, true)
		check(scalar{1, 1, 1, x, 1}, false, false, true)
	}
	check(scalar{1, 0, 1, 1, 1}, false, false, true)
	for _, s := range []scalar{{0, 1, 1, 1, 1}, {1, least, least, least, least}, {-1, -1, 1, 1, -0.5}, {1, -least, 1, 1, 0}} {
		_, gain := impl.GainReal(s.a, s.b, s.r, s.p)
		_, miss := impl.MissReal(s.a, s.b, s.q, s.r, s.p)
		_, rounds := impl.RiccatiReal(s.a, s.b, s.q, s.r, 1)
		if !gain || !miss || !rounds {
			t.Errorf("%v: %v %v %v", s, gain, miss, rounds)
		}
		s.check(t, 3)
	}
}

// By fractions the same comes out as by floats, but for what is rounded.
func TestScalarsAreCosts(t *testing.T) {
	r := rand.New(rand.NewSource(233))
	for range 60 {
		s := scalar{a: float64(r.Intn(17)-8) / 4, b: float64(r.Intn(8)+1) / 4, q: float64(r.Intn(8)+1) / 2, r: float64(r.Intn(8)+1) / 2}
		c := impl.Cost{A: [][]string{{impl.FracOfReal(s.a)}}, B: []string{impl.FracOfReal(s.b)}, Q: [][]string{{impl.FracOfReal(s.q)}}, R: impl.FracOfReal(s.r), Last: [][]string{{impl.FracOfReal(s.q)}}, Steps: mostSteps}
		toGo, ok := impl.CostToGo(c)
		gains, okToo := impl.CostGains(c)
		if !ok || !okToo {
			t.Fatalf("no answer for %v", c)
		}
		for rounds := range mostSteps + 1 {
			p, _ := impl.RiccatiReal(s.a, s.b, s.q, s.r, rounds)
			checkNearly(t, p, rat(t, toGo[mostSteps-rounds][0][0]))
			if rounds < mostSteps {
				k, _ := impl.GainReal(s.a, s.b, s.r, p)
				checkNearly(t, k, rat(t, gains[mostSteps-1-rounds][0]))
			}
		}
		// In the end little is missed.
		p, _ := impl.RiccatiReal(s.a, s.b, s.q, s.r, mostRounds)
		if miss, ok := impl.MissReal(s.a, s.b, s.q, s.r, p); !ok || math.Abs(miss) > p/1e6 {
			t.Errorf("%v: %g misses %g", s, p, miss)
		}
	}
}

func checkNearly(t *testing.T, x float64, want *big.Rat) {
	t.Helper()
	if off, _ := minus(exact(x), want).Float64(); math.Abs(off) > 1e-11*(1+math.Abs(x)) {
		t.Errorf("%g is %g from %s", x, off, want)
	}
}
