package tests

import (
	"fmt"
	"math"
	"math/rand"
	"slices"
	"strings"
	"sync"
	"testing"

	"loop.example/g00047/impl"
)

func TestGoodErrands(t *testing.T) {
	for n := 1; n <= mostState; n++ {
		for steps := 1; steps <= mostSteps; steps++ {
			e := goodErrand(n, steps)
			_, gained := impl.CostGains(e.c)
			_, went := impl.CostToGo(e.c)
			_, _, best := impl.BestControls(e.c, e.x)
			_, total := impl.CostOf(e.c, e.x, e.u)
			if !impl.GoodCost(e.c) || !gained || !went || !best || !total {
				t.Errorf("%v: %v %v %v %v", e, gained, went, best, total)
			}
			e.check(t)
		}
	}
}

func TestWrongTextsInCosts(t *testing.T) {
	for n := 1; n <= mostState; n++ {
		for _, wrong := range wrongTexts() {
			for place := range 3 {
				for at := range n * n {
					e := goodErrand(n, 2)
					m := *e.squares()[place]
					m[at/n][at%n] = wrong
					checkNoCost(t, e.c, e.x, e.u)
					// The same mirrored it is no better.
					m[at%n][at/n] = wrong
					checkNoCost(t, e.c, e.x, e.u)
				}
			}
			for at := range n {
				e := goodErrand(n, 2)
				e.c.B[at] = wrong
				checkNoCost(t, e.c, e.x, e.u)
				e = goodErrand(n, 2)
				e.x[at] = wrong
				checkNoBest(t, e.c, e.x)
				checkNoTotal(t, e.c, e.x, e.u)
			}
			e := goodErrand(n, 2)
			e.c.R = wrong
			checkNoCost(t, e.c, e.x, e.u)
			for steps := 1; steps <= mostSteps; steps++ {
				for at := range steps {
					e := goodErrand(n, steps)
					e.u[at] = wrong
					checkNoTotal(t, e.c, e.x, e.u)
				}
			}
		}
	}
}

// What counts for nothing has to be good all the same.
func TestWrongTextsThatCountForNothing(t *testing.T) {
	for n := 1; n <= mostState; n++ {
		zero := slices.Repeat([]string{"0"}, n)
		for _, wrong := range []string{"", "x", "2/4", "-0", nines(401)} {
			for at := range n {
				e := errand{impl.Cost{A: identity(n, "0"), B: slices.Clone(zero), Q: identity(n, "0"), R: "1", Last: identity(n, "0"), Steps: 1}, slices.Clone(zero), []string{"0"}}
				x := e.clone()
				x.x[at] = wrong
				checkNoBest(t, x.c, x.x)
				checkNoTotal(t, x.c, x.x, x.u)
				x = e.clone()
				x.u[0] = wrong
				checkNoTotal(t, x.c, x.x, x.u)
				x = e.clone()
				x.c.B[at] = wrong
				checkNoCost(t, x.c, x.x, x.u)
				for place := range 3 {
					x = e.clone()
					(*x.squares()[place])[at][at] = wrong
					checkNoCost(t, x.c, x.x, x.u)
				}
			}
		}
	}
}

// Any good text in each place has the answer that is worked out.
func TestGoodTextsInCosts(t *testing.T) {
	for _, text := range goodTexts() {
		for n := 1; n <= mostState; n++ {
			for place := range 3 {
				for at := range n * n {
					e := goodErrand(n, 1)
					m := *e.squares()[place]
					m[at/n][at%n] = text
					e.check(t)
					m[at%n][at/n] = text
					e.check(t)
				}
			}
			for at := range n {
				e := goodErrand(n, 2)
				for _, list := range e.lists() {
					(*list)[min(at, len(*list)-1)] = text
				}
				e.check(t)
			}
			e := goodErrand(n, 1)
			e.c.R = text
			e.check(t)
		}
	}
}

func (e errand) behind(more ...string) errand {
	in := errand{c: impl.Cost{R: e.c.R, Steps: e.c.Steps}}
	for i, m := range in.squares() {
		*m = rowsBehind(*e.squares()[i], more...)
	}
	for i, l := range in.lists() {
		*l = behind(*e.lists()[i], more...)
	}
	return in
}

func (e errand) keptBehind(good errand, more ...string) bool {
	same := true
	for i, m := range e.squares() {
		same = same && rowsKept(*m, *good.squares()[i], more...)
	}
	for i, l := range e.lists() {
		same = same && kept(*l, *good.lists()[i], sameText, more...)
	}
	return same
}

// What lies behind the lists counts for nothing and stays, as the lists do.
func TestWhatLiesBehindCosts(t *testing.T) {
	for _, more := range [][]string{{"x", "7", "0"}, {"1", "1", "1"}, {"", "2/4", "-1"}} {
		for n := 1; n <= mostState; n++ {
			for steps := 1; steps <= mostSteps; steps++ {
				good := goodErrand(n, steps)
				in := good.behind(more...)
				for range 2 {
					in.check(t)
				}
				if !in.keptBehind(good, more...) {
					t.Errorf("what lies behind a list was changed: %v", in)
				}
				for _, list := range in.lists() {
					whole := *list
					*list = whole[:len(whole)+1]
					in.check(t)
					*list = whole[:len(whole)-1]
					in.check(t)
					*list = whole
				}
				for _, m := range in.squares() {
					whole := *m
					*m = whole[:n+1]
					in.check(t)
					*m = whole[:n-1]
					checkNoCost(t, in.c, in.x, in.u)
					*m = whole
				}
			}
		}
	}
}

// spoilSquares writes into each square, one after the other, and sees that the others stay.
func spoilSquares(t *testing.T, all [][][]string) {
	t.Helper()
	before := [][][]string{}
	for _, m := range all {
		before = append(before, cloneRows(m))
	}
	for i, m := range all {
		spoilBeside(t, m, nil)
		for k := i + 1; k < len(all); k++ {
			if !sameRows(all[k], before[k]) {
				t.Fatalf("squares of one answer share memory: %q, were %q", all, before)
			}
		}
	}
	spoil(all, nil)
}

// Whoever writes into an answer changes nothing else: no other list of it, no later answer, no argument.
func TestCostAnswersAreNewMemory(t *testing.T) {
	for n := 1; n <= mostState; n++ {
		for _, steps := range []int{1, 2, mostSteps} {
			plain := goodErrand(n, steps)
			// All costs to go are the same here, and the same as Q and Last.
			still := plain.clone()
			still.c.A = identity(n, "0")
			still.c.Last = still.c.Q
			for _, e := range []errand{plain, still} {
				before := e.clone()
				for range 2 {
					gains, gained := impl.CostGains(e.c)
					toGo, went := impl.CostToGo(e.c)
					u, _, best := impl.BestControls(e.c, e.x)
					if !gained || !went || !best {
						t.Fatal("no answer")
					}
					spoilSquares(t, toGo)
					spoilBeside(t, gains, nil)
					spoil(u, "x")
					if !e.is(before) {
						t.Fatalf("an argument was changed: %v, before %v", e, before)
					}
					e.check(t)
				}
			}
		}
	}
}

// The same call has the same answer every time, many at once too.
func TestCostAnswersAreTheSameEveryTime(t *testing.T) {
	e := goodErrand(mostState, mostSteps)
	ask := func() string {
		gains, _ := impl.CostGains(e.c)
		toGo, _ := impl.CostToGo(e.c)
		u, least, _ := impl.BestControls(e.c, e.x)
		total, _ := impl.CostOf(e.c, e.x, e.u)
		p, _ := impl.RiccatiReal(1.1, 0.7, 0.3, 0.9, mostRounds)
		k, _ := impl.GainReal(1.1, 0.7, 0.9, p)
		miss, ok := impl.MissReal(1.1, 0.7, 0.3, 0.9, 0.2)
		return fmt.Sprint(impl.GoodCost(e.c), gains, toGo, u, least, total, p, k, miss, ok)
	}
	want := ask()
	var all sync.WaitGroup
	for range 8 {
		all.Go(func() {
			for range 25 {
				if got := ask(); got != want {
					t.Errorf("another answer: %.300s, was %.300s", got, want)
				}
			}
		})
	}
	all.Wait()
}

// Drawn shapes of all kinds: lists and rows of any lengths, with good and wrong texts.
func TestDrawnShapesOfCosts(t *testing.T) {
	r := rand.New(rand.NewSource(236))
	good := []string{"0", "1", "2", "-1", "1/2", "3", "1", "1", "0"}
	wrong := []string{"", "x", "2/4", "-0"}
	seldom := func() bool { return r.Intn(40) == 0 }
	list := func(n int) []string {
		if seldom() {
			n = max(0, n+r.Intn(3)-1)
		}
		l := []string{}
		for range n {
			l = append(l, good[r.Intn(len(good))])
			if r.Intn(100) == 0 {
				l[len(l)-1] = wrong[r.Intn(len(wrong))]
			}
		}
		return l
	}
	spread := func(n int) [][]string {
		m := identity(n, good[r.Intn(len(good))])
		if n > 1 && r.Intn(3) == 0 {
			m[0][1] = good[r.Intn(len(good))]
			m[1][0] = m[0][1]
		}
		if n > 0 && seldom() {
			m[0] = list(n)
		}
		if n > 0 && seldom() {
			return m[:n-1]
		}
		return m
	}
	checked := 0
	for range 2500 {
		n := r.Intn(mostState + 2)
		steps := r.Intn(mostSteps + 2)
		e := errand{impl.Cost{B: list(n), Q: spread(n), R: "2/3", Last: spread(n), Steps: steps}, list(n), list(steps)}
		for range len(list(n)) {
			e.c.A = append(e.c.A, list(n))
		}
		if seldom() {
			e.c.R = []string{"0", "-1", "", "x", "2/4", "-0"}[r.Intn(6)]
		}
		e.check(t)
		if impl.GoodCost(e.c) {
			checked++
		}
	}
	if checked < 200 {
		t.Errorf("only %d were good", checked)
	}
}

// FuzzCosts asks every function of any texts and any floats.
func FuzzCosts(f *testing.F) {
	bars := strings.NewReplacer(" | ", "#", " ", "|")
	one := uint64(0x3ff0000000000000)
	add := func(a string, b string, q string, r string, last string, steps int, x string, u string) {
		f.Add(bars.Replace(a), bars.Replace(b), bars.Replace(q), r, bars.Replace(last), steps, bars.Replace(x), bars.Replace(u), one, one, one, one, one)
	}
	add("1", "1", "1", "1", "1", 3, "13", "-8 -3 -1")
	add("1 1 | 0 1", "0 1", "1 0 | 0 0", "1", "1 0 | 0 1", 2, "1 -1", "1/2 0")
	add("0 1 0 | 0 0 1 | 1 0 0", "0 0 1", "1 0 0 | 0 1 0 | 0 0 1", "2/3", "2 1 0 | 1 2 0 | 0 0 0", 1, "5 6 7", "3")
	add("", "", "", "", "", 0, "", "")
	for _, s := range append(goodTexts(), "", "-0", "1/0", "2/4") {
		add(s, s, s, s, s, 1, s, s)
		add(s+" 1 | 0 1", "0 "+s, "2 1 | 1 2", "1", s+" 0 | 0 "+s, 2, "2 "+s, "1 "+s)
	}
	for i, x := range append(edgeReals(), wrongReals()...) {
		l := []uint64{one, one, one, one, one}
		l[i%5] = math.Float64bits(x)
		f.Add("1", "1", "1", "1", "1", i, "1", "1", l[0], l[1], l[2], l[3], l[4])
	}
	f.Fuzz(func(t *testing.T, a string, b string, q string, r string, last string, steps int, x string, u string, ra uint64, rb uint64, rq uint64, rr uint64, rp uint64) {
		e := errand{impl.Cost{A: rowsIn(a), B: listIn(b), Q: rowsIn(q), R: r, Last: rowsIn(last), Steps: steps}, listIn(x), listIn(u)}
		// The exact answers of long numbers and many steps take long.
		if len(a)+len(b)+len(q)+len(r)+len(last)+len(x)+len(u) < 2500 {
			e.check(t)
			e.c.Steps = len(e.u)
			e.check(t)
		}
		s := scalar{math.Float64frombits(ra), math.Float64frombits(rb), math.Float64frombits(rq), math.Float64frombits(rr), math.Float64frombits(rp)}
		s.check(t, 3)
		if p, ok := impl.RiccatiReal(s.a, s.b, s.q, s.r, steps); steps < 0 || steps > mostRounds {
			checkReal(t, fmt.Sprintf("RiccatiReal of %v, %d rounds", s, steps), p, ok, 0, false)
		}
	})
}
