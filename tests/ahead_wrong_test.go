package tests

import (
	"fmt"
	"math/rand"
	"slices"
	"strings"
	"sync"
	"testing"

	"loop.example/g00047/impl"
)

func TestGoodLookouts(t *testing.T) {
	for n := 1; n <= mostState; n++ {
		for rows := range mostLimits + 1 {
			l := goodLookout(t, n, rows)
			_, value := impl.QuadValue(l.q, l.x)
			_, ahead := impl.AheadQuad(l.k)
			_, control := impl.AheadControl(l.k)
			if !impl.GoodQuad(l.q) || !impl.BestHolds(l.q, l.b) || !impl.QuadFits(l.q, l.b.X) || !value || !ahead || !control {
				t.Errorf("%v: %v %v %v", l, value, ahead, control)
			}
			l.check(t)
		}
	}
}

func TestWrongTextsInQuads(t *testing.T) {
	for n := 1; n <= mostState; n++ {
		for _, rows := range []int{0, 1, 3, mostLimits} {
			good := goodLookout(t, n, rows)
			for _, wrong := range wrongTexts() {
				for at := range n * n {
					l := good.clone()
					l.q.H[at/n][at%n] = wrong
					checkNoQuad(t, l.q, l.x, l.b)
					// The same mirrored it is no better.
					l.q.H[at%n][at/n] = wrong
					checkNoQuad(t, l.q, l.x, l.b)
				}
				for at := range n {
					l := good.clone()
					l.q.F[at] = wrong
					checkNoQuad(t, l.q, l.x, l.b)
					l = good.clone()
					l.x[at] = wrong
					checkNoAt(t, l.q, l.x)
				}
				for at := range rows {
					l := good.clone()
					l.q.Limits[at] = wrong
					checkNoQuad(t, l.q, l.x, l.b)
					for k := range n {
						l = good.clone()
						l.q.G[at][k] = wrong
						checkNoQuad(t, l.q, l.x, l.b)
					}
				}
			}
		}
	}
}

func TestWrongTextsInTasks(t *testing.T) {
	for steps := 1; steps <= 2; steps++ {
		for _, wrong := range wrongTexts() {
			for place := range 5 {
				l := lookout{k: taskOf("2 3 5 7 11", steps)}
				*l.texts()[place] = wrong
				checkNoTask(t, l.k)
				// What counts for nothing has to be good all the same.
				l.k = taskOf("0 0 0 1 1", steps)
				*l.texts()[place] = wrong
				checkNoTask(t, l.k)
			}
		}
	}
}

// What counts for nothing has to be good all the same: a row that can't press, a limit that nobody meets, numbers beside 0.
func TestWrongTextsThatCountForNothingInQuads(t *testing.T) {
	for n := 1; n <= mostState; n++ {
		zero := slices.Repeat([]string{"0"}, n)
		good := lookout{q: impl.Quad{H: identity(n, "1"), F: zero, G: [][]string{zero, zero, zero}, Limits: []string{"1", "1", "1"}}, x: zero,
			b: impl.Best{Kind: impl.BestFound, X: zero, Press: []string{"0", "0", "0"}, Value: "0"}}
		if !impl.BestHolds(good.q, good.b) || !impl.QuadFits(good.q, good.x) {
			t.Fatalf("%v does not hold", good)
		}
		for _, wrong := range []string{"", "x", "2/4", "-0", nines(401)} {
			for at := range n {
				for row := range 3 {
					l := good.clone()
					l.q.G[row][at] = wrong
					checkNoQuad(t, l.q, l.x, l.b)
					l = good.clone()
					l.q.Limits[row] = wrong
					checkNoQuad(t, l.q, l.x, l.b)
					l = good.clone()
					l.b.Press[row] = wrong
					checkHolds(t, l.q, l.b)
				}
				l := good.clone()
				l.x[at] = wrong
				checkNoAt(t, l.q, l.x)
				l = good.clone()
				l.b.X[at] = wrong
				checkHolds(t, l.q, l.b)
				// Nothing fits, and there is no best: the numbers are looked at ahead of that.
				l = good.clone()
				l.q.Limits = []string{"-1", "-1", "-1"}
				l.q.F[at] = wrong
				checkNoQuad(t, l.q, l.x, l.b)
			}
		}
	}
}

// Any good text in each place has the answer that is worked out.
func TestGoodTextsInQuads(t *testing.T) {
	for _, text := range goodTexts() {
		for n := 1; n <= mostState; n++ {
			rows := 1 + n%2
			good := goodLookout(t, n, rows)
			for at := range n * n {
				l := good.clone()
				l.q.H[at/n][at%n] = text
				checkQuad(t, l.q)
				l.q.H[at%n][at/n] = text
				l.check(t)
			}
			for _, place := range []int{0, 1, 2, 3, 4} {
				l := good.clone()
				list := *l.lists()[place]
				for at := range list {
					l = good.clone()
					(*l.lists()[place])[at] = text
					l.check(t)
				}
			}
			for row := range rows {
				for at := range n {
					l := good.clone()
					l.q.G[row][at] = text
					l.check(t)
				}
			}
		}
		for place := range 5 {
			for steps := 1; steps <= 2; steps++ {
				l := lookout{k: taskOf("2 3 5 7 11", steps)}
				*l.texts()[place] = text
				checkTask(t, l.k)
			}
		}
	}
}

func (l lookout) behind(more ...string) lookout {
	in := lookout{b: l.b, k: l.k}
	for i, m := range in.rows() {
		*m = rowsBehind(*l.rows()[i], more...)
	}
	for i, list := range in.lists() {
		*list = behind(*l.lists()[i], more...)
	}
	return in
}

func (l lookout) keptBehind(good lookout, more ...string) bool {
	same := true
	for i, m := range l.rows() {
		same = same && rowsKept(*m, *good.rows()[i], more...)
	}
	for i, list := range l.lists() {
		same = same && kept(*list, *good.lists()[i], sameText, more...)
	}
	return same
}

// What lies behind the lists counts for nothing and stays, as the lists do.
func TestWhatLiesBehindQuads(t *testing.T) {
	for _, more := range [][]string{{"x", "7", "0"}, {"1", "1", "1"}, {"", "2/4", "-1"}} {
		for n := 1; n <= mostState; n++ {
			for rows := range mostLimits + 1 {
				good := goodLookout(t, n, rows)
				in := good.behind(more...)
				for range 2 {
					in.check(t)
					if !impl.BestHolds(in.q, in.b) {
						t.Errorf("BestHolds of %v is false", in)
					}
				}
				if !in.keptBehind(good, more...) {
					t.Errorf("what lies behind a list was changed: %v", in)
				}
				for _, list := range in.lists() {
					whole := *list
					*list = whole[:len(whole)+1]
					in.check(t)
					*list = whole[:max(len(whole)-1, 0)]
					in.check(t)
					*list = whole
				}
				for _, m := range in.rows() {
					whole := *m
					*m = whole[:len(whole)+1]
					checkNoQuad(t, in.q, in.x, in.b)
					if len(whole) > 0 {
						*m = whole[:len(whole)-1]
						checkNoQuad(t, in.q, in.x, in.b)
					}
					*m = whole
				}
				if !in.keptBehind(good, more...) {
					t.Errorf("what lies behind a list was changed: %v", in)
				}
			}
		}
	}
}

// spoilQuad writes into each list of a quad that is answered, one after the other, and sees that the others stay.
func spoilQuad(t *testing.T, q impl.Quad) {
	t.Helper()
	lists := append(append(slices.Clone(q.H), q.G...), q.F, q.Limits)
	for i, l := range lists {
		before := cloneRows(lists)
		spoil(l, "x")
		for k := range lists {
			if k != i && !slices.Equal(lists[k], before[k]) {
				t.Fatalf("lists of one answer share memory: %q, were %q", lists, before)
			}
		}
	}
	g := slices.Clone(q.G)
	spoil(q.H, nil)
	if !sameRows(q.G, g) {
		t.Fatalf("lists of one answer share memory: %q, were %q", q.G, g)
	}
	spoil(q.G, nil)
}

// Whoever writes into an answer changes nothing else: no other list of it, no later answer, no argument.
func TestAheadAnswersAreNewMemory(t *testing.T) {
	for n := 1; n <= mostState; n++ {
		for rows := range mostLimits + 1 {
			plain := goodLookout(t, n, rows)
			// X and Press are the same here, and the same as F.
			still := lookout{q: box(n, rows), x: slices.Repeat([]string{"0"}, n), k: taskOf("0 0 0 1 1", 1+rows%2)}
			still.b, _ = impl.BestOf(still.q)
			for _, l := range []lookout{plain, still} {
				before := l.clone()
				for range 2 {
					b, ok := impl.BestOf(l.q)
					q, ahead := impl.AheadQuad(l.k)
					if !ok || !ahead {
						t.Fatal("no answer")
					}
					spoilQuad(t, q)
					x := slices.Clone(b.X)
					spoil(b.Press, "y")
					if !slices.Equal(b.X, x) {
						t.Fatalf("X and Press of one answer share memory: %v", b)
					}
					press := slices.Clone(b.Press)
					spoil(b.X, "x")
					if !slices.Equal(b.Press, press) {
						t.Fatalf("X and Press of one answer share memory: %v", b)
					}
					if !l.is(before) {
						t.Fatalf("an argument was changed: %v, before %v", l, before)
					}
					l.check(t)
				}
			}
		}
	}
}

// The same call has the same answer every time, many at once too.
func TestAheadAnswersAreTheSameEveryTime(t *testing.T) {
	l := goodLookout(t, mostState, mostLimits)
	ask := func() string {
		b, ok := impl.BestOf(l.q)
		value, _ := impl.QuadValue(l.q, l.x)
		q, _ := impl.AheadQuad(l.k)
		u, _ := impl.AheadControl(l.k)
		return fmt.Sprint(impl.GoodQuad(l.q), b, ok, value, impl.QuadFits(l.q, l.x), impl.BestHolds(l.q, l.b), q, u)
	}
	want := ask()
	var all sync.WaitGroup
	for range 8 {
		all.Go(func() {
			for range 25 {
				if got := ask(); got != want {
					t.Errorf("another answer: %.300s, was %.300s", got, want)
				}
			}
		})
	}
	all.Wait()
}

// Drawn shapes of all kinds: lists and rows of any lengths, with good and wrong texts.
func TestDrawnShapesOfQuads(t *testing.T) {
	r := rand.New(rand.NewSource(258))
	good := []string{"0", "1", "2", "-1", "1/2", "3", "1", "1", "0"}
	wrong := []string{"", "x", "2/4", "-0"}
	seldom := func() bool { return r.Intn(40) == 0 }
	list := func(n int) []string {
		if seldom() {
			n = max(0, n+r.Intn(3)-1)
		}
		l := []string{}
		for range n {
			l = append(l, good[r.Intn(len(good))])
			if r.Intn(100) == 0 {
				l[len(l)-1] = wrong[r.Intn(len(wrong))]
			}
		}
		return l
	}
	checked := 0
	for range 2000 {
		n, rows := r.Intn(mostState+2), r.Intn(mostLimits+2)
		l := lookout{q: impl.Quad{H: identity(n, "2"), F: list(n), Limits: list(rows)}, x: list(n)}
		if n > 1 {
			l.q.H[0][n-1] = good[r.Intn(len(good))]
			l.q.H[n-1][0] = l.q.H[0][n-1]
		}
		if n > 0 && seldom() {
			l.q.H[r.Intn(n)] = list(n)
		}
		if n > 0 && seldom() {
			l.q.H = l.q.H[:n-1]
		}
		for range len(list(rows)) {
			l.q.G = append(l.q.G, list(n))
		}
		l.b = impl.Best{Kind: r.Intn(4), X: list(n), Press: list(rows), Value: good[r.Intn(len(good))]}
		if b, ok := impl.BestOf(l.q); ok && r.Intn(2) == 0 {
			l.b = b
		}
		five := list(5)
		l.k = impl.Task{A: "1", B: "2", X: "3", Weight: "1", Most: "1/2", Steps: r.Intn(4)}
		for place := range min(5, len(five)) {
			*l.texts()[place] = five[place]
		}
		l.check(t)
		if impl.GoodQuad(l.q) {
			checked++
		}
	}
	if checked < 200 {
		t.Errorf("only %d were good", checked)
	}
}

// FuzzAheads asks every function of any texts.
func FuzzAheads(f *testing.F) {
	bars := strings.NewReplacer(" | ", "#", " ", "|")
	add := func(h string, fs string, g string, limits string, x string, kind int, press string, value string, five string, steps int) {
		f.Add(bars.Replace(h), bars.Replace(fs), bars.Replace(g), bars.Replace(limits), bars.Replace(x), kind, bars.Replace(press), value, bars.Replace(five), steps)
	}
	add("1", "-1", "1", "1/2", "1/2", 1, "1/2", "-3/8", "1 1 4 1 1", 1)
	add("1", "-2", "1 | 1", "1 1", "1", 1, "1/3 2/3", "-3/2", "2 3 5 7 11", 2)
	add("1 0 | 0 1", "-2 -2", "1 0 | 0 1 | 1 1", "1 1 2", "1 1", 1, "1 1 0", "-3", "1/2 1/3 1/5 1/7 1/11", 2)
	add("2 1 0 | 1 2 1 | 0 1 2", "1 2 3", "-1 -1 -1 | 1 0 0 | 0 1 0 | 1 1 1 | 0 0 1", "-1 0 0 7 0", "0 0 0", 2, "", "", "0 0 0 1 1", 1)
	add("", "", "", "", "", 0, "", "", "", 0)
	for _, s := range append(goodTexts(), "", "-0", "1/0", "2/4") {
		add(s, s, s, s, s, 1, s, s, strings.Join([]string{s, s, s, s, s}, " "), 1)
		add("2 1 | 1 2", "0 "+s, s+" 1 | 0 1", s+" "+s, "2 "+s, 1, "1 "+s, s, "1 "+s+" 2 1 1", 2)
	}
	f.Fuzz(func(t *testing.T, h string, fs string, g string, limits string, x string, kind int, press string, value string, five string, steps int) {
		// The exact answers of long numbers take long.
		if len(h)+len(fs)+len(g)+len(limits)+len(x)+len(press)+len(five) > 2500 {
			return
		}
		l := lookout{q: impl.Quad{H: rowsIn(h), F: listIn(fs), G: rowsIn(g), Limits: listIn(limits)}, x: listIn(x), k: impl.Task{Steps: steps}}
		l.b = impl.Best{Kind: kind, X: l.x, Press: listIn(press), Value: value}
		for i, s := range listIn(five) {
			if i < 5 {
				*l.texts()[i] = s
			}
		}
		l.check(t)
		// What is told of the same mirrored is more often something.
		l.q.H, l.k.Steps, l.b.Kind = mirroredIn(h), 1+steps&1, impl.BestFound
		l.b.Value, _ = impl.QuadValue(l.q, l.x)
		l.check(t)
	})
}
