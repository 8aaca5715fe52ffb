package tests

import (
	"math/rand"
	"slices"
	"strings"
	"sync"
	"testing"

	"loop.example/g00047/impl"
)

// question are arguments of all functions of the chapter.
type question struct {
	b     impl.Belief
	moves []impl.Move
	sees  [][]impl.See
	w     impl.Walk
	x     []string
}

// goodQuestion has a belief of n numbers and a walk of that many moments.
func goodQuestion(n int, moments int) question {
	q := question{b: goodBelief(n), w: goodWalk(moments), x: slices.Repeat([]string{"1/2"}, moments)}
	q.moves = []impl.Move{goodMove(n), stay(n)}
	q.sees = [][]impl.See{{glance(n), glance(n)}, {glance(n)}}
	q.sees[0][1].H[0] = "-1/3"
	return q
}

func cloneBelief(b impl.Belief) impl.Belief {
	return impl.Belief{Mean: slices.Clone(b.Mean), Cov: cloneRows(b.Cov)}
}

func cloneMove(m impl.Move) impl.Move {
	return impl.Move{F: cloneRows(m.F), U: slices.Clone(m.U), Q: cloneRows(m.Q)}
}

func cloneSee(s impl.See) impl.See {
	return impl.See{H: slices.Clone(s.H), R: s.R, Z: s.Z}
}

func cloneWalk(w impl.Walk) impl.Walk {
	w.Seen = slices.Clone(w.Seen)
	return w
}

func (q question) clone() question {
	c := question{b: cloneBelief(q.b), w: cloneWalk(q.w), x: slices.Clone(q.x)}
	for _, m := range q.moves {
		c.moves = append(c.moves, cloneMove(m))
	}
	for _, l := range q.sees {
		c.sees = append(c.sees, nil)
		for _, s := range l {
			c.sees[len(c.sees)-1] = append(c.sees[len(c.sees)-1], cloneSee(s))
		}
	}
	return c
}

func sameMove(a impl.Move, b impl.Move) bool {
	return sameRows(a.F, b.F) && slices.Equal(a.U, b.U) && sameRows(a.Q, b.Q)
}

func sameSee(a impl.See, b impl.See) bool {
	return slices.Equal(a.H, b.H) && a.R == b.R && a.Z == b.Z
}

func sameSees(a []impl.See, b []impl.See) bool { return slices.EqualFunc(a, b, sameSee) }

func sameWalk(a impl.Walk, b impl.Walk) bool {
	return a.First == b.First && a.Spread == b.Spread && a.Drift == b.Drift && a.Noise == b.Noise && slices.Equal(a.Seen, b.Seen)
}

func (q question) is(other question) bool {
	return sameBelief(q.b, other.b) && slices.EqualFunc(q.moves, other.moves, sameMove) && slices.EqualFunc(q.sees, other.sees, sameSees) &&
		sameWalk(q.w, other.w) && slices.Equal(q.x, other.x)
}

// check asks every function of anything, and that the lists stay as they are.
func (q question) check(t *testing.T) {
	t.Helper()
	before := q.clone()
	checkGood(t, q.b)
	for _, m := range q.moves {
		checkMove(t, q.b, m)
	}
	for _, l := range q.sees {
		for _, s := range l {
			checkSee(t, q.b, s)
		}
	}
	checkBeliefRun(t, q.b, q.moves, q.sees)
	checkWalk(t, q.w)
	checkWalkLoss(t, q.w, q.x)
	if !q.is(before) {
		t.Errorf("an argument was changed: %.300q, before %.300q", q, before)
	}
}

func TestGoodQuestions(t *testing.T) {
	for n := 1; n <= mostDim; n++ {
		for moments := 1; moments <= mostWalk; moments++ {
			q := goodQuestion(n, moments)
			if _, ok := impl.RunBelief(q.b, q.moves, q.sees); !ok || !impl.GoodBelief(q.b) {
				t.Errorf("a run of %d numbers has no answer", n)
			}
			if _, ok := impl.WalkLoss(q.w, q.x); !ok {
				t.Errorf("a walk of %d moments has no loss", moments)
			}
			q.check(t)
		}
	}
}

func TestWrongTextsInBeliefs(t *testing.T) {
	for n := 1; n <= mostDim; n++ {
		for _, s := range wrongTexts() {
			for at := range n {
				b, m, see := goodBelief(n), goodMove(n), glance(n)
				b.Mean[at], m.U[at], see.H[at] = s, s, s
				checkNoBelief(t, b)
				checkNoMove(t, goodBelief(n), m)
				checkNoSee(t, goodBelief(n), see)
			}
			for at := range n * n {
				b, m := goodBelief(n), goodMove(n)
				b.Cov[at/n][at%n], m.Q[at/n][at%n] = s, s
				checkNoBelief(t, b)
				checkNoMove(t, goodBelief(n), m)
				// It is the same mirrored all the same.
				b.Cov[at%n][at/n], m.Q[at%n][at/n] = s, s
				checkNoBelief(t, b)
				checkNoMove(t, goodBelief(n), m)
				m = goodMove(n)
				m.F[at/n][at%n] = s
				checkNoMove(t, goodBelief(n), m)
			}
			see := glance(n)
			see.R = s
			checkNoSee(t, goodBelief(n), see)
			see = glance(n)
			see.Z = s
			checkNoSee(t, goodBelief(n), see)
		}
	}
}

func TestWrongTextsInWalks(t *testing.T) {
	for _, n := range []int{1, 2, 5, mostWalk} {
		for _, s := range wrongTexts() {
			for _, place := range []func(*impl.Walk) *string{
				func(w *impl.Walk) *string { return &w.First },
				func(w *impl.Walk) *string { return &w.Spread },
				func(w *impl.Walk) *string { return &w.Drift },
				func(w *impl.Walk) *string { return &w.Noise },
			} {
				w := goodWalk(n)
				*place(&w) = s
				checkNoWalk(t, w)
			}
			for at := range n {
				w := goodWalk(n)
				w.Seen[at] = s
				// The empty text is something good here: nothing was seen.
				if s != "" {
					checkNoWalk(t, w)
				}
				checkWalk(t, w)
				x := slices.Repeat([]string{"1"}, n)
				x[at] = s
				checkNoWalkLoss(t, goodWalk(n), x)
			}
		}
	}
}

// Any good text in each place has the answer that is worked out.
func TestGoodTextsInBeliefs(t *testing.T) {
	for _, s := range goodTexts() {
		for n := 1; n <= 2; n++ {
			for at := range n {
				q := goodQuestion(n, 2)
				q.b.Mean[at] = s
				q.check(t)
				q = goodQuestion(n, 2)
				q.moves[0].U[at], q.sees[0][1].H[at] = s, s
				q.check(t)
				q = goodQuestion(n, 2)
				q.moves[0].F[at][n-1], q.moves[1].Q[at][at] = s, s
				q.check(t)
				q = goodQuestion(n, 2)
				q.b.Cov[at][at] = s
				q.check(t)
				q.b.Cov[0][at], q.b.Cov[at][0] = s, s
				q.check(t)
			}
			q := goodQuestion(n, 2)
			q.sees[1][0].R, q.sees[0][0].Z = s, s
			q.check(t)
		}
		for at := range 3 {
			for place := range 6 {
				w, x := goodWalk(3), []string{"1", "-1", "1/2"}
				*[]*string{&w.First, &w.Spread, &w.Drift, &w.Noise, &w.Seen[at], &x[at]}[place] = s
				checkWalk(t, w)
				checkWalkLoss(t, w, x)
			}
		}
	}
}

func beliefBehind(b impl.Belief, more ...string) impl.Belief {
	return impl.Belief{Mean: behind(b.Mean, more...), Cov: rowsBehind(b.Cov, more...)}
}

func moveBehind(m impl.Move, more ...string) impl.Move {
	return impl.Move{F: rowsBehind(m.F, more...), U: behind(m.U, more...), Q: rowsBehind(m.Q, more...)}
}

func seeBehind(s impl.See, more ...string) impl.See {
	return impl.See{H: behind(s.H, more...), R: s.R, Z: s.Z}
}

func (q question) behind(more ...string) question {
	n := len(q.b.Mean)
	in := question{b: beliefBehind(q.b, more...), w: q.w, x: behind(q.x, more...)}
	in.w.Seen = behind(q.w.Seen, more...)
	for _, m := range q.moves {
		in.moves = append(in.moves, moveBehind(m, more...))
	}
	for _, l := range q.sees {
		sees := []impl.See{}
		for _, s := range l {
			sees = append(sees, seeBehind(s, more...))
		}
		in.sees = append(in.sees, behind(sees, impl.See{}, glance(n)))
	}
	in.moves, in.sees = behind(in.moves, impl.Move{}, goodMove(n)), behind(in.sees, nil, []impl.See{{}})
	return in
}

// stays says whether all that lies behind the lists is what it was.
func (q question) stays(before question, more ...string) bool {
	n := len(q.b.Mean)
	same := kept(q.b.Mean, before.b.Mean, sameText, more...) && rowsKept(q.b.Cov, before.b.Cov, more...) &&
		kept(q.w.Seen, before.w.Seen, sameText, more...) && kept(q.x, before.x, sameText, more...) &&
		kept(q.moves, before.moves, sameMove, impl.Move{}, goodMove(n)) && kept(q.sees, before.sees, sameSees, nil, []impl.See{{}})
	for i, m := range q.moves {
		want := before.moves[i]
		same = same && rowsKept(m.F, want.F, more...) && kept(m.U, want.U, sameText, more...) && rowsKept(m.Q, want.Q, more...)
	}
	for i, l := range q.sees {
		same = same && kept(l, before.sees[i], sameSee, impl.See{}, glance(n))
		for k, s := range l {
			same = same && kept(s.H, before.sees[i][k].H, sameText, more...)
		}
	}
	return same
}

// What lies behind the lists counts for nothing and stays, as the lists do.
func TestWhatLiesBehindBeliefs(t *testing.T) {
	for _, more := range [][]string{{"x", "7", "0"}, {"1", "1", "1"}, {"", "2/4", "-1"}} {
		for n := 1; n <= mostDim; n++ {
			for moments := 1; moments <= mostWalk; moments++ {
				good := goodQuestion(n, moments)
				in := good.behind(more...)
				for range 2 {
					in.check(t)
				}
				if !in.stays(good, more...) {
					t.Errorf("what lies behind a list was changed: %q", in)
				}
				checkNoBelief(t, impl.Belief{Mean: in.b.Mean[:n+1], Cov: in.b.Cov})
				checkNoBelief(t, impl.Belief{Mean: in.b.Mean, Cov: in.b.Cov[:n-1]})
				checkNoMove(t, in.b, impl.Move{F: in.moves[0].F, U: in.moves[0].U[:n+1], Q: in.moves[0].Q})
				checkNoSee(t, in.b, impl.See{H: in.sees[0][0].H[:n+1], R: "1", Z: "1"})
				checkNoBeliefRun(t, in.b, in.moves, in.sees[:3])
				checkNoBeliefRun(t, in.b, in.moves[:3], in.sees)
				checkNoWalkLoss(t, in.w, in.x[:moments+1])
				checkNoWalkLoss(t, in.w, in.x[:moments-1])
			}
		}
	}
}

// Whoever writes into an answer changes nothing else: no other list of it, no later answer, no argument.
func TestBeliefAnswersAreNewMemory(t *testing.T) {
	for n := 1; n <= mostDim; n++ {
		for moments := 1; moments <= mostWalk; moments++ {
			q := goodQuestion(n, moments)
			before := q.clone()
			blind := glance(n)
			spoil(blind.H, "0")
			for range 2 {
				for _, ask := range []func() (impl.Belief, bool){
					func() (impl.Belief, bool) { return impl.MoveBelief(q.b, q.moves[0]) },
					func() (impl.Belief, bool) { return impl.MoveBelief(q.b, q.moves[1]) },
					func() (impl.Belief, bool) { return impl.SeeBelief(q.b, q.sees[0][0]) },
					func() (impl.Belief, bool) { return impl.SeeBelief(q.b, blind) },
					func() (impl.Belief, bool) { return impl.RunBelief(q.b, nil, nil) },
					func() (impl.Belief, bool) { return impl.RunBelief(q.b, q.moves[:1], [][]impl.See{nil}) },
					func() (impl.Belief, bool) { return impl.RunBelief(q.b, q.moves, q.sees) },
				} {
					b, ok := ask()
					if !ok {
						t.Fatal("no answer")
					}
					spoilBeside(t, b.Cov, b.Mean)
				}
				m, p, _ := impl.FilterWalk(q.w)
				spread := slices.Clone(p)
				spoil(m, "x")
				if !slices.Equal(p, spread) {
					t.Fatalf("the lists of FilterWalk share memory: %q", p)
				}
				spoil(p, "y")
				if slices.Contains(m, "y") {
					t.Fatalf("the lists of FilterWalk share memory: %q", m)
				}
				x, _ := impl.SmoothWalk(q.w)
				spoil(x, "x")
				if !q.is(before) {
					t.Fatalf("an argument was changed: %q, before %q", q, before)
				}
				q.check(t)
			}
		}
	}
}

// The same call has the same answer every time, many at once too.
func TestBeliefAnswersAreTheSameEveryTime(t *testing.T) {
	q := goodQuestion(mostDim, mostWalk)
	moved, _ := impl.MoveBelief(q.b, q.moves[0])
	seen, _ := impl.SeeBelief(q.b, q.sees[0][0])
	surprise, _ := impl.Surprise(q.b, q.sees[0][0])
	run, ok := impl.RunBelief(q.b, q.moves, q.sees)
	m, p, _ := impl.FilterWalk(q.w)
	x, _ := impl.SmoothWalk(q.w)
	loss, _ := impl.WalkLoss(q.w, q.x)
	if !ok || surprise == "" || loss == "" || len(m) != mostWalk || len(x) != mostWalk || len(moved.Mean) != mostDim || len(seen.Mean) != mostDim {
		t.Fatal("no answer:", run, surprise, loss, m, x, moved, seen)
	}
	var all sync.WaitGroup
	for range 8 {
		all.Go(func() {
			for range 25 {
				gotMoved, _ := impl.MoveBelief(q.b, q.moves[0])
				gotSeen, _ := impl.SeeBelief(q.b, q.sees[0][0])
				gotSurprise, _ := impl.Surprise(q.b, q.sees[0][0])
				gotRun, _ := impl.RunBelief(q.b, q.moves, q.sees)
				gotM, gotP, _ := impl.FilterWalk(q.w)
				gotX, _ := impl.SmoothWalk(q.w)
				gotLoss, _ := impl.WalkLoss(q.w, q.x)
				if !sameBelief(gotMoved, moved) || !sameBelief(gotSeen, seen) || gotSurprise != surprise || !sameBelief(gotRun, run) ||
					!slices.Equal(gotM, m) || !slices.Equal(gotP, p) || !slices.Equal(gotX, x) || gotLoss != loss || !impl.GoodBelief(q.b) {
					t.Error("another answer")
				}
			}
		})
	}
	all.Wait()
}

// Drawn shapes of all kinds: lists and rows of any lengths, with good and wrong texts.
func TestDrawnShapesOfBeliefs(t *testing.T) {
	r := rand.New(rand.NewSource(160))
	good, wrong := []string{"0", "1", "2", "-1", "1/2", "3"}, []string{"", "x", "2/4"}
	seldom := func() bool { return r.Intn(30) == 0 }
	list := func(n int) []string {
		l := []string{}
		for range n {
			l = append(l, good[r.Intn(len(good))])
			if seldom() {
				l[len(l)-1] = wrong[r.Intn(len(wrong))]
			}
		}
		return l
	}
	rows := func(n int) [][]string {
		m := identity(n, "2")
		for i := range m {
			if seldom() {
				m[i] = list(r.Intn(5))
			}
		}
		return m
	}
	near := func(n int) int {
		if seldom() {
			return max(0, n+r.Intn(3)-1)
		}
		return n
	}
	for range 1500 {
		n := r.Intn(mostDim + 2)
		q := question{b: impl.Belief{Mean: list(near(n)), Cov: rows(near(n))}, w: goodWalk(r.Intn(mostWalk + 2))}
		for range r.Intn(3) {
			q.moves = append(q.moves, impl.Move{F: rows(near(n)), U: list(near(n)), Q: rows(near(n))})
		}
		for range near(len(q.moves)) {
			sees := []impl.See{}
			for range r.Intn(3) {
				sees = append(sees, impl.See{H: list(near(n)), R: list(1)[0], Z: list(1)[0]})
			}
			q.sees = append(q.sees, sees)
		}
		q.x = list(near(len(q.w.Seen)))
		if len(q.w.Seen) > 0 {
			q.w.Seen[r.Intn(len(q.w.Seen))] = list(1)[0]
		}
		q.check(t)
	}
}

// FuzzBeliefs asks every function of any texts and numbers.
func FuzzBeliefs(f *testing.F) {
	bars := strings.NewReplacer(" | ", "#", " ", "|")
	f.Add("1|2", bars.Replace("2 1 | 1 2"), bars.Replace("1 1 | 0 1"), "0|1", bars.Replace("0 0 | 0 1"), "1|0", "1", "4", uint8(0x11), "0|1|1|1|2||2", "1|1|2")
	for i, s := range append(goodTexts(), "", "-0", "1/0", "2/4") {
		f.Add("1|"+s, "2|1#1|2", s+"|1#0|1", "0|"+s, "1|0#0|"+s, "1|"+s, "1", s, uint8(i), "0|1|1|"+s+"|2|"+s, s+"|1")
		f.Add(s, s, s, s, s, s, s, s, uint8(i*5), s+"|"+s+"|"+s+"|"+s+"|"+s, s)
		f.Add("0|1|2", "1|0|0#0|1|"+s+"#0|"+s+"|1", "1|0|0#0|1|0#0|0|"+s, "0|0|0", "1|0|0#0|1|0#0|0|"+s, "1|-1|"+s, s, "1", uint8(i*7), s+"|1|2|3|4|5||"+s, "1||1|1")
	}
	f.Add("", "", "", "", "", "", "", "", uint8(0), "", "")
	f.Fuzz(func(t *testing.T, mean string, cov string, turn string, push string, spread string, h string, noise string, z string, counts uint8, walk string, x string) {
		m := impl.Move{F: rowsIn(turn), U: listIn(push), Q: mirroredIn(spread)}
		s := impl.See{H: listIn(h), R: noise, Z: z}
		q := question{b: impl.Belief{Mean: listIn(mean), Cov: rowsIn(cov)}, x: listIn(x)}
		q.moves = slices.Repeat([]impl.Move{m}, int(counts&3))
		for i := range int(counts >> 2 & 3) {
			q.sees = append(q.sees, slices.Repeat([]impl.See{s}, int(counts>>4)%(i+2)))
		}
		four := append(listIn(walk), "", "", "", "")
		q.w = impl.Walk{First: four[0], Spread: four[1], Drift: four[2], Noise: four[3], Seen: four[4:]}
		if len(q.w.Seen) > 20 {
			q.w.Seen = q.w.Seen[:20]
		}
		q.check(t)
		q.b.Cov, q.moves = mirroredIn(cov), append(q.moves, m)
		q.check(t)
	})
}
