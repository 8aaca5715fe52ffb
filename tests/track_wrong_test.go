package tests

import (
	"fmt"
	"math/rand"
	"slices"
	"strings"
	"sync"
	"testing"

	"loop.example/g00047/impl"
)

// wrongKnots has the text in each place that must hold a good fraction, one by one.
func wrongKnots(k impl.Knot, s string) []impl.Knot {
	l := slices.Repeat([]impl.Knot{k}, 3)
	l[0].Time, l[1].Place, l[2].Speed = s, s, s
	return l
}

func wrongLimits(m impl.Limits, s string) []impl.Limits {
	l := slices.Repeat([]impl.Limits{m}, 3)
	l[0].Speed, l[1].Push, l[2].Jerk = s, s, s
	return l
}

// goodKnots are n of them, on the square of the time.
func goodKnots(n int) []impl.Knot {
	l := []impl.Knot{}
	for i := range n {
		l = append(l, impl.Knot{Time: fmt.Sprint(i), Place: fmt.Sprint(i * i), Speed: fmt.Sprint(2 * i)})
	}
	return l
}

var wideLimits = impl.Limits{Speed: "1000", Push: "1000", Jerk: "1000"}

// checkNoTrack: nothing is answered of a track that is not good, whatever stands beside it.
func checkNoTrack(t *testing.T, l []impl.Knot) {
	t.Helper()
	if impl.GoodTrack(l) {
		t.Errorf("GoodTrack of %.300q", l)
	}
	if m, ok := impl.TrackMost(l); m != (impl.Limits{}) || ok {
		t.Errorf("TrackMost of %.300q: %.100q %v", l, m, ok)
	}
	if lo, hi, ok := impl.TrackRange(l); lo != "" || hi != "" || ok {
		t.Errorf("TrackRange of %.300q: %.60q %.60q %v", l, lo, hi, ok)
	}
	if impl.TrackKeeps(l, wideLimits) || impl.LeastStretch(l, wideLimits) != 0 {
		t.Errorf("TrackKeeps or LeastStretch of %.300q", l)
	}
	for _, s := range []string{"1", "1/2", "3"} {
		checkNoStretch(t, l, s)
	}
	for _, time := range []string{"0", "1", "1/2"} {
		checkNoTime(t, l, time)
	}
}

func checkNoStretch(t *testing.T, l []impl.Knot, by string) {
	t.Helper()
	if got, ok := impl.StretchTrack(l, by); len(got) != 0 || ok {
		t.Errorf("StretchTrack of %.300q, %.60q: %.200q %v", l, by, got, ok)
	}
}

// checkNoTime: neither TrackAt nor ReplanTrack have an answer.
func checkNoTime(t *testing.T, l []impl.Knot, time string) {
	t.Helper()
	if k, push, ok := impl.TrackAt(l, time); k != (impl.Knot{}) || push != "" || ok {
		t.Errorf("TrackAt of %.300q, %.60q: %.100q %.60q %v", l, time, k, push, ok)
	}
	checkNoPlan(t, l, time, []impl.Knot{{Time: "100", Place: "0", Speed: "0"}})
}

func checkNoPlan(t *testing.T, l []impl.Knot, time string, next []impl.Knot) {
	t.Helper()
	if got, ok := impl.ReplanTrack(l, time, next); len(got) != 0 || ok {
		t.Errorf("ReplanTrack of %.300q, %.60q, %.200q: %.200q %v", l, time, next, got, ok)
	}
}

func TestWrongTextsInKnots(t *testing.T) {
	for _, s := range wrongTexts() {
		for _, n := range []int{2, 3, mostKnots} {
			for at := range n {
				if n > 3 && at%3 != 1 && len(s) > 1000 {
					continue
				}
				for _, wrong := range wrongKnots(goodKnots(n)[at], s) {
					l := goodKnots(n)
					l[at] = wrong
					checkNoTrack(t, l)
				}
			}
		}
		// In what is planned anew, at each place of it.
		l := goodKnots(3)
		for at := range 2 {
			for _, wrong := range wrongKnots(impl.Knot{Time: fmt.Sprint(5 + at), Place: "1", Speed: "1"}, s) {
				next := trackOf("5 1 1 | 6 1 1")
				next[at] = wrong
				checkNoPlan(t, l, "1", next)
				checkNoPlan(t, l, "1", next[at:at+1])
			}
		}
	}
	checkNoTrack(t, make([]impl.Knot, 2))
	checkNoTrack(t, make([]impl.Knot, mostKnots))
	checkNoPlan(t, goodKnots(2), "1/2", make([]impl.Knot, 1))
}

func TestWrongTimes(t *testing.T) {
	for _, n := range []int{2, 5, mostKnots} {
		l := goodKnots(n)
		for _, s := range append(wrongTexts(), "-1", "-1/2", fmt.Sprint(n), nines(400), "-"+nines(400), "-1/"+nines(400), fmt.Sprint(2*n-1)+"/2") {
			checkNoTime(t, l, s)
			checkNoPlan(t, l, s, goodKnots(n))
			checkNoPlan(t, l, s, nil)
		}
		for _, s := range goodTexts() {
			checkTrackAt(t, l, s)
			checkReplan(t, l, s, []impl.Knot{{Time: "9", Place: "0", Speed: "0"}})
		}
	}
}

func TestWrongLimits(t *testing.T) {
	for _, l := range [][]impl.Knot{goodKnots(2), goodKnots(mostKnots), trackOf("0 5 0 | 1 5 0")} {
		for _, s := range append(wrongTexts(), "-1", "-1/2", "-"+nines(400), "-1/"+nines(400), "-1000") {
			for _, m := range append(wrongLimits(wideLimits, s), impl.Limits{Speed: s, Push: s, Jerk: s}) {
				if impl.TrackKeeps(l, m) {
					t.Errorf("TrackKeeps of %q, %.100q", l, m)
				}
				if n := impl.LeastStretch(l, m); n != 0 {
					t.Errorf("LeastStretch of %q, %.100q: %d", l, m, n)
				}
			}
		}
		for _, s := range goodTexts() {
			for _, m := range wrongLimits(wideLimits, s) {
				checkKeeps(t, l, m)
				checkLeastStretch(t, l, m)
			}
		}
		if impl.TrackKeeps(l, impl.Limits{}) || impl.LeastStretch(l, impl.Limits{}) != 0 {
			t.Errorf("limits that are none: %q", l)
		}
		// Wrong limits beside a track that is not good, too.
		if impl.TrackKeeps(l[:1], impl.Limits{}) || impl.LeastStretch(nil, impl.Limits{}) != 0 {
			t.Errorf("neither a track nor limits: %q", l)
		}
	}
}

func TestWrongStretches(t *testing.T) {
	for _, l := range [][]impl.Knot{goodKnots(2), goodKnots(mostKnots), trackOf("0 5 0 | 1 5 0")} {
		for _, s := range append(wrongTexts(), "0", "-1", "-1/2", "-"+nines(400), "-1/"+nines(400)) {
			checkNoStretch(t, l, s)
		}
		for _, s := range goodTexts() {
			checkStretch(t, l, s)
		}
	}
}

func TestNoKnotsAtAll(t *testing.T) {
	for _, l := range [][]impl.Knot{nil, {}, goodKnots(1), goodKnots(mostKnots + 1), goodKnots(200)} {
		checkNoTrack(t, l)
		checkNoPlan(t, l, "0", l)
		checkNoPlan(t, goodKnots(2), "1", l[:len(l)/300])
	}
	checkNoPlan(t, goodKnots(2), "1", goodKnots(200)[2:])
	checkNoPlan(t, nil, "", nil)
}

// Each good fraction may stand in each place, if the times rise.
func TestGoodTextsInKnots(t *testing.T) {
	for _, s := range goodTexts() {
		for at := range 3 {
			for _, k := range wrongKnots(goodKnots(3)[at], s) {
				l := goodKnots(3)
				l[at] = k
				checkTrack(t, l)
				checkTrackAt(t, l, l[0].Time)
				checkTrackAt(t, l, l[2].Time)
				checkKeeps(t, l, wideLimits)
				checkStretch(t, l, "1/3")
				checkReplan(t, l, l[1].Time, []impl.Knot{{Time: nines(400), Place: s, Speed: s}})
				checkReplan(t, goodKnots(2), "1/2", l[at:at+1])
			}
		}
	}
}

// drawnJourney has good arguments most of the time.
func drawnJourney(t *testing.T, r *rand.Rand) journey {
	t.Helper()
	l := drawnTrack(r, drawnBetween(r, 2, 6))
	at := textOf(drawnWithin(r, rat(t, l[0].Time), rat(t, l[len(l)-1].Time)))
	next := []impl.Knot{}
	for i := range r.Intn(4) {
		next = append(next, impl.Knot{Time: impl.AddFrac(at, fmt.Sprint(1+i)), Place: textOf(small(r, 9)), Speed: textOf(small(r, 9))})
	}
	return journey{l, at, impl.Limits{Speed: drawnLength(r, 2), Push: drawnLength(r, 2), Jerk: drawnLength(r, 2)}, drawnLength(r, 3), next}
}

func sameKnot(a impl.Knot, b impl.Knot) bool { return a == b }

// What lies behind the knots counts for nothing and stays, as the lists do.
func TestWhatLiesBehindTracks(t *testing.T) {
	r := rand.New(rand.NewSource(310))
	for range 20 {
		j := drawnJourney(t, r)
		for _, more := range [][]impl.Knot{{{}}, trackOf("1000 1 1 | 1001 2 2"), trackOf("-1000 1 1"), {{Time: "x"}, {Time: "2000", Place: "9", Speed: "9"}}, goodKnots(9)} {
			in := j
			in.l, in.next = behind(j.l, more...), behind(j.next, more...)
			in.check(t)
			if !kept(in.l, j.l, sameKnot, more...) || !kept(in.next, j.next, sameKnot, more...) {
				t.Fatalf("a list was changed: %q, %q", in.l, in.next)
			}
		}
	}
	// The knot that is missing, and the one that would be too many, lie behind.
	checkNoTrack(t, behind(goodKnots(1), goodKnots(2)[1]))
	checkNoTrack(t, goodKnots(5)[:1])
	checkNoPlan(t, goodKnots(3), "1", goodKnots(9)[5:5])
	if !impl.GoodTrack(goodKnots(9)[:8]) || !impl.GoodTrack(goodKnots(9)[7:]) {
		t.Error("a part of a longer list is no track")
	}
	// Behind a track there is room for what is planned: it is not taken.
	l := append(make([]impl.Knot, 0, 20), goodKnots(3)...)
	got, ok := impl.ReplanTrack(l, "2", trackOf("7 7 7"))
	if rest := l[:20][3:]; !ok || len(got) != 4 || slices.ContainsFunc(rest, func(k impl.Knot) bool { return k != impl.Knot{} }) {
		t.Errorf("ReplanTrack wrote behind the track: %q, %q", got, rest)
	}
	// The next knots begin within the track's own memory.
	l = goodKnots(6)
	if got, ok := impl.ReplanTrack(l[:3], "1", l[3:]); !ok || !slices.Equal(got, slices.Concat(goodKnots(2), goodKnots(6)[3:])) || !slices.Equal(l, goodKnots(6)) {
		t.Errorf("ReplanTrack of parts of one list: %q %v, and the list %q", got, ok, l)
	}
}

// Whoever writes into an answer changes nothing else: no later answer, no argument.
func TestTrackAnswersAreNewMemory(t *testing.T) {
	r := rand.New(rand.NewSource(311))
	wrong := impl.Knot{Time: "x", Place: "y", Speed: "z"}
	for range 20 {
		j := drawnJourney(t, r)
		l, next := slices.Clone(j.l), slices.Clone(j.next)
		for range 3 {
			for _, by := range []string{"1", j.by} {
				s, _ := impl.StretchTrack(j.l, by)
				spoil(s, wrong)
			}
			for _, at := range []string{j.time, j.l[0].Time, j.l[len(j.l)-1].Time} {
				planned, _ := impl.ReplanTrack(j.l, at, j.next)
				spoil(planned, wrong)
				planned, _ = impl.ReplanTrack(j.l, at, trackOf("1000 1 1"))
				spoil(planned, wrong)
			}
			if !slices.Equal(j.l, l) || !slices.Equal(j.next, next) {
				t.Fatalf("an argument was changed: %q, %q, before %q, %q", j.l, j.next, l, next)
			}
			j.check(t)
		}
	}
}

// The same call has the same answer every time, many at once too.
func TestTracksAreTheSameEveryTime(t *testing.T) {
	r := rand.New(rand.NewSource(312))
	j := drawnJourney(t, r)
	j.next, j.m = trackOf("1000 1 1"), impl.Limits{Speed: "20", Push: "20", Jerk: "20"}
	knot, push, ok := impl.TrackAt(j.l, j.time)
	most, _ := impl.TrackMost(j.l)
	lo, hi, _ := impl.TrackRange(j.l)
	keeps, least := impl.TrackKeeps(j.l, j.m), impl.LeastStretch(j.l, j.m)
	long, _ := impl.StretchTrack(j.l, j.by)
	planned, okToo := impl.ReplanTrack(j.l, j.time, j.next)
	if !ok || !okToo || len(long) == 0 || most.Speed == "" || lo == "" {
		t.Fatalf("no answer for %q", j)
	}
	var all sync.WaitGroup
	for range 8 {
		all.Go(func() {
			for range 20 {
				k, p, _ := impl.TrackAt(j.l, j.time)
				m, _ := impl.TrackMost(j.l)
				a, b, _ := impl.TrackRange(j.l)
				s, _ := impl.StretchTrack(j.l, j.by)
				q, _ := impl.ReplanTrack(j.l, j.time, j.next)
				if k != knot || p != push || m != most || a != lo || b != hi || !slices.Equal(s, long) || !slices.Equal(q, planned) ||
					impl.TrackKeeps(j.l, j.m) != keeps || impl.LeastStretch(j.l, j.m) != least || !impl.GoodTrack(j.l) {
					t.Error("another answer")
				}
			}
		})
	}
	all.Wait()
}

// knotsIn takes knots from texts, three for each; what is left over is dropped.
func knotsIn(texts []string, most int) []impl.Knot {
	l := []impl.Knot{}
	for ; len(texts) >= 3 && len(l) < most; texts = texts[3:] {
		l = append(l, impl.Knot{Time: texts[0], Place: texts[1], Speed: texts[2]})
	}
	return l
}

// FuzzTracks asks every function of any texts; knots stand in one text, with bars between the texts.
func FuzzTracks(f *testing.F) {
	for _, c := range trackCases() {
		f.Add(strings.NewReplacer(" | ", "|", " ", "|").Replace(c.l), "1", c.most, "2", "5|0|0")
	}
	for _, s := range append(goodTexts(), "", "-0", "1/0", "2/4", strings.Repeat("1|2|3|", 9)) {
		f.Add("0|0|0|1|"+s+"|0", "1/2", "1 1 1", s, "2|"+s+"|1")
		f.Add("0|0|"+s+"|1|1|0|2|3|"+s, s, s+" 1 1", "3", s+"|1|1")
		f.Add("0|0|0|"+s+"|1|0", s, "1 "+s+" "+s, "1/3", "3|1|1|4|1|1")
	}
	f.Fuzz(func(t *testing.T, bars string, time string, limits string, by string, bars2 string) {
		m := impl.Limits{}
		for i, s := range strings.Split(limits, " ") {
			switch i {
			case 0:
				m.Speed = s
			case 1:
				m.Push = s
			case 2:
				m.Jerk = s
			}
		}
		l := knotsIn(strings.Split(bars, "|"), mostKnots+1)
		next := knotsIn(strings.Split(bars2, "|"), mostKnots+1)
		journey{l, time, m, by, next}.check(t)
		// The same with times that rise for sure, so that good ones are met often.
		for i := range l {
			l[i].Time = fmt.Sprint(i)
		}
		for i := range next {
			next[i].Time = fmt.Sprint(100 + i)
		}
		journey{l, "1/2", m, by, next}.check(t)
		for i := range l {
			checkTrackAt(t, l, l[i].Time)
		}
	})
}
