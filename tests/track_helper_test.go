package tests

import (
	"math/big"
	"math/rand"
	"slices"
	"strings"
	"testing"

	"loop.example/g00047/impl"
)

const (
	mostKnots   = 8
	mostStretch = 60
)

// trackOf has bars between the knots, and spaces between Time, Place and Speed.
func trackOf(s string) []impl.Knot {
	l := []impl.Knot{}
	for _, three := range square(s) {
		l = append(l, impl.Knot{Time: three[0], Place: three[1], Speed: three[2]})
	}
	return l
}

// limitsOf has spaces between Speed, Push and Jerk.
func limitsOf(s string) impl.Limits {
	three := strings.Fields(s)
	return impl.Limits{Speed: three[0], Push: three[1], Jerk: three[2]}
}

// knotOf is the knot of three numbers, the empty text where one is too long.
func knotOf(time *big.Rat, place *big.Rat, speed *big.Rat) impl.Knot {
	return impl.Knot{Time: textOf(time), Place: textOf(place), Speed: textOf(speed)}
}

func isKnot(k impl.Knot) bool { return isFrac(k.Time) && isFrac(k.Place) && isFrac(k.Speed) }

// isTrack says by the test's own word whether l is good.
func isTrack(t *testing.T, l []impl.Knot) bool {
	t.Helper()
	for i, k := range l {
		if !isKnot(k) || i > 0 && rat(t, l[i-1].Time).Cmp(rat(t, k.Time)) >= 0 {
			return false
		}
	}
	return len(l) >= 2 && len(l) <= mostKnots
}

// isLimits: good fractions from 0 on.
func isLimits(m impl.Limits) bool {
	return !slices.ContainsFunc([]string{m.Speed, m.Push, m.Jerk}, func(s string) bool { return !isFrac(s) || s[0] == '-' })
}

func isTimeOf(t *testing.T, l []impl.Knot, time string) bool {
	t.Helper()
	return isTrack(t, l) && isFrac(time) && rat(t, l[0].Time).Cmp(rat(t, time)) <= 0 && rat(t, time).Cmp(rat(t, l[len(l)-1].Time)) <= 0
}

// arc is a piece of a track, or a slope of one, told by points: at a part of its time it is where one comes by going this part of the way from each point to the next, and from each of these places to the next, until there is one alone.
type arc struct {
	begin  *big.Rat
	long   *big.Rat
	points []*big.Rat
}

func arcsOf(t *testing.T, l []impl.Knot) []arc {
	t.Helper()
	arcs := []arc{}
	for i, k := range l[1:] {
		begin, from, to := rat(t, l[i].Time), rat(t, l[i].Place), rat(t, k.Place)
		long := minus(rat(t, k.Time), begin)
		third := quotient(long, whole(3))
		arcs = append(arcs, arc{begin, long, []*big.Rat{from, plus(from, times(third, rat(t, l[i].Speed))), minus(to, times(third, rat(t, k.Speed))), to}})
	}
	return arcs
}

func (a arc) atPart(u *big.Rat) *big.Rat {
	points := a.points
	for len(points) > 1 {
		next := []*big.Rat{}
		for i := range points[1:] {
			next = append(next, plus(points[i], times(u, minus(points[i+1], points[i]))))
		}
		points = next
	}
	return points[0]
}

func (a arc) at(time *big.Rat) *big.Rat { return a.atPart(quotient(minus(time, a.begin), a.long)) }

func (a arc) slope() arc {
	degree := whole(int64(len(a.points) - 1))
	s := arc{begin: a.begin, long: a.long}
	for i := range a.points[1:] {
		s.points = append(s.points, quotient(times(degree, minus(a.points[i+1], a.points[i])), a.long))
	}
	return s
}

// arcAt is the last one that begins at or ahead of the time.
func arcAt(t *testing.T, l []impl.Knot, time *big.Rat) arc {
	t.Helper()
	var here arc
	for _, a := range arcsOf(t, l) {
		if a.begin.Cmp(time) <= 0 {
			here = a
		}
	}
	return here
}

// exactTrackAt is what TrackAt is to answer.
func exactTrackAt(t *testing.T, l []impl.Knot, time string) (impl.Knot, string, bool) {
	t.Helper()
	if !isTimeOf(t, l, time) {
		return impl.Knot{}, "", false
	}
	at := rat(t, time)
	a := arcAt(t, l, at)
	told, fits := tellRats([]*big.Rat{a.at(at), a.slope().at(at), a.slope().slope().at(at)})
	if !fits {
		return impl.Knot{}, "", false
	}
	return impl.Knot{Time: time, Place: told[0], Speed: told[1]}, told[2], true
}

func sizeOf(a *big.Rat) *big.Rat { return new(big.Rat).Abs(a) }

func greater(a *big.Rat, b *big.Rat) *big.Rat {
	if a.Cmp(b) > 0 {
		return a
	}
	return b
}

func lesser(a *big.Rat, b *big.Rat) *big.Rat { return negative(greater(negative(a), negative(b))) }

func isPart(u *big.Rat) bool { return u.Sign() >= 0 && u.Cmp(whole(1)) <= 0 }

// turnOfSpeed is the part of the time at which the slope of a speed of three points is 0, if there is just one such part.
func turnOfSpeed(speed arc) (*big.Rat, bool) {
	p := speed.points
	bent := plus(minus(p[0], p[1]), minus(p[2], p[1]))
	if bent.Sign() == 0 {
		return nil, false
	}
	u := quotient(minus(p[0], p[1]), bent)
	return u, isPart(u)
}

// exactMost are the greatest sizes of speed, push and jerk of a good track.
func exactMost(t *testing.T, l []impl.Knot) [3]*big.Rat {
	t.Helper()
	return mostOf(arcsOf(t, l))
}

func mostOf(arcs []arc) [3]*big.Rat {
	most := [3]*big.Rat{whole(0), whole(0), whole(0)}
	for _, a := range arcs {
		speed := a.slope()
		push := speed.slope()
		jerk := push.slope()
		if u, turns := turnOfSpeed(speed); turns {
			most[0] = greater(most[0], sizeOf(speed.atPart(u)))
		}
		for _, end := range []*big.Rat{whole(0), whole(1)} {
			for i, slope := range []arc{speed, push, jerk} {
				most[i] = greater(most[i], sizeOf(slope.atPart(end)))
			}
		}
	}
	return most
}

func exactLimits(t *testing.T, l []impl.Knot) (impl.Limits, bool) {
	t.Helper()
	if !isTrack(t, l) {
		return impl.Limits{}, false
	}
	most := exactMost(t, l)
	told, fits := tellRats(most[:])
	if !fits {
		return impl.Limits{}, false
	}
	return impl.Limits{Speed: told[0], Push: told[1], Jerk: told[2]}, true
}

// rootOf is the root of a number where it is a fraction: above times below is a square then.
func rootOf(a *big.Rat) (*big.Rat, bool) {
	if a.Sign() < 0 {
		return nil, false
	}
	n := new(big.Int).Mul(a.Num(), a.Denom())
	root := new(big.Int).Sqrt(n)
	return new(big.Rat).SetFrac(root, a.Denom()), new(big.Int).Mul(root, root).Cmp(n) == 0
}

// stops are the parts of the time at which a speed of three points is 0 (none where it always is), and whether these are all, or there are others that are no fractions. They are looked for as w, the part that is gone by the part that is left: the speed has the sign of p0 + 2 p1 w + p2 w w then.
func stops(speed arc) (parts []*big.Rat, all bool) {
	p := speed.points
	ws := []*big.Rat{}
	if p[2].Sign() == 0 {
		parts = append(parts, whole(1))
		if p[1].Sign() != 0 {
			ws = append(ws, half(quotient(negative(p[0]), p[1])))
		}
	} else {
		square := minus(times(p[1], p[1]), times(p[0], p[2]))
		if square.Sign() < 0 {
			return nil, true
		}
		root, exact := rootOf(square)
		if !exact {
			signs := p[0].Sign() * p[2].Sign()
			return nil, signs > 0 && p[1].Sign() == p[2].Sign()
		}
		for _, r := range []*big.Rat{root, negative(root)} {
			ws = append(ws, quotient(minus(r, p[1]), p[2]))
		}
	}
	for _, w := range ws {
		if w.Sign() >= 0 {
			parts = append(parts, quotient(w, plus(w, whole(1))))
		}
	}
	return parts, true
}

// exactRange of a good track: least and greatest, and whether every turning point is a fraction.
func exactRange(t *testing.T, l []impl.Knot) (least *big.Rat, greatest *big.Rat, all bool) {
	t.Helper()
	least, greatest, all = rat(t, l[0].Place), rat(t, l[0].Place), true
	for i, a := range arcsOf(t, l) {
		parts, allHere := stops(a.slope())
		all = all && allHere
		places := []*big.Rat{rat(t, l[i+1].Place)}
		for _, u := range parts {
			places = append(places, a.atPart(u))
		}
		for _, p := range places {
			least, greatest = lesser(least, p), greater(greatest, p)
		}
	}
	return least, greatest, all
}

// checkTrack asks GoodTrack, TrackMost and TrackRange of anything, and says what they are to answer.
func checkTrack(t *testing.T, l []impl.Knot) {
	t.Helper()
	good := isTrack(t, l)
	if impl.GoodTrack(l) != good {
		t.Errorf("GoodTrack of %.400q: %v", l, !good)
	}
	want, fits := exactLimits(t, l)
	if got, ok := impl.TrackMost(l); got != want || ok != fits {
		t.Errorf("TrackMost of %.400q: got %.300q %v, want %.300q %v", l, got, ok, want, fits)
	}
	least, greatest := "", ""
	if good {
		lo, hi, _ := exactRange(t, l)
		if told, fits := tellRats([]*big.Rat{lo, hi}); fits {
			least, greatest = told[0], told[1]
		}
	}
	if lo, hi, ok := impl.TrackRange(l); lo != least || hi != greatest || ok != (least != "") {
		t.Errorf("TrackRange of %.400q: got %.100q %.100q %v, want %.100q %.100q", l, lo, hi, ok, least, greatest)
	}
}

// checkTrackAt asks TrackAt of anything, and says what it is to answer.
func checkTrackAt(t *testing.T, l []impl.Knot, time string) {
	t.Helper()
	want, push, fits := exactTrackAt(t, l, time)
	if k, p, ok := impl.TrackAt(l, time); k != want || p != push || ok != fits {
		t.Errorf("TrackAt of %.400q, %.60q: got %.200q %.100q %v, want %.200q %.100q %v", l, time, k, p, ok, want, push, fits)
	}
}

// exactKeeps: the greatest sizes themselves are held against the limits, however long they are.
func exactKeeps(t *testing.T, l []impl.Knot, m impl.Limits) bool {
	t.Helper()
	if !isTrack(t, l) || !isLimits(m) {
		return false
	}
	return arcsKeep(t, arcsOf(t, l), m)
}

func arcsKeep(t *testing.T, arcs []arc, m impl.Limits) bool {
	t.Helper()
	most := mostOf(arcs)
	return most[0].Cmp(rat(t, m.Speed)) <= 0 && most[1].Cmp(rat(t, m.Push)) <= 0 && most[2].Cmp(rat(t, m.Jerk)) <= 0
}

// checkKeeps asks TrackKeeps of anything.
func checkKeeps(t *testing.T, l []impl.Knot, m impl.Limits) {
	t.Helper()
	if want := exactKeeps(t, l, m); impl.TrackKeeps(l, m) != want {
		t.Errorf("TrackKeeps of %.400q, %.200q: %v", l, m, !want)
	}
}

// exactStretched is what StretchTrack is to answer.
func exactStretched(t *testing.T, l []impl.Knot, by string) ([]impl.Knot, bool) {
	t.Helper()
	if !isTrack(t, l) || !isLength(by) {
		return nil, false
	}
	out := []impl.Knot{}
	first, n := rat(t, l[0].Time), rat(t, by)
	for _, k := range l {
		time := minus(times(n, rat(t, k.Time)), times(minus(n, whole(1)), first))
		out = append(out, knotOf(time, rat(t, k.Place), quotient(rat(t, k.Speed), n)))
	}
	if !isTrack(t, out) {
		return nil, false
	}
	return out, true
}

// checkStretch asks StretchTrack of anything.
func checkStretch(t *testing.T, l []impl.Knot, by string) {
	t.Helper()
	want, fits := exactStretched(t, l, by)
	if got, ok := impl.StretchTrack(l, by); !slices.Equal(got, want) || ok != fits {
		t.Errorf("StretchTrack of %.400q, %.60q: got %.400q %v, want %.400q %v", l, by, got, ok, want, fits)
	}
}

// longerArcs are the pieces of a stretched track, however long its numbers are: a piece's points stay where they are, it only takes longer.
func longerArcs(arcs []arc, n *big.Rat) []arc {
	longer := []arc{}
	first := arcs[0].begin
	for _, a := range arcs {
		longer = append(longer, arc{plus(first, times(n, minus(a.begin, first))), times(n, a.long), a.points})
	}
	return longer
}

// exactLeast tries number after number.
func exactLeast(t *testing.T, l []impl.Knot, m impl.Limits) int {
	t.Helper()
	if !isTrack(t, l) || !isLimits(m) {
		return 0
	}
	arcs := arcsOf(t, l)
	for n := 1; n <= mostStretch; n++ {
		if arcsKeep(t, longerArcs(arcs, whole(int64(n))), m) {
			return n
		}
	}
	return 0
}

// checkLeastStretch asks LeastStretch of anything; where the stretched track can be told it keeps the limits, and by one less it does not, by what the program itself says.
func checkLeastStretch(t *testing.T, l []impl.Knot, m impl.Limits) int {
	t.Helper()
	want := exactLeast(t, l, m)
	got := impl.LeastStretch(l, m)
	if got != want {
		t.Errorf("LeastStretch of %.400q, %.200q: %d, want %d", l, m, got, want)
	}
	if got > 0 {
		s, ok := impl.StretchTrack(l, impl.FracOf(got, 1))
		less, _ := impl.StretchTrack(l, impl.FracOf(got-1, 1))
		if ok && !impl.TrackKeeps(s, m) || impl.TrackKeeps(less, m) {
			t.Errorf("LeastStretch of %.400q, %.200q: %d does not keep the limits, or one less does", l, m, got)
		}
	}
	return got
}

// exactReplanned is what ReplanTrack is to answer.
func exactReplanned(t *testing.T, l []impl.Knot, time string, next []impl.Knot) ([]impl.Knot, bool) {
	t.Helper()
	here, _, ok := exactTrackAt(t, l, time)
	if !ok || len(next) < 1 || len(next) > mostKnots {
		return nil, false
	}
	out := slices.Clone(l)
	for len(out) > 0 && rat(t, out[len(out)-1].Time).Cmp(rat(t, time)) >= 0 {
		out = out[:len(out)-1]
	}
	out = append(append(out, here), next...)
	if !isTrack(t, out) {
		return nil, false
	}
	return out, true
}

// checkReplan asks ReplanTrack of anything.
func checkReplan(t *testing.T, l []impl.Knot, time string, next []impl.Knot) {
	t.Helper()
	want, fits := exactReplanned(t, l, time, next)
	got, ok := impl.ReplanTrack(l, time, next)
	if !slices.Equal(got, want) || ok != fits {
		t.Errorf("ReplanTrack of %.400q, %.60q, %.400q: got %.400q %v, want %.400q %v", l, time, next, got, ok, want, fits)
	}
	if ok {
		checkNoJump(t, l, time, got)
	}
}

// checkNoJump: at the time, and at instants ahead of it, the new track is where the elder one is, as fast; ahead of it the push is the same, too.
func checkNoJump(t *testing.T, l []impl.Knot, time string, planned []impl.Knot) {
	t.Helper()
	r := rand.New(rand.NewSource(290))
	for i := range 6 {
		at := time
		if i > 0 {
			at = textOf(drawnWithin(r, rat(t, l[0].Time), rat(t, time)))
		}
		k, push, ok := impl.TrackAt(l, at)
		k2, push2, ok2 := impl.TrackAt(planned, at)
		jump := k != k2 || push != push2 || ok != ok2
		if at == time {
			// The push may leap here, and may be too long behind the leap.
			jump = !ok || ok2 && k != k2
		}
		if jump {
			t.Errorf("ReplanTrack of %.400q, %.60q: %.400q, at %.60q %.200q %.60q instead of %.200q %.60q", l, time, planned, at, k2, push2, k, push)
		}
	}
}

// checkInstants: at drawn instants, by what the program itself tells, nothing is above TrackMost, and no place beyond TrackRange where every turning point is a fraction.
func checkInstants(t *testing.T, r *rand.Rand, l []impl.Knot, many int) {
	t.Helper()
	most, ok := impl.TrackMost(l)
	lo, hi, okToo := impl.TrackRange(l)
	if !ok || !okToo {
		t.Fatalf("no answer for %.400q", l)
	}
	_, _, all := exactRange(t, l)
	for range many {
		at := textOf(drawnWithin(r, rat(t, l[0].Time), rat(t, l[len(l)-1].Time)))
		k, push, ok := impl.TrackAt(l, at)
		if !ok || k.Time != at {
			t.Fatalf("TrackAt of %.400q, %q: %q %v", l, at, k, ok)
		}
		if sizeOf(rat(t, k.Speed)).Cmp(rat(t, most.Speed)) > 0 || sizeOf(rat(t, push)).Cmp(rat(t, most.Push)) > 0 {
			t.Errorf("TrackMost of %.400q: %q, but at %q there is %q, %q", l, most, at, k, push)
		}
		if place := rat(t, k.Place); all && (place.Cmp(rat(t, lo)) < 0 || place.Cmp(rat(t, hi)) > 0) {
			t.Errorf("TrackRange of %.400q: %q %q, but at %q there is %q", l, lo, hi, at, k)
		}
	}
}

// journey is all that the functions of tracks take.
type journey struct {
	l    []impl.Knot
	time string
	m    impl.Limits
	by   string
	next []impl.Knot
}

func (j journey) check(t *testing.T) {
	t.Helper()
	l, next := slices.Clone(j.l), slices.Clone(j.next)
	checkTrack(t, j.l)
	checkTrackAt(t, j.l, j.time)
	checkKeeps(t, j.l, j.m)
	checkStretch(t, j.l, j.by)
	checkLeastStretch(t, j.l, j.m)
	checkReplan(t, j.l, j.time, j.next)
	if !slices.Equal(l, j.l) || !slices.Equal(next, j.next) {
		t.Errorf("a list was changed: %.400q, %.400q, before %.400q, %.400q", j.l, j.next, l, next)
	}
}

// polyTrack has knots on one polynomial (the first number the one without the time), so that every piece of it is that polynomial.
func polyTrack(coefs []*big.Rat, at ...*big.Rat) []impl.Knot {
	l := []impl.Knot{}
	for _, time := range at {
		l = append(l, knotOf(time, polyValue(coefs, time), polyValue(polySlope(coefs), time)))
	}
	return l
}

// polyValue adds power after power.
func polyValue(coefs []*big.Rat, x *big.Rat) *big.Rat {
	sum, power := whole(0), whole(1)
	for _, c := range coefs {
		sum, power = plus(sum, times(c, power)), times(power, x)
	}
	return sum
}

func polySlope(coefs []*big.Rat) []*big.Rat {
	slope := []*big.Rat{}
	for i, c := range coefs {
		if i > 0 {
			slope = append(slope, times(whole(int64(i)), c))
		}
	}
	return slope
}

// risingRats are n drawn numbers, each greater than the one ahead.
func risingRats(r *rand.Rand, n int) []*big.Rat {
	l := []*big.Rat{small(r, 9)}
	for len(l) < n {
		l = append(l, plus(l[len(l)-1], big.NewRat(1+r.Int63n(12), 1+r.Int63n(5))))
	}
	return l
}

// drawnTrack has places and speeds of a few digits; some are like the ones ahead, so that pieces stand still or go straight on, too.
func drawnTrack(r *rand.Rand, n int) []impl.Knot {
	l := []impl.Knot{}
	for i, time := range risingRats(r, n) {
		k := impl.Knot{Time: textOf(time), Place: textOf(small(r, 9)), Speed: textOf(small(r, 9))}
		switch r.Intn(6) {
		case 0:
			k.Speed = "0"
		case 1:
			if i > 0 {
				k.Place = l[i-1].Place
			}
		case 2:
			if i > 0 {
				k.Speed = l[i-1].Speed
			}
		}
		l = append(l, k)
	}
	return l
}

// longTrack has numbers of up to so many digits above and below.
func longTrack(r *rand.Rand, n int, digits int) []impl.Knot {
	at := drawnTexts(r, n, digits)
	slices.SortFunc(at, func(a string, b string) int {
		order, _ := impl.CmpFrac(a, b)
		return order
	})
	l := []impl.Knot{}
	for _, time := range slices.Compact(at) {
		l = append(l, impl.Knot{Time: time, Place: randomFrac(r, digits), Speed: randomFrac(r, digits)})
	}
	return l
}
