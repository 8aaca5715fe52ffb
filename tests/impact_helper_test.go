package tests

import (
	"fmt"
	"math/big"
	"math/rand"
	"slices"
	"testing"

	"loop.example/g00047/impl"
)

const (
	mostBodies = 12
	mostMeets  = 24
)

// lump is a body, exactly.
type lump struct {
	mass  *big.Rat
	at    spot
	speed spot
}

// pearl is a bead, exactly.
type pearl struct {
	mass  *big.Rat
	at    *big.Rat
	speed *big.Rat
}

func quotient(a *big.Rat, b *big.Rat) *big.Rat { return new(big.Rat).Quo(a, b) }

func whole(n int64) *big.Rat { return big.NewRat(n, 1) }

func isBody(b impl.Body) bool {
	return isLength(b.Mass) && isFrac(b.X) && isFrac(b.Y) && isFrac(b.U) && isFrac(b.V)
}

func isRest(t *testing.T, e string) bool {
	t.Helper()
	return isFrac(e) && rat(t, e).Sign() >= 0 && rat(t, e).Cmp(whole(1)) <= 0
}

func isBeads(t *testing.T, l []impl.Bead) bool {
	t.Helper()
	for i, b := range l {
		if !isLength(b.Mass) || !isFrac(b.At) || !isFrac(b.Speed) || i > 0 && rat(t, b.At).Cmp(rat(t, l[i-1].At)) < 0 {
			return false
		}
	}
	return len(l) <= mostBodies
}

func lumpOf(t *testing.T, b impl.Body) lump {
	t.Helper()
	return lump{rat(t, b.Mass), spot{rat(t, b.X), rat(t, b.Y)}, spot{rat(t, b.U), rat(t, b.V)}}
}

func lumpsOf(t *testing.T, l []impl.Body) []lump {
	t.Helper()
	all := make([]lump, len(l))
	for i := range l {
		all[i] = lumpOf(t, l[i])
	}
	return all
}

func pearlsOf(t *testing.T, l []impl.Bead) []pearl {
	t.Helper()
	all := make([]pearl, len(l))
	for i, b := range l {
		all[i] = pearl{rat(t, b.Mass), rat(t, b.At), rat(t, b.Speed)}
	}
	return all
}

// dot is how far a goes along n, times n's length.
func dot(a spot, n spot) *big.Rat { return plus(times(a.re, n.re), times(a.im, n.im)) }

// behindStrike is the speed of one of two where they come together: along the normal the speed of both their middle, and that by which it came near to it, times the rest, the other way.
func behindStrike(a lump, b lump, n spot, rest *big.Rat) spot {
	middle := a.speed.by(a.mass).add(b.speed.by(b.mass)).by(new(big.Rat).Inv(plus(a.mass, b.mass)))
	along := n.by(quotient(dot(a.speed.sub(middle), n), n.square()))
	return a.speed.sub(along.by(plus(whole(1), rest)))
}

// exactStrike is what Strike is to answer of what is good; nil where a number is too long.
func exactStrike(t *testing.T, a impl.Body, b impl.Body, nx string, ny string, e string) []impl.Body {
	t.Helper()
	one, two, n := lumpOf(t, a), lumpOf(t, b), spot{rat(t, nx), rat(t, ny)}
	if dot(one.speed, n).Cmp(dot(two.speed, n)) > 0 {
		first, second := behindStrike(one, two, n, rat(t, e)), behindStrike(two, one, n, rat(t, e))
		a.U, a.V, b.U, b.V = textOf(first.re), textOf(first.im), textOf(second.re), textOf(second.im)
	}
	if slices.Contains([]string{a.U, a.V, b.U, b.V}, "") {
		return nil
	}
	return []impl.Body{a, b}
}

// checkStrike asks Strike of anything, and says what it is to answer.
func checkStrike(t *testing.T, a impl.Body, b impl.Body, nx string, ny string, e string) {
	t.Helper()
	var want []impl.Body
	if isBody(a) && isBody(b) && isFrac(nx) && isFrac(ny) && (nx != "0" || ny != "0") && isRest(t, e) {
		want = exactStrike(t, a, b, nx, ny, e)
	}
	got, ok := impl.Strike(a, b, nx, ny, e)
	if !slices.Equal(got, want) || ok != (want != nil) {
		t.Errorf("Strike of %.200q, %.200q, %.40q, %.40q, %.40q: got %.400q %v, want %.400q", a, b, nx, ny, e, got, ok, want)
	}
	if ok && isBody(a) && isBody(b) {
		checkBooks(t, []impl.Body{a, b}, got, spot{rat(t, nx), rat(t, ny)}, e)
	}
}

// checkBooks: what a strike keeps, by the exact numbers of the bodies ahead of it and behind it.
func checkBooks(t *testing.T, from []impl.Body, to []impl.Body, n spot, e string) {
	t.Helper()
	ahead, behind := lumpsOf(t, from), lumpsOf(t, to)
	if !momentumOf(ahead).is(momentumOf(behind)) {
		t.Errorf("momentum is not kept from %.400q to %.400q", from, to)
	}
	less := energyOf(behind).Cmp(energyOf(ahead))
	if less > 0 || e == "1" && less != 0 {
		t.Errorf("energy from %.400q to %.400q, the rest %.40q: %d", from, to, e, less)
	}
	way := ahead[0].at.sub(ahead[1].at)
	if onOneLine([]spot{way, n}) && whirlOf(ahead).Cmp(whirlOf(behind)) != 0 {
		t.Errorf("whirl is not kept from %.400q to %.400q", from, to)
	}
	for i := range from {
		if from[i].Mass != to[i].Mass || from[i].X != to[i].X || from[i].Y != to[i].Y {
			t.Errorf("a mass or a place is not kept from %.400q to %.400q", from, to)
		}
	}
	checkBooksTold(t, from, to, onOneLine([]spot{way, n}))
}

// checkBooksTold: the same by what the program tells of them, where it tells it.
func checkBooksTold(t *testing.T, from []impl.Body, to []impl.Body, whirls bool) {
	t.Helper()
	x, y, ok := impl.Momentum(from)
	if u, v, okToo := impl.Momentum(to); u != x || v != y || ok != okToo {
		t.Errorf("Momentum of %.400q is %.100q %.100q, of %.400q %.100q %.100q", from, x, y, to, u, v)
	}
	was, ok := impl.Whirl(from)
	if is, okToo := impl.Whirl(to); whirls && (is != was || ok != okToo) {
		t.Errorf("Whirl of %.400q is %.100q, of %.400q %.100q", from, was, to, is)
	}
}

func momentumOf(l []lump) spot {
	sum := spot{new(big.Rat), new(big.Rat)}
	for _, b := range l {
		sum = sum.add(b.speed.by(b.mass))
	}
	return sum
}

func energyOf(l []lump) *big.Rat {
	sum := new(big.Rat)
	for _, b := range l {
		sum = plus(sum, half(times(b.mass, b.speed.square())))
	}
	return sum
}

// whirlOf: the imaginary part of the mirrored place times the speed is what it turns about 0.
func whirlOf(l []lump) *big.Rat {
	sum := new(big.Rat)
	for _, b := range l {
		sum = plus(sum, times(b.mass, b.at.mirrored().mul(b.speed).im))
	}
	return sum
}

// checkSumsOf asks Momentum, Energy and Whirl of anything, and GoodBody of each.
func checkSumsOf(t *testing.T, l []impl.Body) {
	t.Helper()
	good := len(l) <= mostBodies
	for _, b := range l {
		good = good && isBody(b)
		if impl.GoodBody(b) != isBody(b) {
			t.Errorf("GoodBody of %.300q: %v", b, !isBody(b))
		}
	}
	x, y, energy, whirl := "", "", "", ""
	if good {
		all := lumpsOf(t, l)
		momentum := momentumOf(all)
		x, y, energy, whirl = textOf(momentum.re), textOf(momentum.im), textOf(energyOf(all)), textOf(whirlOf(all))
	}
	if x == "" || y == "" {
		x, y = "", ""
	}
	if u, v, ok := impl.Momentum(l); u != x || v != y || ok != (x != "") {
		t.Errorf("Momentum of %.400q: got %.100q %.100q %v, want %.100q %.100q", l, u, v, ok, x, y)
	}
	if got, ok := impl.Energy(l); got != energy || ok != (energy != "") {
		t.Errorf("Energy of %.400q: got %.100q %v, want %.100q", l, got, ok, energy)
	}
	if got, ok := impl.Whirl(l); got != whirl || ok != (whirl != "") {
		t.Errorf("Whirl of %.400q: got %.100q %v, want %.100q", l, got, ok, whirl)
	}
}

// soonest looks at every pair; the second answer is how long it will take. It is -1 where none will meet within the time left.
func soonest(l []pearl, left *big.Rat) (int, *big.Rat) {
	at, least := -1, left
	for i := range len(l) - 1 {
		w, gap := minus(l[i].speed, l[i+1].speed), minus(l[i+1].at, l[i].at)
		if w.Sign() <= 0 {
			continue
		}
		takes := quotient(gap, w)
		if order := takes.Cmp(least); order < 0 || order == 0 && at < 0 {
			at, least = i, takes
		}
	}
	return at, least
}

func allGoOn(l []pearl, time *big.Rat) {
	for i := range l {
		l[i].at = plus(l[i].at, times(l[i].speed, time))
	}
}

// exactMeets lets all beads go on from meeting to meeting; false where there are more than most, or a time is too long.
func exactMeets(l []pearl, rest *big.Rat, until *big.Rat, most int) ([]impl.Meeting, bool) {
	met, now := []impl.Meeting{}, new(big.Rat)
	for {
		left, takes := soonest(l, minus(until, now))
		allGoOn(l, takes)
		if left < 0 {
			return met, true
		}
		now = plus(now, takes)
		met = append(met, impl.Meeting{Time: textOf(now), Left: left})
		if len(met) > most || textOf(now) == "" {
			return nil, false
		}
		meet(&l[left], &l[left+1], rest)
	}
}

// exactRun is what RunBeads is to answer of what is good.
func exactRun(l []pearl, rest *big.Rat, until *big.Rat) ([]impl.Bead, []impl.Meeting, bool) {
	met, fine := exactMeets(l, rest, until, mostMeets)
	if !fine {
		return nil, nil, false
	}
	beads := make([]impl.Bead, len(l))
	for i, b := range l {
		beads[i] = impl.Bead{Mass: textOf(b.mass), At: textOf(b.at), Speed: textOf(b.speed)}
		if beads[i].At == "" || beads[i].Speed == "" {
			return nil, nil, false
		}
	}
	return beads, met, true
}

// meet: each goes on with the speed of both their middle, and away from it by the rest times what it came near by.
func meet(a *pearl, b *pearl, rest *big.Rat) {
	middle := quotient(plus(times(a.mass, a.speed), times(b.mass, b.speed)), plus(a.mass, b.mass))
	a.speed = minus(middle, times(rest, minus(a.speed, middle)))
	b.speed = minus(middle, times(rest, minus(b.speed, middle)))
}

// checkRun asks GoodBeads and RunBeads of anything, and says what they are to answer.
func checkRun(t *testing.T, l []impl.Bead, e string, until string) {
	t.Helper()
	var beads []impl.Bead
	var met []impl.Meeting
	good, fine := isBeads(t, l), false
	if good && isRest(t, e) && isFrac(until) && rat(t, until).Sign() >= 0 {
		beads, met, fine = exactRun(pearlsOf(t, l), rat(t, e), rat(t, until))
	}
	if impl.GoodBeads(l) != good {
		t.Errorf("GoodBeads of %.400q: %v", l, !good)
	}
	gotBeads, gotMet, ok := impl.RunBeads(l, e, until)
	if !slices.Equal(gotBeads, beads) || !slices.Equal(gotMet, met) || ok != fine {
		t.Errorf("RunBeads of %.400q, %.40q, %.40q: got %.400q %.400v %v, want %.400q %.400v %v", l, e, until, gotBeads, fmt.Sprint(gotMet), ok, beads, fmt.Sprint(met), fine)
	}
	if ok && fine {
		checkRunBooks(t, l, gotBeads, gotMet, e, until)
	}
}

// checkRunBooks: what every run keeps.
func checkRunBooks(t *testing.T, from []impl.Bead, to []impl.Bead, met []impl.Meeting, e string, until string) {
	t.Helper()
	what := fmt.Sprintf("from %.400q to %.400q, the rest %.40q, until %.40q", from, to, e, until)
	if len(from) != len(to) || !impl.GoodBeads(to) || !isBeads(t, to) {
		t.Fatal("no good beads", what)
	}
	ahead, behind := lumpsOfBeads(t, from), lumpsOfBeads(t, to)
	less := energyOf(behind).Cmp(energyOf(ahead))
	if !momentumOf(ahead).is(momentumOf(behind)) || less > 0 || e == "1" && less != 0 {
		t.Error("the books are not kept", what)
	}
	for i := range from {
		if from[i].Mass != to[i].Mass {
			t.Error("a mass is not kept", what)
		}
	}
	last := new(big.Rat)
	for _, m := range met {
		time := rat(t, m.Time)
		if time.Cmp(last) < 0 || time.Cmp(rat(t, until)) > 0 || m.Left < 0 || m.Left+1 >= len(from) {
			t.Error("a meeting that is none", m, what)
		}
		last = time
	}
}

// lumpsOfBeads: as bodies that go to the right.
func lumpsOfBeads(t *testing.T, l []impl.Bead) []lump {
	t.Helper()
	all := make([]lump, len(l))
	for i, b := range l {
		all[i] = lump{rat(t, b.Mass), spot{rat(t, b.At), new(big.Rat)}, spot{rat(t, b.Speed), new(big.Rat)}}
	}
	return all
}

func drawnBody(r *rand.Rand, digits int) impl.Body {
	return impl.Body{Mass: drawnLength(r, digits), X: randomFrac(r, digits), Y: randomFrac(r, digits), U: randomFrac(r, digits), V: randomFrac(r, digits)}
}

func drawnBodies(r *rand.Rand, n int, digits int) []impl.Body {
	l := make([]impl.Body, n)
	for i := range l {
		l[i] = drawnBody(r, digits)
	}
	return l
}

// small is a whole number or a half from -most to most.
func small(r *rand.Rand, most int64) *big.Rat {
	return big.NewRat(r.Int63n(4*most+1)-2*most, 2)
}

// drawnBeads are good ones of small numbers, so that many are at one place or meet at one time.
func drawnBeads(r *rand.Rand, n int, most int64) []impl.Bead {
	l, at := make([]impl.Bead, n), small(r, most)
	for i := range l {
		l[i] = impl.Bead{Mass: textOf(whole(1 + r.Int63n(most))), At: textOf(at), Speed: textOf(small(r, most))}
		at = plus(at, whole(r.Int63n(most)))
	}
	return l
}
