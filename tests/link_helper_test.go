package tests

import (
	"fmt"
	"math"
	"math/big"
	"math/rand"
	"slices"
	"testing"

	"loop.example/g00047/impl"
)

const (
	mostTurn  = 1000000
	mostLinks = 6
)

var (
	straight = impl.Turn{P: 0, Q: 1}
	quarter  = impl.Turn{P: 1, Q: 1}
	around   = impl.Turn{P: 1, Q: 0}
)

func (a spot) add(b spot) spot { return spot{plus(a.re, b.re), plus(a.im, b.im)} }

func (a spot) by(n *big.Rat) spot { return spot{times(a.re, n), times(a.im, n)} }

// mirrored is the direction as far to the other side.
func (a spot) mirrored() spot { return spot{a.re, negative(a.im)} }

func (a spot) is(b spot) bool { return a.re.Cmp(b.re) == 0 && a.im.Cmp(b.im) == 0 }

// wayAlong is the direction, cosine and sine, of twice the angle whose tangent is p / q: the square of q + p i, made as long as 1.
func wayAlong(p *big.Rat, q *big.Rat) spot {
	half := spot{q, p}
	return half.mul(half).by(new(big.Rat).Inv(half.square()))
}

func wayOf(p int64, q int64) spot { return wayAlong(big.NewRat(p, 1), big.NewRat(q, 1)) }

func wayOfTurn(t impl.Turn) spot { return wayOf(int64(t.P), int64(t.Q)) }

// turnFor is the good turn with that cosine and sine; the zero one where it is beyond the limit.
func turnFor(way spot) impl.Turn {
	if way.im.Sign() == 0 {
		return map[bool]impl.Turn{true: straight, false: around}[way.re.Sign() > 0]
	}
	half := new(big.Rat).Quo(minus(big.NewRat(1, 1), way.re), way.im)
	most := big.NewInt(mostTurn)
	if half.Num().CmpAbs(most) > 0 || half.Denom().CmpAbs(most) > 0 {
		return impl.Turn{}
	}
	return impl.Turn{P: int(half.Num().Int64()), Q: int(half.Denom().Int64())}
}

// isTurn says by the document's words whether a turn is good.
func isTurn(t impl.Turn) bool {
	if t.P < -mostTurn || t.P > mostTurn || t.Q < 0 || t.Q > mostTurn {
		return false
	}
	if t.Q == 0 {
		return t.P == 1
	}
	p, q := big.NewInt(int64(max(t.P, -t.P))), big.NewInt(int64(t.Q))
	return new(big.Int).GCD(nil, nil, p, q).Cmp(big.NewInt(1)) == 0
}

func isLength(s string) bool { return isFrac(s) && s != "0" && s[0] != '-' }

// exactArm are the ends of the links and their directions; false for what is no arm, and where a direction has no good turn.
func exactArm(t *testing.T, links []string, turns []impl.Turn) ([]spot, []spot, bool) {
	t.Helper()
	if len(links) < 1 || len(links) > mostLinks || len(turns) != len(links) {
		return nil, nil, false
	}
	end, way := spot{new(big.Rat), new(big.Rat)}, spot{big.NewRat(1, 1), new(big.Rat)}
	ends, ways := []spot{}, []spot{}
	for i := range links {
		if !isLength(links[i]) || !isTurn(turns[i]) {
			return nil, nil, false
		}
		way = way.mul(wayOfTurn(turns[i]))
		end = end.add(way.by(rat(t, links[i])))
		if turnFor(way) == (impl.Turn{}) {
			return nil, nil, false
		}
		ends, ways = append(ends, end), append(ways, way)
	}
	return ends, ways, true
}

// exactSpots is what Ahead is to tell; nil where a number is too long.
func exactSpots(ends []spot, ways []spot) []impl.Spot {
	l := []impl.Spot{}
	for i := range ends {
		s := impl.Spot{X: textOf(ends[i].re), Y: textOf(ends[i].im), Turn: turnFor(ways[i])}
		if s.X == "" || s.Y == "" {
			return nil
		}
		l = append(l, s)
	}
	return l
}

// exactColumns is how the last end changes with each turn: what is from the link's beginning to it, turned by a quarter.
func exactColumns(ends []spot) []spot {
	l, last, i := []spot{}, ends[len(ends)-1], spot{new(big.Rat), big.NewRat(1, 1)}
	for n := range ends {
		from := spot{new(big.Rat), new(big.Rat)}
		if n > 0 {
			from = ends[n-1]
		}
		l = append(l, last.sub(from).mul(i))
	}
	return l
}

// exactRows is what Leverage is to tell; nil where a number is too long.
func exactRows(columns []spot) [][]string {
	rows := [][]string{{}, {}}
	for _, c := range columns {
		rows[0], rows[1] = append(rows[0], textOf(c.re)), append(rows[1], textOf(c.im))
	}
	if slices.Contains(rows[0], "") || slices.Contains(rows[1], "") {
		return nil
	}
	return rows
}

// onOneLine looks at every two.
func onOneLine(columns []spot) bool {
	for _, a := range columns {
		for _, b := range columns {
			if times(a.re, b.im).Cmp(times(a.im, b.re)) != 0 {
				return false
			}
		}
	}
	return true
}

// checkArm asks Ahead, Leverage and Singular of anything, and says what they are to answer.
func checkArm(t *testing.T, links []string, turns []impl.Turn) {
	t.Helper()
	what := fmt.Sprintf("%.40q and %v", links, turns)
	ends, ways, good := exactArm(t, links, turns)
	var spots []impl.Spot
	var rows [][]string
	flat := false
	if good {
		spots, rows, flat = exactSpots(ends, ways), exactRows(exactColumns(ends)), onOneLine(exactColumns(ends))
	}
	if got, ok := impl.Ahead(links, turns); !slices.Equal(got, spots) || ok != (spots != nil) {
		t.Errorf("Ahead of %.400s: got %.300q %v, want %.300q", what, fmt.Sprint(got), ok, fmt.Sprint(spots))
	}
	if got, ok := impl.Leverage(links, turns); !sameRows(got, rows) || ok != (rows != nil) {
		t.Errorf("Leverage of %.400s: got %.300q %v, want %.300q", what, fmt.Sprint(got), ok, fmt.Sprint(rows))
	}
	if got, ok := impl.Singular(links, turns); got != flat || ok != good {
		t.Errorf("Singular of %.400s: got %v %v, want %v %v", what, got, ok, flat, good)
	}
}

// checkNoArm: what is no arm, by the test's own word.
func checkNoArm(t *testing.T, what string, links []string, turns []impl.Turn) {
	t.Helper()
	if got, ok := impl.Ahead(links, turns); len(got) != 0 || ok {
		t.Errorf("Ahead of %.300s: %v %v", what, got, ok)
	}
	if got, ok := impl.Leverage(links, turns); len(got) != 0 || ok {
		t.Errorf("Leverage of %.300s: %v %v", what, got, ok)
	}
	if got, ok := impl.Singular(links, turns); got || ok {
		t.Errorf("Singular of %.300s: %v %v", what, got, ok)
	}
}

func checkJoined(t *testing.T, a impl.Turn, b impl.Turn, want impl.Turn) {
	t.Helper()
	if got := impl.JoinTurn(a, b); got != want {
		t.Errorf("JoinTurn(%v, %v): got %v, want %v", a, b, got, want)
	}
}

// smallTurns hands each pair of numbers from -most to most to see, good or not.
func smallTurns(most int, see func(impl.Turn)) {
	for p := -most; p <= most; p++ {
		for q := -most; q <= most; q++ {
			see(impl.Turn{P: p, Q: q})
		}
	}
}

// edgeTurns are good: none, half of all round, quarters, numbers at the limit.
func edgeTurns() []impl.Turn {
	return []impl.Turn{straight, around, quarter, {P: -1, Q: 1}, {P: 1, Q: 2}, {P: -1, Q: 2}, {P: 2, Q: 1}, {P: -2, Q: 1}, {P: 1, Q: 1000}, {P: 1000, Q: 1}, {P: -1000, Q: 999}, {P: 999, Q: 1000},
		{P: mostTurn, Q: 1}, {P: -mostTurn, Q: 1}, {P: 1, Q: mostTurn}, {P: -1, Q: mostTurn}, {P: mostTurn, Q: mostTurn - 1}, {P: -mostTurn, Q: mostTurn - 1},
		{P: mostTurn - 1, Q: mostTurn}, {P: 1 - mostTurn, Q: mostTurn}, {P: 999983, Q: 999979}, {P: -999961, Q: 999983}, {P: 999999, Q: 500000}}
}

// wrongTurns are not good: each edge that the document names, and the ends of int.
func wrongTurns() []impl.Turn {
	l := []impl.Turn{{}, {P: -1}, {P: 2}, {P: -2}, {P: mostTurn}, {P: -mostTurn}, {Q: 2}, {Q: -1}, {Q: -2}, {Q: mostTurn}, {P: 1, Q: -1}, {P: -1, Q: -1}, {P: 1, Q: -2}, {P: 3, Q: -2}, {P: -mostTurn, Q: 1 - mostTurn},
		{P: 2, Q: 4}, {P: -2, Q: 4}, {P: 3, Q: 3}, {P: 6, Q: 4}, {P: -15, Q: 35}, {P: mostTurn, Q: mostTurn}, {P: -mostTurn, Q: mostTurn}, {P: mostTurn, Q: 2}, {P: 5, Q: mostTurn}, {P: 999982, Q: 499991}}
	for _, n := range []int{mostTurn + 1, -mostTurn - 1, 2 * mostTurn, 1 << 31, 1 << 32, 1<<32 + 1, -1 << 32, 1 << 62, math.MaxInt, math.MaxInt - 1, math.MinInt, math.MinInt + 1} {
		l = append(l, impl.Turn{P: n}, impl.Turn{Q: n}, impl.Turn{P: n, Q: 1}, impl.Turn{P: 1, Q: n}, impl.Turn{P: n, Q: n}, impl.Turn{P: n, Q: mostTurn - 1}, impl.Turn{P: mostTurn - 1, Q: n}, impl.Turn{P: n, Q: n - 1}, impl.Turn{P: -1, Q: n}, impl.Turn{P: n, Q: -1})
	}
	return l
}

// drawnTurn is a good turn of numbers of that size at most.
func drawnTurn(r *rand.Rand, most int) impl.Turn {
	for {
		if t := (impl.Turn{P: r.Intn(2*most+1) - most, Q: r.Intn(most + 1)}); isTurn(t) {
			return t
		}
	}
}

func drawnTurns(r *rand.Rand, n int, most int) []impl.Turn {
	l := make([]impl.Turn, n)
	for i := range l {
		l[i] = drawnTurn(r, most)
	}
	return l
}

// drawnLength is a good fraction above 0.
func drawnLength(r *rand.Rand, digits int) string {
	for {
		if s := randomFrac(r, digits); isLength(s) {
			return s
		}
	}
}

func drawnLinks(r *rand.Rand, n int, digits int) []string {
	l := make([]string, n)
	for i := range l {
		l[i] = drawnLength(r, digits)
	}
	return l
}
