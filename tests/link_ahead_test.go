package tests

import (
	"fmt"
	"math/big"
	"math/rand"
	"slices"
	"testing"

	"loop.example/g00047/impl"
)

func TestArmsByHand(t *testing.T) {
	for _, c := range []struct {
		links []string
		turns []impl.Turn
		spots []impl.Spot
		rows  [][]string
		flat  bool
	}{
		{[]string{"2"}, []impl.Turn{straight}, []impl.Spot{{X: "2", Y: "0", Turn: straight}}, [][]string{{"0"}, {"2"}}, true},
		{[]string{"5/2"}, []impl.Turn{{P: 1, Q: 2}}, []impl.Spot{{X: "3/2", Y: "2", Turn: impl.Turn{P: 1, Q: 2}}}, [][]string{{"-2"}, {"3/2"}}, true},
		{[]string{"2", "1"}, []impl.Turn{straight, quarter}, []impl.Spot{{X: "2", Y: "0", Turn: straight}, {X: "2", Y: "1", Turn: quarter}}, [][]string{{"-1", "-1"}, {"2", "0"}}, false},
		{[]string{"2", "1"}, []impl.Turn{quarter, straight}, []impl.Spot{{X: "0", Y: "2", Turn: quarter}, {X: "0", Y: "3", Turn: quarter}}, [][]string{{"-3", "-1"}, {"0", "0"}}, true},
		{[]string{"2", "1"}, []impl.Turn{quarter, around}, []impl.Spot{{X: "0", Y: "2", Turn: quarter}, {X: "0", Y: "1", Turn: impl.Turn{P: -1, Q: 1}}}, [][]string{{"-1", "1"}, {"0", "0"}}, true},
		{[]string{"3", "4", "5"}, []impl.Turn{straight, quarter, {P: 2, Q: 1}}, []impl.Spot{{X: "3", Y: "0", Turn: straight}, {X: "3", Y: "4", Turn: quarter}, {X: "-1", Y: "1", Turn: impl.Turn{P: -3, Q: 1}}}, [][]string{{"-1", "-1", "3"}, {"-1", "-4", "-4"}}, false},
	} {
		if got, ok := impl.Ahead(c.links, c.turns); !slices.Equal(got, c.spots) || !ok {
			t.Errorf("Ahead(%v, %v): %v %v", c.links, c.turns, got, ok)
		}
		if got, ok := impl.Leverage(c.links, c.turns); !sameRows(got, c.rows) || !ok {
			t.Errorf("Leverage(%v, %v): %v %v", c.links, c.turns, got, ok)
		}
		if got, ok := impl.Singular(c.links, c.turns); got != c.flat || !ok {
			t.Errorf("Singular(%v, %v): %v %v", c.links, c.turns, got, ok)
		}
		checkArm(t, c.links, c.turns)
	}
}

// checkEnds: each end is as far from the one ahead as the link is long, along its turn, and an arm that is cut off there has the same ends.
func checkEnds(t *testing.T, links []string, turns []impl.Turn) {
	t.Helper()
	spots, ok := impl.Ahead(links, turns)
	if !ok {
		return
	}
	sum, from := straight, impl.Spot{X: "0", Y: "0"}
	for i, s := range spots {
		sum = impl.JoinTurn(sum, turns[i])
		cos, sin := impl.CosSin(sum)
		x, y := impl.SubFrac(s.X, from.X), impl.SubFrac(s.Y, from.Y)
		if s.Turn != sum || x != impl.MulFrac(links[i], cos) || y != impl.MulFrac(links[i], sin) {
			t.Errorf("%v and %v: link %d ends at %v", links, turns, i, s)
		}
		if cut, ok := impl.Ahead(links[:i+1], turns[:i+1]); !slices.Equal(cut, spots[:i+1]) || !ok {
			t.Errorf("%v and %v up to %d: %v %v", links, turns, i, cut, ok)
		}
		from = s
	}
	checkLeverageOfEnds(t, links, turns, spots)
}

// checkLeverageOfEnds: what the chapter says of the ends that Ahead tells.
func checkLeverageOfEnds(t *testing.T, links []string, turns []impl.Turn, spots []impl.Spot) {
	t.Helper()
	rows, ok := impl.Leverage(links, turns)
	if !ok || len(rows) != 2 || len(rows[0]) != len(links) || len(rows[1]) != len(links) {
		t.Errorf("Leverage of %v and %v: %v %v", links, turns, rows, ok)
		return
	}
	last, from, flat := spots[len(spots)-1], impl.Spot{X: "0", Y: "0"}, true
	for i, s := range spots {
		if rows[0][i] != impl.SubFrac(from.Y, last.Y) || rows[1][i] != impl.SubFrac(last.X, from.X) {
			t.Errorf("Leverage of %v and %v: column %d of %v", links, turns, i, rows)
		}
		for j := range i {
			flat = flat && impl.MulFrac(rows[0][i], rows[1][j]) == impl.MulFrac(rows[1][i], rows[0][j])
		}
		from = s
	}
	if got, ok := impl.Singular(links, turns); got != flat || !ok {
		t.Errorf("Singular of %v and %v: %v %v", links, turns, got, ok)
	}
}

func TestArmsOfAllLengths(t *testing.T) {
	r := rand.New(rand.NewSource(74))
	for n := range mostLinks + 3 {
		for range 60 {
			links, turns := drawnLinks(r, n, 5), drawnTurns(r, n, 6)
			checkArm(t, links, turns)
			checkEnds(t, links, turns)
			checkArm(t, drawnLinks(r, n, 60), drawnTurns(r, n, 12))
			checkArm(t, drawnLinks(r, n, 9), drawnTurns(r, n, 700))
		}
	}
	for _, a := range edgeTurns() {
		for _, b := range edgeTurns() {
			checkArm(t, []string{"7/3", "1/2"}, []impl.Turn{a, b})
			checkArm(t, []string{"1", "1", "2"}, []impl.Turn{a, b, a})
		}
	}
}

func TestArmsOfTooFewOrTooManyLinks(t *testing.T) {
	for _, n := range []int{0, 7, 8, 100} {
		links, turns := slices.Repeat([]string{"1"}, n), slices.Repeat([]impl.Turn{straight}, n)
		checkNoArm(t, fmt.Sprint(n, " links"), links, turns)
	}
	for n := 1; n <= mostLinks; n++ {
		links, turns := slices.Repeat([]string{"1"}, n), slices.Repeat([]impl.Turn{quarter}, n)
		if _, ok := impl.Ahead(links, turns); !ok {
			t.Errorf("an arm of %d links", n)
		}
		for _, m := range []int{0, n - 1, n + 1, n + 5} {
			checkNoArm(t, fmt.Sprint(n, " links and ", m, " turns"), links, slices.Repeat([]impl.Turn{straight}, m))
			checkNoArm(t, fmt.Sprint(m, " links and ", n, " turns"), slices.Repeat([]string{"1"}, m), turns)
		}
	}
	checkNoArm(t, "nothing", nil, nil)
	checkNoArm(t, "empty lists", []string{}, []impl.Turn{})
	checkNoArm(t, "no turns", []string{"1"}, nil)
	checkNoArm(t, "no links", nil, []impl.Turn{straight})
}

// A wrong link or a wrong turn in any place, whatever stands around it.
func TestArmsWithWrongParts(t *testing.T) {
	wrongLinks := append([]string{"0", "-1", "-1/2", "-" + nines(400), "-1/" + nines(400)}, wrongTexts()...)
	for n := 1; n <= mostLinks; n++ {
		for at := range n {
			links, turns := slices.Repeat([]string{"3/2"}, n), slices.Repeat([]impl.Turn{{P: -1, Q: 2}}, n)
			checkArm(t, links, turns)
			for _, s := range wrongLinks {
				links[at] = s
				checkNoArm(t, fmt.Sprintf("the link %.20q at %d of %d", s, at, n), links, turns)
			}
			links[at] = "3/2"
			for _, turn := range wrongTurns() {
				turns[at] = turn
				checkNoArm(t, fmt.Sprintf("the turn %v at %d of %d", turn, at, n), links, turns)
			}
		}
	}
}

// The turns by themselves are good, but a joined one is not: at the end, or on the way though the last one is.
func TestArmsWhoseJoinedTurnIsBeyondTheLimit(t *testing.T) {
	fine := impl.Turn{P: 1, Q: 1002}
	back := impl.Turn{P: -1, Q: 1002}
	checkNoArm(t, "two fine turns", []string{"1", "1"}, []impl.Turn{fine, fine})
	checkNoArm(t, "there and back", []string{"1", "1", "1"}, []impl.Turn{fine, fine, back})
	checkNoArm(t, "there and back by half", []string{"1", "1", "1", "1"}, []impl.Turn{around, fine, fine, back})
	checkNoArm(t, "at the last link", []string{"1", "1", "1", "1", "1", "1"}, []impl.Turn{straight, quarter, quarter, quarter, {P: 1, Q: 999983}, {P: 1, Q: 999983}})
	checkArm(t, []string{"1", "1", "1"}, []impl.Turn{fine, back, fine})
	checkArm(t, []string{"1", "1"}, []impl.Turn{{P: 1, Q: 1000}, {P: 999, Q: 1000}})
	checkArm(t, []string{"1", "1"}, []impl.Turn{{P: 1, Q: 1000}, {P: -1000, Q: 999}})
	checkArm(t, []string{"1", "1", "1"}, []impl.Turn{{P: mostTurn, Q: 1}, around, {P: 1, Q: mostTurn}})
	if spots, ok := impl.Ahead([]string{"1", "1", "1"}, []impl.Turn{fine, back, fine}); !ok || spots[1].Turn != straight {
		t.Error(spots, ok)
	}
}

func TestSingularArms(t *testing.T) {
	for _, c := range []struct {
		what  string
		links []string
		turns []impl.Turn
		flat  bool
	}{
		{"one link", []string{"1"}, []impl.Turn{{P: 3, Q: 7}}, true},
		{"two stretched out", []string{"1", "2"}, []impl.Turn{{P: 3, Q: 7}, straight}, true},
		{"two folded together", []string{"1", "2"}, []impl.Turn{{P: 3, Q: 7}, around}, true},
		{"two folded together, alike", []string{"2", "2"}, []impl.Turn{{P: 3, Q: 7}, around}, true},
		{"two and neither", []string{"1", "2"}, []impl.Turn{{P: 3, Q: 7}, {P: 1, Q: 1000}}, false},
		{"six stretched out", []string{"1", "2", "3", "1/4", "5", "6"}, []impl.Turn{{P: -3, Q: 7}, straight, straight, straight, straight, straight}, true},
		{"six folded at times", []string{"1", "2", "3", "1/4", "5", "6"}, []impl.Turn{{P: -3, Q: 7}, around, straight, around, around, straight}, true},
		{"six, the last one bent", []string{"1", "2", "3", "1/4", "5", "6"}, []impl.Turn{{P: -3, Q: 7}, around, straight, around, around, quarter}, false},
		{"six, the first two bent", []string{"1", "2", "3", "1/4", "5", "6"}, []impl.Turn{{P: -3, Q: 7}, quarter, straight, around, around, straight}, false},
		// The last end is where the arm begins, or where a link in the middle does: that column is 0, and the others count.
		{"a triangle", []string{"3", "4", "5"}, []impl.Turn{straight, quarter, {P: 3, Q: 1}}, false},
		{"a square", []string{"1", "1", "1", "1"}, []impl.Turn{straight, quarter, quarter, quarter}, false},
		{"a square behind a link", []string{"2", "1", "1", "1", "1"}, []impl.Turn{straight, straight, quarter, quarter, quarter}, false},
		{"there and back", []string{"1", "1", "1", "1"}, []impl.Turn{quarter, around, around, around}, true},
		{"there and back to the middle", []string{"2", "1", "1"}, []impl.Turn{straight, around, around}, true},
		{"bent and back to the line", []string{"1", "1", "1", "1"}, []impl.Turn{quarter, {P: -1, Q: 1}, {P: -1, Q: 1}, quarter}, false},
	} {
		if got, ok := impl.Singular(c.links, c.turns); got != c.flat || !ok {
			t.Errorf("%s: %v %v", c.what, got, ok)
		}
		checkArm(t, c.links, c.turns)
	}
}

// bent is every arm of these links whose turns are none, half of all round or quarters.
func bent(links []string, see func([]impl.Turn)) {
	four := []impl.Turn{straight, around, quarter, {P: -1, Q: 1}}
	turns := make([]impl.Turn, len(links))
	var fill func(at int)
	fill = func(at int) {
		if at == len(turns) {
			see(turns)
			return
		}
		for _, turn := range four {
			turns[at] = turn
			fill(at + 1)
		}
	}
	fill(0)
}

func TestArmsOfQuarters(t *testing.T) {
	for _, links := range [][]string{{"1"}, {"1", "1"}, {"2", "1"}, {"1", "1", "1"}, {"1", "2", "1"}, {"1", "1", "1", "1"}, {"1", "1", "2", "1", "1"}} {
		bent(links, func(turns []impl.Turn) {
			checkArm(t, links, turns)
			// Its ends lie on one line just where no link but the first is turned by a quarter.
			sides := slices.ContainsFunc(turns[1:], func(turn impl.Turn) bool { return turn.P*turn.Q != 0 })
			if flat, ok := impl.Singular(links, turns); flat == sides || !ok {
				t.Errorf("Singular of %v and %v: %v %v", links, turns, flat, ok)
			}
		})
	}
}

// What is told may have 400 digits, and no more; what comes up on the way may have more.
func TestArmsOfLongNumbers(t *testing.T) {
	long, fifths := nines(400), nines(399)+"1"
	for _, c := range []struct {
		what          string
		links         []string
		turns         []impl.Turn
		ahead, levers bool
	}{
		{"the longest link", []string{long}, []impl.Turn{straight}, true, true},
		{"the longest link up", []string{long}, []impl.Turn{quarter}, true, true},
		{"the shortest link", []string{"1/" + long}, []impl.Turn{around}, true, true},
		{"a turned one that is too long", []string{long}, []impl.Turn{{P: 1, Q: 2}}, false, false},
		{"only its X too long", []string{long, long}, []impl.Turn{straight, straight}, false, false},
		{"only its Y too long", []string{long, "1"}, []impl.Turn{quarter, straight}, false, false},
		{"too long on the way alone", []string{long, long, long}, []impl.Turn{straight, straight, around}, false, true},
		{"too long on the way alone, up", []string{long, long, long}, []impl.Turn{quarter, straight, around}, false, true},
		{"too long at a column alone", []string{nines(399) + "0", fifths}, []impl.Turn{{P: -2, Q: 1}, around}, true, false},
		{"there and back", []string{long, long}, []impl.Turn{straight, around}, true, true},
		{"lower numbers that are too long", []string{"1/" + long, "1/" + nines(399)}, []impl.Turn{straight, straight}, false, false},
		{"six of the longest", slices.Repeat([]string{long + "/" + tenTo(399)}, 6), slices.Repeat([]impl.Turn{quarter}, 6), true, true},
	} {
		checkArm(t, c.links, c.turns)
		if _, ok := impl.Ahead(c.links, c.turns); ok != c.ahead {
			t.Errorf("Ahead of %s: %v", c.what, ok)
		}
		if _, ok := impl.Leverage(c.links, c.turns); ok != c.levers {
			t.Errorf("Leverage of %s: %v", c.what, ok)
		}
		// It tells no fraction.
		if _, ok := impl.Singular(c.links, c.turns); !ok {
			t.Errorf("Singular of %s", c.what)
		}
	}
	r := rand.New(rand.NewSource(75))
	for n := 1; n <= mostLinks; n++ {
		for range 4 {
			checkArm(t, drawnLinks(r, n, 400), drawnTurns(r, n, 4))
			checkArm(t, drawnLinks(r, n, 400/n), drawnTurns(r, n, 4))
		}
	}
}

// Of an arm of tiny bends what the last end does is nearly what its leverage says.
func TestLeverageIsTheChange(t *testing.T) {
	r := rand.New(rand.NewSource(76))
	tiny := impl.Turn{P: 1, Q: mostTurn}
	arc := big.NewRat(2, mostTurn)
	for range 100 {
		n := 1 + r.Intn(3)
		links, turns := drawnLinks(r, n, 2), drawnTurns(r, n, 3)
		rows, ok := impl.Leverage(links, turns)
		ends, _, good := exactArm(t, links, turns)
		if !ok || !good {
			t.Errorf("%v and %v: %v %v", links, turns, rows, ok)
			continue
		}
		for i := range n {
			// All behind link i's beginning is turned about it by the tiny turn.
			about := spot{new(big.Rat), new(big.Rat)}
			if i > 0 {
				about = ends[i-1]
			}
			moved := ends[n-1].sub(about).mul(wayOfTurn(tiny)).add(about)
			change := moved.sub(ends[n-1]).by(new(big.Rat).Inv(arc))
			off := change.sub(spot{rat(t, rows[0][i]), rat(t, rows[1][i])})
			if size := ends[n-1].sub(about).square(); off.square().Cmp(times(size, big.NewRat(1, mostTurn*100))) > 0 {
				t.Errorf("%v and %v: column %d of %v", links, turns, i, rows)
			}
		}
	}
}
