package tests

import (
	"fmt"
	"math/big"
	"math/rand"
	"slices"
	"testing"

	"loop.example/g00047/impl"
)

func sameBranches(a impl.Branches, b impl.Branches) bool {
	return a.Kind == b.Kind && slices.EqualFunc(a.Turns, b.Turns, slices.Equal)
}

func checkBranches(t *testing.T, place [4]string, want impl.Branches, wantOk bool) {
	t.Helper()
	got, ok := impl.ReachOf(place[0], place[1], place[2], place[3])
	if !sameBranches(got, want) || ok != wantOk {
		t.Errorf("ReachOf(%.60q): got %v %v, want %v %v", place, got, ok, want, wantOk)
	}
}

func TestReachByHand(t *testing.T) {
	left := impl.Turn{P: -1, Q: 1}
	for _, c := range []struct {
		place [4]string
		kind  int
		turns [][]impl.Turn
	}{
		{[4]string{"1", "1", "1", "1"}, impl.ReachTwo, [][]impl.Turn{{straight, quarter}, {quarter, left}}},
		{[4]string{"2", "1", "2", "1"}, impl.ReachTwo, [][]impl.Turn{{straight, quarter}, {{P: 1, Q: 2}, left}}},
		{[4]string{"2", "1", "-2", "-1"}, impl.ReachTwo, [][]impl.Turn{{around, quarter}, {{P: -2, Q: 1}, left}}},
		{[4]string{"1", "1", "-1", "-1"}, impl.ReachTwo, [][]impl.Turn{{around, quarter}, {left, left}}},
		{[4]string{"5", "5", "6", "0"}, impl.ReachTwo, [][]impl.Turn{{{P: -1, Q: 2}, {P: 4, Q: 3}}, {{P: 1, Q: 2}, {P: -4, Q: 3}}}},
		{[4]string{"1", "1", "2", "0"}, impl.ReachOne, [][]impl.Turn{{straight, straight}}},
		{[4]string{"1", "1", "-2", "0"}, impl.ReachOne, [][]impl.Turn{{around, straight}}},
		{[4]string{"1", "1", "0", "2"}, impl.ReachOne, [][]impl.Turn{{quarter, straight}}},
		{[4]string{"2", "1", "9/5", "12/5"}, impl.ReachOne, [][]impl.Turn{{{P: 1, Q: 2}, straight}}},
		{[4]string{"3", "1", "2", "0"}, impl.ReachOne, [][]impl.Turn{{straight, around}}},
		{[4]string{"1", "3", "2", "0"}, impl.ReachOne, [][]impl.Turn{{around, around}}},
		{[4]string{"1", "3/2", "0", "-1/2"}, impl.ReachOne, [][]impl.Turn{{quarter, around}}},
		{[4]string{"1", "1", "1", "0"}, impl.ReachRoot, nil},
		{[4]string{"2", "3", "4", "0"}, impl.ReachRoot, nil},
		{[4]string{"1", "1", "0", "0"}, impl.ReachAll, nil},
		{[4]string{"5/3", "5/3", "0", "0"}, impl.ReachAll, nil},
		{[4]string{"1", "2", "0", "0"}, impl.ReachNone, nil},
		{[4]string{"1", "1", "2", "1"}, impl.ReachNone, nil},
		{[4]string{"3", "1", "1", "0"}, impl.ReachNone, nil},
		{[4]string{"1", "3", "0", "-1"}, impl.ReachNone, nil},
	} {
		checkBranches(t, c.place, impl.Branches{Kind: c.kind, Turns: c.turns}, true)
	}
}

// kindOf is the kind of a reach by the document's list, in exact numbers.
func kindOf(first *big.Rat, second *big.Rat, to spot) int {
	if to.re.Sign() == 0 && to.im.Sign() == 0 {
		return map[bool]int{true: impl.ReachAll, false: impl.ReachNone}[first.Cmp(second) == 0]
	}
	most, least := plus(first, second), minus(first, second)
	over, under := to.square().Cmp(times(most, most)), to.square().Cmp(times(least, least))
	switch {
	case over > 0 || under < 0:
		return impl.ReachNone
	case over == 0 || under == 0:
		return impl.ReachOne
	}
	// The square of the second one's sine, times (2 first second) squared.
	square := times(minus(times(most, most), to.square()), minus(to.square(), times(least, least)))
	if !isSquareLong(square.Num()) || !isSquareLong(square.Denom()) {
		return impl.ReachRoot
	}
	return impl.ReachTwo
}

func isSquareLong(n *big.Int) bool {
	root := new(big.Int).Sqrt(n)
	return new(big.Int).Mul(root, root).Cmp(n) == 0
}

// checkReach: the kind; as many pairs as the kind says, in their order, each of good turns that lead to the place by Ahead.
func checkReach(t *testing.T, place [4]string) {
	t.Helper()
	got, ok := impl.ReachOf(place[0], place[1], place[2], place[3])
	if !isLength(place[0]) || !isLength(place[1]) || !isFrac(place[2]) || !isFrac(place[3]) {
		if !sameBranches(got, impl.Branches{}) || ok {
			t.Errorf("ReachOf(%.60q): %v %v", place, got, ok)
		}
		return
	}
	kind := kindOf(rat(t, place[0]), rat(t, place[1]), spot{rat(t, place[2]), rat(t, place[3])})
	count := map[int]int{impl.ReachOne: 1, impl.ReachTwo: 2}[kind]
	if !ok && count > 0 && sameBranches(got, impl.Branches{}) {
		// Numbers that are this short have good turns.
		if len(place[0])+len(place[1])+len(place[2])+len(place[3]) < 8 {
			t.Errorf("ReachOf(%.60q): no good turns", place)
		}
		return
	}
	if !ok || got.Kind != kind || len(got.Turns) != count {
		t.Errorf("ReachOf(%.60q): %v %v, but the kind is %d", place, got, ok, kind)
		return
	}
	for _, pair := range got.Turns {
		checkPair(t, place, kind, pair)
	}
	if kind == impl.ReachTwo && (got.Turns[0][1].P <= 0 || got.Turns[1][1].P >= 0 || got.Turns[0][0] == got.Turns[1][0]) {
		t.Errorf("ReachOf(%.60q): %v are alike, or not in order", place, got.Turns)
	}
}

func checkPair(t *testing.T, place [4]string, kind int, pair []impl.Turn) {
	t.Helper()
	if len(pair) != 2 || !isTurn(pair[0]) || !isTurn(pair[1]) {
		t.Errorf("ReachOf(%.60q): the pair %v", place, pair)
		return
	}
	end := wayOfTurn(pair[0]).by(rat(t, place[0])).add(wayOfTurn(pair[0]).mul(wayOfTurn(pair[1])).by(rat(t, place[1])))
	if !end.is(spot{rat(t, place[2]), rat(t, place[3])}) {
		t.Errorf("ReachOf(%.60q): the pair %v leads elsewhere", place, pair)
	}
	links := []string{place[0], place[1]}
	if spots, ok := impl.Ahead(links, pair); ok && (spots[1].X != place[2] || spots[1].Y != place[3]) {
		t.Errorf("ReachOf(%.60q): the pair %v leads to %.60q by Ahead", place, pair, fmt.Sprint(spots))
	}
	if flat, ok := impl.Singular(links, pair); ok && flat != (kind == impl.ReachOne) {
		t.Errorf("ReachOf(%.60q): the pair %v is singular: %v", place, pair, flat)
	}
}

func TestReachOfSmallPlaces(t *testing.T) {
	lengths := []string{"1", "2", "3", "1/2", "5", "13"}
	for _, first := range lengths {
		for _, second := range lengths {
			for x := -7; x <= 7; x++ {
				for y := -7; y <= 7; y++ {
					checkReach(t, [4]string{first, second, fmt.Sprint(x), fmt.Sprint(y)})
					checkReach(t, [4]string{first, second, big.NewRat(int64(x), 5).RatString(), big.NewRat(int64(y), 5).RatString()})
				}
			}
		}
	}
	r := rand.New(rand.NewSource(77))
	for range 300 {
		checkReach(t, [4]string{drawnLength(r, 2), drawnLength(r, 2), randomFrac(r, 2), randomFrac(r, 2)})
		checkReach(t, [4]string{drawnLength(r, 90), drawnLength(r, 90), randomFrac(r, 90), randomFrac(r, 90)})
	}
	for range 10 {
		checkReach(t, [4]string{drawnLength(r, 400), drawnLength(r, 400), randomFrac(r, 400), randomFrac(r, 400)})
	}
}

// checkBackFrom goes ahead along two directions, and asks for the ways there: those two, and of two branches the other one, which is the first as seen in a mirror that lies along the place.
func checkBackFrom(t *testing.T, first string, second string, one spot, bend spot) impl.Branches {
	t.Helper()
	to := one.by(rat(t, first)).add(one.mul(bend).by(rat(t, second)))
	place := [4]string{first, second, textOf(to.re), textOf(to.im)}
	if place[2] == "" || place[3] == "" || to.square().Sign() == 0 {
		checkReach(t, place)
		return impl.Branches{}
	}
	other := to.mul(to).by(new(big.Rat).Inv(to.square())).mul(one.mirrored())
	ways := [][2]spot{{one, bend}, {other, bend.mirrored()}}
	if bend.im.Sign() < 0 {
		slices.Reverse(ways)
	}
	want := impl.Branches{Kind: impl.ReachTwo}
	if bend.im.Sign() == 0 {
		want.Kind, ways = impl.ReachOne, ways[:1]
	}
	for _, w := range ways {
		pair := []impl.Turn{turnFor(w[0]), turnFor(w[1])}
		if slices.Contains(pair, impl.Turn{}) {
			checkBranches(t, place, impl.Branches{}, false)
			return impl.Branches{}
		}
		want.Turns = append(want.Turns, pair)
	}
	checkBranches(t, place, want, true)
	checkReach(t, place)
	return want
}

// Whatever two turns lead to a place, they are told there.
func TestReachTellsTheTurnsThatLedThere(t *testing.T) {
	r := rand.New(rand.NewSource(78))
	for _, a := range edgeTurns() {
		for _, b := range edgeTurns() {
			for _, links := range [][2]string{{"1", "1"}, {"2", "1/3"}, {"1", "5"}} {
				checkBackFrom(t, links[0], links[1], wayOfTurn(a), wayOfTurn(b))
			}
		}
	}
	found := 0
	for range 400 {
		one, bend := wayOfTurn(drawnTurn(r, 9)), wayOfTurn(drawnTurn(r, 9))
		if checkBackFrom(t, drawnLength(r, 1), drawnLength(r, 1), one, bend).Kind == impl.ReachTwo {
			found++
		}
		checkBackFrom(t, drawnLength(r, 300), drawnLength(r, 60), one, bend)
		checkBackFrom(t, drawnLength(r, 2), drawnLength(r, 2), wayOfTurn(drawnTurn(r, mostTurn)), bend)
	}
	if found < 100 {
		t.Errorf("only %d of the drawn places have two branches", found)
	}
	smallTurns(3, func(a impl.Turn) {
		smallTurns(3, func(b impl.Turn) {
			if isTurn(a) && isTurn(b) {
				checkBackFrom(t, "2", "3/2", wayOfTurn(a), wayOfTurn(b))
				checkBackFrom(t, "1", "1", wayOfTurn(a), wayOfTurn(b))
			}
		})
	})
}

// The first turn, the second one, or that of the other branch alone is beyond the limit; and the last ones that are not.
func TestReachWhoseTurnsAreBeyondTheLimit(t *testing.T) {
	over, edge, third := wayOf(1, mostTurn+1), wayOf(1, mostTurn), wayOf(1, 1002)
	one, beyondInt := big.NewRat(1, 1), plus(power(64), big.NewRat(1, 1))
	for _, c := range []struct {
		what   string
		links  [2]string
		one    spot
		bend   spot
		branch int
	}{
		{"the first one over", [2]string{"2", "1"}, over, wayOfTurn(straight), 0},
		{"the first one over, folded", [2]string{"2", "1"}, over, wayOfTurn(around), 0},
		{"the first one over, of two", [2]string{"2", "1"}, over, wayOfTurn(quarter), 0},
		{"the first one over, of two to the other side", [2]string{"2", "1"}, over.mirrored(), wayOf(-1, 2), 0},
		{"the second one over", [2]string{"2", "1"}, wayOfTurn(straight), over, 0},
		{"the second one over, below 0", [2]string{"2", "1"}, wayOfTurn(quarter), over.mirrored(), 0},
		{"the second one nearly half of all round", [2]string{"2", "1"}, wayOfTurn(quarter), wayOf(mostTurn+1, 1), 0},
		{"by far", [2]string{"2", "1"}, wayOf(1, 1<<40), wayOf(1, 1<<41), 0},
		{"at the limit", [2]string{"2", "1"}, edge, wayOfTurn(straight), impl.ReachOne},
		{"at the limit, folded", [2]string{"2", "1"}, edge.mirrored(), wayOfTurn(around), impl.ReachOne},
		{"at the limit, nearly half of all round", [2]string{"2", "1"}, wayOf(-mostTurn, 1), wayOfTurn(straight), impl.ReachOne},
		// With links alike the other branch begins where this one's second link goes along.
		{"the second one at the limit", [2]string{"1", "1"}, wayOfTurn(straight), edge, impl.ReachTwo},
		{"the second one at the limit, below 0", [2]string{"1", "1"}, edge, edge.mirrored(), impl.ReachTwo},
		{"the other branch alone over", [2]string{"1", "1"}, third, third, 0},
		{"the other branch alone over, the second", [2]string{"1", "1"}, third.mirrored(), third.mirrored(), 0},
		{"the second ones alone over", [2]string{"1", "1"}, third.mirrored(), third.mul(third), 0},
		// Cut off to 64 bits, these would be good turns.
		{"an upper number beyond int", [2]string{"2", "1"}, wayAlong(beyondInt, one), wayOfTurn(straight), 0},
		{"a lower number beyond int", [2]string{"2", "1"}, wayAlong(one, beyondInt), wayOfTurn(straight), 0},
		{"both numbers beyond int", [2]string{"2", "1"}, wayAlong(beyondInt, plus(beyondInt, one)), wayOfTurn(straight), 0},
		{"an upper number beyond int, the second one's", [2]string{"2", "1"}, wayOfTurn(straight), wayAlong(beyondInt, one), 0},
	} {
		if got := checkBackFrom(t, c.links[0], c.links[1], c.one, c.bend); got.Kind != c.branch {
			t.Errorf("%s: %v", c.what, got)
		}
	}
}

// The cosine at 1 and at -1, and by next to nothing beyond both or within.
func TestReachAtItsEnds(t *testing.T) {
	tiny := "1/" + tenTo(150)
	for _, c := range []struct {
		place [4]string
		kind  int
	}{
		{[4]string{"3", "2", "5", "0"}, impl.ReachOne}, {[4]string{"3", "2", "1", "0"}, impl.ReachOne}, {[4]string{"2", "3", "0", "1"}, impl.ReachOne}, {[4]string{"2", "3", "-3", "4"}, impl.ReachOne},
		{[4]string{"3", "2", impl.AddFrac("5", tiny), "0"}, impl.ReachNone}, {[4]string{"3", "2", "5", tiny}, impl.ReachNone}, {[4]string{"3", "2", "5", "-" + tiny}, impl.ReachNone}, {[4]string{"3", impl.SubFrac("2", tiny), "5", "0"}, impl.ReachNone},
		{[4]string{"3", "2", impl.SubFrac("1", tiny), "0"}, impl.ReachNone}, {[4]string{"2", "3", impl.SubFrac("1", tiny), "0"}, impl.ReachNone}, {[4]string{impl.AddFrac("3", tiny), "2", "-1", "0"}, impl.ReachNone},
		{[4]string{"3", "2", impl.SubFrac("5", tiny), "0"}, impl.ReachRoot}, {[4]string{"3", "2", "1", tiny}, impl.ReachRoot}, {[4]string{"3", impl.AddFrac("2", tiny), "0", "5"}, impl.ReachRoot},
		{[4]string{"1", "1", tiny, "0"}, impl.ReachRoot}, {[4]string{"1", impl.AddFrac("1", tiny), "0", "0"}, impl.ReachNone},
		{[4]string{"3", "2", nines(400), "0"}, impl.ReachNone}, {[4]string{nines(400), nines(400), "1", "-1"}, impl.ReachRoot}, {[4]string{nines(400), nines(400), "0", "0"}, impl.ReachAll}, {[4]string{"1/" + nines(400), "1", "0", "0"}, impl.ReachNone},
		{[4]string{tenTo(399), "1", nines(398) + "8", "0"}, impl.ReachNone}, {[4]string{tenTo(399), "1", tenTo(399)[:399] + "2", "0"}, impl.ReachNone},
	} {
		if got, ok := impl.ReachOf(c.place[0], c.place[1], c.place[2], c.place[3]); got.Kind != c.kind || !ok {
			t.Errorf("ReachOf(%.60q): %v %v", c.place, got, ok)
		}
		checkReach(t, c.place)
	}
	// Long links end at places of 400 digits.
	checkBranches(t, [4]string{nines(399), "1", tenTo(399), "0"}, impl.Branches{Kind: impl.ReachOne, Turns: [][]impl.Turn{{straight, straight}}}, true)
	checkBranches(t, [4]string{tenTo(399), "1", nines(399), "0"}, impl.Branches{Kind: impl.ReachOne, Turns: [][]impl.Turn{{straight, around}}}, true)
	checkBranches(t, [4]string{nines(400), nines(400), "-" + nines(400), nines(400)}, impl.Branches{Kind: impl.ReachTwo, Turns: [][]impl.Turn{{quarter, quarter}, {around, {P: -1, Q: 1}}}}, true)
	checkBranches(t, [4]string{"1/" + nines(400), "1/" + nines(400), "1/" + nines(400), "-1/" + nines(400)}, impl.Branches{Kind: impl.ReachTwo, Turns: [][]impl.Turn{{{P: -1, Q: 1}, quarter}, {straight, {P: -1, Q: 1}}}}, true)
}

// Links of 0 or below, and texts that are no good fractions, in each place.
func TestReachOfWrongTexts(t *testing.T) {
	for _, good := range [][4]string{{"1", "1", "1", "1"}, {"1", "1", "0", "0"}, {"3", "2", "9", "9"}, {"1", "1", "2", "0"}} {
		for at := range good {
			for _, s := range append([]string{"0", "-1", "-1/2", "-" + nines(400)}, wrongTexts()...) {
				place := good
				place[at] = s
				checkReach(t, place)
				if at < 2 || !isFrac(s) {
					checkBranches(t, place, impl.Branches{}, false)
				}
			}
		}
	}
	checkBranches(t, [4]string{}, impl.Branches{}, false)
	checkBranches(t, [4]string{"0", "0", "0", "0"}, impl.Branches{}, false)
	checkBranches(t, [4]string{"-1", "-1", "0", "0"}, impl.Branches{}, false)
	checkBranches(t, [4]string{"-1", "-1", "1", "1"}, impl.Branches{}, false)
}
