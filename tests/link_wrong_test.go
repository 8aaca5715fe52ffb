package tests

import (
	"math/rand"
	"slices"
	"strings"
	"sync"
	"testing"

	"loop.example/g00047/impl"
)

func TestWrongTurnsHaveTheZeroAnswer(t *testing.T) {
	for _, wrong := range wrongTurns() {
		checkOneTurn(t, wrong)
		for _, good := range edgeTurns() {
			checkJoined(t, wrong, good, impl.Turn{})
			checkJoined(t, good, wrong, impl.Turn{})
		}
		// Two that are wrong, and whose joined one would be good by wrapping round or by a common divisor.
		for _, other := range wrongTurns() {
			checkJoined(t, wrong, other, impl.Turn{})
		}
	}
}

func TestTurnOfWrongTexts(t *testing.T) {
	for _, s := range wrongTexts() {
		for _, c := range [][2]string{{s, "0"}, {s, "1"}, {"0", s}, {"1", s}, {"-1", s}, {s, s}, {"3/5", s}, {s, "4/5"}, {s, ""}} {
			if got, ok := impl.TurnOf(c[0], c[1]); got != (impl.Turn{}) || ok {
				t.Errorf("TurnOf(%.40q, %.40q): %v %v", c[0], c[1], got, ok)
			}
		}
	}
	// The numbers are those of a turn, but one is written in another way.
	for _, c := range [][2]string{{"1", "-0"}, {"1", "0/1"}, {"1", "00"}, {"1/1", "0"}, {"01", "0"}, {"-1/1", "0"}, {"-1", "-0"}, {"6/10", "4/5"}, {"3/5", "8/10"}, {"-0", "1"}, {"0", "+1"}, {"0", "5/5"}, {"0/5", "-1"}} {
		if got, ok := impl.TurnOf(c[0], c[1]); got != (impl.Turn{}) || ok {
			t.Errorf("TurnOf(%q, %q): %v %v", c[0], c[1], got, ok)
		}
	}
}

func sameText(a string, b string) bool { return a == b }

func sameTurn(a impl.Turn, b impl.Turn) bool { return a == b }

// What lies behind the links and the turns counts for nothing and stays, as the lists do.
func TestWhatLiesBehindAnArm(t *testing.T) {
	r := rand.New(rand.NewSource(79))
	moreLinks, moreTurns := []string{"x", "1", "-2", "1", "1", "1", "1"}, []impl.Turn{{}, straight, {P: 2, Q: 2}, quarter, around}
	for n := range mostLinks + 2 {
		for range 5 {
			links, turns := drawnLinks(r, n, 9), drawnTurns(r, n, 5)
			handedLinks, handedTurns := behind(links, moreLinks...), behind(turns, moreTurns...)
			checkArm(t, handedLinks, handedTurns)
			checkArm(t, handedLinks, turns)
			checkArm(t, links, handedTurns)
			if !kept(handedLinks, links, sameText, moreLinks...) || !kept(handedTurns, turns, sameTurn, moreTurns...) {
				t.Errorf("a list was changed: %v and %v", handedLinks, handedTurns)
			}
			// Cut off they are no arm, whatever would lie behind.
			if n > 0 {
				checkNoArm(t, "fewer turns", handedLinks, handedTurns[:n-1])
				checkNoArm(t, "fewer links", handedLinks[:n-1], handedTurns)
			}
			checkNoArm(t, "more turns", handedLinks, handedTurns[:n+1])
			checkNoArm(t, "more links", handedLinks[:n+1], handedTurns)
		}
	}
}

// spoil writes over all of a list's memory, and behind its end where there is any.
func spoil[T any](l []T, with T) {
	all := l[:cap(l)]
	for i := range all {
		all[i] = with
	}
	_ = append(l, with)
}

// Whoever writes into an answer changes nothing else: no other list of it, no later answer, no argument.
func TestArmAnswersAreNewMemory(t *testing.T) {
	links, turns := []string{"1", "2", "3"}, []impl.Turn{{P: 1, Q: 2}, quarter, {P: -1, Q: 3}}
	for range 3 {
		spots, _ := impl.Ahead(links, turns)
		rows, _ := impl.Leverage(links, turns)
		below := slices.Clone(rows[1])
		spoil(spots, impl.Spot{X: "x"})
		spoil(rows[0], "x")
		if !slices.Equal(rows[1], below) {
			t.Fatal("the rows of Leverage share memory:", rows)
		}
		spoil(rows[1], "x")
		spoil(rows, nil)
		checkArm(t, links, turns)
		if !slices.Equal(links, []string{"1", "2", "3"}) || !slices.Equal(turns, []impl.Turn{{P: 1, Q: 2}, quarter, {P: -1, Q: 3}}) {
			t.Fatal("an argument was changed:", links, turns)
		}
	}
	want := [][]impl.Turn{{straight, quarter}, {quarter, {P: -1, Q: 1}}}
	for range 3 {
		b, _ := impl.ReachOf("1", "1", "1", "1")
		other, _ := impl.ReachOf("1", "1", "1", "1")
		spoil(b.Turns[0], impl.Turn{P: 7})
		if !slices.Equal(b.Turns[1], want[1]) {
			t.Fatal("the pairs of ReachOf share memory:", b)
		}
		spoil(b.Turns[1], impl.Turn{P: 7})
		spoil(b.Turns, nil)
		if !sameBranches(other, impl.Branches{Kind: impl.ReachTwo, Turns: want}) {
			t.Fatal("two answers of ReachOf share memory:", other)
		}
	}
}

// The same call has the same answer every time, many at once too.
func TestArmAnswersAreTheSameEveryTime(t *testing.T) {
	r := rand.New(rand.NewSource(80))
	links, turns := drawnLinks(r, mostLinks, 20), drawnTurns(r, mostLinks, 5)
	spots, okSpots := impl.Ahead(links, turns)
	rows, okRows := impl.Leverage(links, turns)
	flat, okFlat := impl.Singular(links, turns)
	reach, okReach := impl.ReachOf("2", "1", "2", "1")
	if !okSpots || !okRows || !okFlat || !okReach {
		t.Fatal("no arm:", links, turns)
	}
	var all sync.WaitGroup
	for range 8 {
		all.Go(func() {
			for range 50 {
				gotSpots, _ := impl.Ahead(links, turns)
				gotRows, _ := impl.Leverage(links, turns)
				gotFlat, _ := impl.Singular(links, turns)
				gotReach, _ := impl.ReachOf("2", "1", "2", "1")
				if !slices.Equal(gotSpots, spots) || !sameRows(gotRows, rows) || gotFlat != flat || !sameBranches(gotReach, reach) || impl.JoinTurn(quarter, around) != (impl.Turn{P: -1, Q: 1}) {
					t.Error("another answer")
				}
			}
		})
	}
	all.Wait()
}

// FuzzLinks asks every function of any numbers and texts; the links stand in one text, with bars between.
func FuzzLinks(f *testing.F) {
	for _, turn := range append(edgeTurns(), wrongTurns()...) {
		f.Add(turn.P, turn.Q, 1, 2, "1|2", "3/2", "-1")
		f.Add(1, 1000, turn.P, turn.Q, "2|1/3|4", "0", "2")
	}
	for _, s := range append(goodTexts(), "", "-0", "1/0", "2/4") {
		f.Add(1, 1, -1, 2, s+"|"+s, "1", "1")
		f.Add(1, 2, 1, 0, "3/5|4/5|1|1|1|1", s, s)
		f.Add(0, 1, 1, 3, "5|5", s, "0")
	}
	f.Add(1, 1, 1, 2, "1|1|1|1|1|1|1", "3/5", "4/5")
	f.Fuzz(func(t *testing.T, p int, q int, u int, v int, bars string, x string, y string) {
		a, b := impl.Turn{P: p, Q: q}, impl.Turn{P: u, Q: v}
		checkOneTurn(t, a)
		checkOneTurn(t, b)
		if isTurn(a) && isTurn(b) {
			checkJoining(t, a, b)
		} else {
			checkJoined(t, a, b, impl.Turn{})
			checkJoined(t, b, a, impl.Turn{})
		}
		turn, ok := impl.TurnOf(x, y)
		if cos, sin := impl.CosSin(turn); ok != isTurn(turn) || ok && (cos != x || sin != y) || !ok && turn != (impl.Turn{}) {
			t.Errorf("TurnOf(%.60q, %.60q): %v %v", x, y, turn, ok)
		}
		links := strings.Split(bars, "|")
		links = links[:min(len(links), mostLinks+2)]
		checkArm(t, links, slices.Repeat([]impl.Turn{a, b}, mostLinks)[:len(links)])
		checkArm(t, links, []impl.Turn{a, b})
		checkReach(t, [4]string{links[0], links[len(links)-1], x, y})
		if isTurn(a) && isTurn(b) && isLength(links[0]) && isLength(links[len(links)-1]) {
			checkBackFrom(t, links[0], links[len(links)-1], wayOfTurn(a), wayOfTurn(b))
		}
	})
}
