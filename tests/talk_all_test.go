package tests

import (
	"math/rand"
	"slices"
	"testing"

	"loop.example/g00047/impl"
)

func TestTalks(t *testing.T) {
	for _, c := range []struct {
		words       string
		window      int
		there, back string
		ticks       int
		got         string
		spent       int
		done        bool
	}{
		// No words are all acked at once.
		{"", 1, "f", "f", 0, "", 0, true}, {"", 10, "x", "x", 400, "", 0, true},
		{"7", 1, "f", "f", 0, "", 0, false}, {"7", 1, "f", "f", 1, "7", 1, true}, {"7", 1, "f", "f", 400, "7", 1, true}, {"7", 10, "f", "f", 400, "7", 1, true},
		{"4 5 6", 1, "f", "f", 2, "4 5", 2, false}, {"4 5 6", 1, "f", "f", 3, "4 5 6", 3, true}, {"4 5 6", 2, "f", "f", 50, "4 5 6", 4, true}, {"4 5 6", 2, "fx2", "f", 50, "4 5 6", 4, true},
		// Each fate alone.
		{"4 5", 2, "f", "f", 6, "4 5", 2, true}, {"4 5", 2, "x", "f", 6, "", 6, false}, {"4 5", 2, "2", "f", 6, "4 5", 2, true}, {"4 5", 2, "l", "f", 6, "4 5", 3, true},
		{"4 5", 2, "f", "x", 6, "4 5", 6, false}, {"4 5", 2, "x", "x", 6, "", 6, false}, {"4 5", 2, "2", "x", 6, "4 5", 6, false}, {"4 5", 2, "l", "x", 6, "4 5", 6, false},
		{"4 5", 2, "f", "2", 6, "4 5", 2, true}, {"4 5", 2, "x", "2", 6, "", 6, false}, {"4 5", 2, "2", "2", 6, "4 5", 2, true}, {"4 5", 2, "l", "2", 6, "4 5", 3, true},
		{"4 5", 2, "f", "l", 6, "4 5", 2, true}, {"4 5", 2, "x", "l", 6, "", 6, false}, {"4 5", 2, "2", "l", 6, "4 5", 2, true}, {"4 5", 2, "l", "l", 6, "4 5", 3, true},
		// Where nothing is known to have arrived, nothing beyond the window goes out.
		{"4 5 6", 1, "f", "x", 400, "4", 400, false}, {"4 5 6", 2, "f", "x", 400, "4 5", 400, false}, {"4 5 6", 3, "f", "x", 400, "4 5 6", 400, false},
		// What is late from the tick ahead arrives first: 4, and only then 5.
		{"4 5", 2, "lf", "f", 2, "4 5", 2, true}, {"4 5", 2, "l2", "f", 2, "4 5", 2, true}, {"4 5", 2, "lx", "f", 2, "4", 2, false}, {"4 5", 2, "ll", "f", 2, "4", 2, false}, {"4 5", 2, "ll", "f", 3, "4 5", 3, true},
		// At the next tick, not sooner and not later; behind the last tick there is none.
		{"7", 1, "l", "f", 1, "", 1, false}, {"7", 1, "l", "f", 2, "7", 2, true}, {"7", 1, "lx", "f", 2, "7", 2, true}, {"7", 1, "xl", "f", 2, "", 2, false}, {"7", 1, "xl", "f", 3, "7", 3, true},
		// An ack that is late counts ahead of the next tick, and behind the last one.
		{"7", 1, "f", "l", 1, "7", 1, true}, {"7", 1, "f", "l", 2, "7", 1, true}, {"7", 1, "f", "l", 400, "7", 1, true}, {"4 5", 1, "f", "l", 1, "4", 1, false}, {"4 5", 1, "f", "l", 2, "4 5", 2, true}, {"4 5", 1, "f", "lx", 2, "4 5", 2, false}, {"4 5", 1, "f", "xl", 2, "4", 2, false}, {"4 5", 1, "f", "xl", 3, "4 5", 3, false}, {"4 5", 1, "f", "xl", 4, "4 5", 4, true},
		// An ack that is lost is made up for by the next one.
		{"7", 1, "f", "xf", 1, "7", 1, false}, {"7", 1, "f", "xf", 2, "7", 2, true}, {"4 5", 2, "f", "xf", 2, "4 5", 2, true}, {"7", 1, "fx", "xf", 400, "7", 2, true},
		// Lists go round by themselves, each with its own length.
		{"4 5", 1, "xxf", "f", 6, "4 5", 6, true}, {"4 5", 1, "xxf", "fx", 400, "4 5", 7, true},
	} {
		in := talk{listOf(c.words), c.window, fatesOf(c.there), fatesOf(c.back), c.ticks}
		want := impl.Talked{Got: listOf(c.got), Sends: c.spent, Ticks: c.spent, Done: c.done}
		if got := in.check(t); !sameTalked(got, want) {
			t.Errorf("TalkAll of %+v: %+v, want %+v", c, got, want)
		}
	}
}

// fateLists are all lists of one up to most fates.
func fateLists(most int) [][]int { return listsUpTo(most, 0, 1, 2, 3)[1:] }

// All lists of up to two fates there and back, with a few words, windows and ticks.
func TestAllShortTalks(t *testing.T) {
	lists := fateLists(2)
	for _, there := range lists {
		for _, back := range lists {
			for many := range 5 {
				for window := 1; window <= 4; window++ {
					for ticks := range 10 {
						talk{countUp(5, many), window, there, back, ticks}.check(t)
					}
				}
			}
		}
	}
}

// All lists of three fates there and back, until there have been enough ticks for each fate to meet each other one.
func TestAllTalksOfThreeFates(t *testing.T) {
	lists := fateLists(3)[20:]
	for _, there := range lists {
		for _, back := range lists {
			for window := 1; window <= 3; window++ {
				talk{[]int{8, 8, 9}, window, there, back, 12}.check(t)
			}
			talk{[]int{8, 9}, 2, there, back, 3}.check(t)
		}
	}
}

// All lists of five fates there, each back alone.
func TestAllTalksOfFiveFates(t *testing.T) {
	for _, there := range fateLists(5)[340:] {
		for _, back := range [][]int{{impl.FateFine}, {impl.FateLate, impl.FateLost}} {
			talk{[]int{1, 2, 3}, 2, there, back, 10}.check(t)
			talk{[]int{1, 2, 3, 4, 5}, 3, there, back, 5}.check(t)
		}
	}
}

// Drawn talks up to every limit; the same tick by tick by SendNext and TakeParcels.
func TestDrawnTalks(t *testing.T) {
	r := rand.New(rand.NewSource(427))
	done, not := 0, 0
	for range 3000 {
		c := drawnTalk(r, []string{"fx2l", "ffffx2l", "xxxl2f", "xl"}[r.Intn(4)])
		got := c.check(t)
		if got.Done {
			done++
		} else {
			not++
		}
		sender, have, late := impl.Sender{Words: c.words}, []int{}, []impl.Parcel{}
		for tick := range got.Ticks {
			parcel, next, ok := checkNext(t, sender, c.window)
			if !ok {
				t.Fatalf("nothing to send at the tick %d: %+v", tick, c)
			}
			arrive := late
			late, sender = nil, next
			switch c.there[tick%len(c.there)] {
			case impl.FateFine:
				arrive = append(arrive, parcel)
			case impl.FateTwice:
				arrive = append(arrive, parcel, parcel)
			case impl.FateLate:
				late = []impl.Parcel{parcel}
			}
			have = checkTake(t, have, arrive)
			if c.back[tick%len(c.back)] != impl.FateLost {
				sender.Acked = max(sender.Acked, len(have))
			}
		}
		if !slices.Equal(have, got.Got) || got.Done != (sender.Acked == len(c.words)) || !got.Done && got.Ticks != c.ticks {
			t.Fatalf("TalkAll of %+v: %+v, tick by tick %v and %+v", c, got, have, sender)
		}
	}
	if done < 500 || not < 500 {
		t.Error("done and not:", done, not)
	}
}

// More ticks go on from where fewer ended: what arrived stays, and who is done stays so, at the same tick.
func TestTalksGoOn(t *testing.T) {
	r := rand.New(rand.NewSource(428))
	for range 150 {
		c := drawnTalk(r, "ffx2l")
		before := impl.Talked{}
		for c.ticks = range 120 {
			now := c.check(t)
			if len(now.Got) < len(before.Got) || before.Done && !sameTalked(now, before) || !now.Done && now.Ticks != c.ticks || now.Sends != now.Ticks {
				t.Fatalf("TalkAll of %+v: %+v, a tick sooner %+v", c, now, before)
			}
			before = now
		}
	}
}

// Where nothing is lost all is done in time: a word's turn comes within as many ticks as are open, and it is late by one tick at most.
func TestTalksWithoutLossAreDone(t *testing.T) {
	r := rand.New(rand.NewSource(429))
	for many := range mostWords + 1 {
		for window := 1; window <= deepest; window++ {
			for _, among := range []string{"f", "2", "l", "fl", "f2l", "fffl"} {
				there, back := drawnFates(r, 1+r.Intn(mostFated), among), drawnFates(r, 1+r.Intn(mostFated), "f2l")
				c := talk{drawnWords(r, many), window, there, back, many * (window + 1)}
				if got := c.check(t); !got.Done || !slices.Equal(got.Got, c.words) {
					t.Fatalf("TalkAll of %+v: %+v", c, got)
				}
				c.ticks = lastTick
				c.check(t)
			}
			// With a window of one all goes straight on.
			fine := talk{countUp(0, many), 1, fatesOf("f"), fatesOf("f2l"), many}
			if got := fine.check(t); !got.Done || got.Ticks != many {
				t.Fatalf("TalkAll of %+v: %+v", fine, got)
			}
			if many > 0 {
				fine.ticks--
				if got := fine.check(t); got.Done || len(got.Got) != many-1 {
					t.Fatalf("TalkAll of %+v: %+v", fine, got)
				}
			}
		}
	}
}

// The greatest numbers of everything, at their limits and one beyond.
func TestTheLongestTalks(t *testing.T) {
	for _, among := range []string{"f", "x", "2", "l", "fx2l", "xxxxxxxf", "lx", "xxl2"} {
		for window := -1; window <= deepest+2; window++ {
			for _, many := range []int{0, 1, 29, 30, 31} {
				for _, long := range []int{0, 1, 59, 60, 61} {
					for _, ticks := range []int{-1, 0, 1, 399, 400, 401} {
						fates := slices.Repeat(fatesOf(among), 61)[:long]
						c := talk{countUp(-3, many), window, fates, fatesOf("fxl"), ticks}
						c.check(t)
						c.there, c.back = c.back, c.there
						c.check(t)
					}
				}
			}
		}
	}
	// The last of 60 fates decides.
	fates := append(slices.Repeat(fatesOf("x"), 59), impl.FateFine)
	for ticks := 58; ticks < 63; ticks++ {
		got := talk{[]int{7}, 1, fates, fatesOf("f"), ticks}.check(t)
		back := talk{[]int{7}, 1, fatesOf("f"), fates, ticks}.check(t)
		if got.Done != (ticks >= 60) || back.Done != (ticks >= 60) || got.Ticks != min(ticks, 60) || back.Ticks != min(ticks, 60) {
			t.Errorf("%d ticks: %+v %+v", ticks, got, back)
		}
	}
	if c := (talk{countUp(0, 30), 10, fatesOf("xf"), fatesOf("f"), 400}); !c.good() {
		t.Errorf("%+v is not good", c)
	}
}

// Words that are alike are told apart by their place alone.
func TestTalksOfLikeWords(t *testing.T) {
	r := rand.New(rand.NewSource(430))
	for range 300 {
		c := drawnTalk(r, "ffx2l")
		c.words = slices.Repeat([]int{7}, len(c.words))
		c.check(t)
		c.words = countUp(0, len(c.words))
		c.check(t)
	}
}
