package tests

import (
	"math/rand"
	"slices"
	"testing"

	"loop.example/g00047/impl"
)

func TestRunBusByHand(t *testing.T) {
	for _, c := range []struct {
		talkers string
		rounds  int
		window  int
		spoilt  string
		sent    string
		end     string
	}{
		// Nobody, no round, nothing to say.
		{"", 0, 1, "", "", ""}, {"", 40, 20, "0 1 2", "", ""}, {"5/1", 0, 1, "0", "", "5/1"}, {"/1 /10+254 /3+255", 9, 2, "0 1", "", "/1 /10+254 /3+255"},
		// One that talks on and on.
		{"5/1", 1, 1, "", "0:0=5", "/1"}, {"5/1", 3, 1, "", "0:0=5", "/1"}, {"5,4,6/1", 3, 1, "", "0:0=5 1:0=4 2:0=6", "/1"}, {"5,4,6/1", 2, 1, "", "0:0=5 1:0=4", "6/1"},
		// The least id of those that stand first talks; of several the first talker.
		{"5/9 3/9 4/9", 9, 20, "", "0:1=3 1:2=4 2:0=5", "/9 /9 /9"}, {"9,1/9 8,2/9", 9, 20, "", "0:1=8 1:1=2 2:0=9 3:0=1", "/9 /9"}, {"7,7/9 7/9 7/9", 9, 20, "", "0:0=7 1:0=7 2:1=7 3:2=7", "/9 /9 /9"}, {"7/9 7,7/9 6/9", 9, 20, "", "0:2=6 1:0=7 2:1=7 3:1=7", "/9 /9 /9"},
		{"2047/1 0/1", 2, 9, "", "0:1=0 1:0=2047", "/1 /1"},
		// A share is used up; a new window begins anew.
		{"1,1,1/1 7,7/1", 6, 3, "", "0:0=1 1:1=7 3:0=1 4:1=7", "1/1 /1"}, {"1,1,1/2 7,7/1", 6, 3, "", "0:0=1 1:0=1 2:1=7 3:0=1 4:1=7", "/2 /1"}, {"1,1,1,1/1", 8, 4, "", "0:0=1 4:0=1", "1,1/1"}, {"1,1,1,1/3", 8, 4, "", "0:0=1 1:0=1 2:0=1 4:0=1", "/3"}, {"1,1,1/10 2/1", 4, 1, "", "0:0=1 1:0=1 2:0=1 3:1=2", "/10 /1"},
		// A window that rounds do not fill.
		{"1,1,1/1", 5, 4, "", "0:0=1 4:0=1", "1/1"}, {"1,1,1/1", 4, 4, "", "0:0=1", "1,1/1"}, {"1,1,1/1", 20, 20, "", "0:0=1", "1,1/1"}, {"1,1,1/1", 21, 20, "", "0:0=1 20:0=1", "1/1"}, {"1,1,1/1", 40, 20, "", "0:0=1 20:0=1", "1/1"},
		// A spoilt frame stays, counts in its share, and makes errors.
		{"1,1/1 7/1", 4, 2, "0", "0:0=1x 1:1=7 2:0=1", "1/1+7 /1"}, {"5/1", 3, 1, "0", "0:0=5x 1:0=5", "/1+7"}, {"5/1", 3, 1, "0 1", "0:0=5x 1:0=5x 2:0=5", "/1+15"}, {"5/2", 9, 4, "0 1", "0:0=5x 1:0=5x 4:0=5", "/2+15"}, {"5/2", 9, 4, "0 2", "0:0=5x 1:0=5", "/2+7"},
		// Numbers of spoilt rounds: any, in any order, twice the same.
		{"5,5/1", 3, 1, "1 1 1", "0:0=5 1:0=5x 2:0=5", "/1+7"}, {"5,5/1", 2, 1, "-1 2 40 41 9999 -9223372036854775808 9223372036854775807", "0:0=5 1:0=5", "/1"}, {"5,5/1", 2, 1, "1 0", "0:0=5x 1:0=5x", "5,5/1+16"}, {"5/1 6/1", 4, 4, "3 2 1", "0:0=5 1:1=6x", "/1 6/1+8"},
		// Errors: 1 less by each frame that is sent, not below 0; 8 more by each that is spoilt, not above 255.
		{"5,5/1+1", 2, 1, "", "0:0=5 1:0=5", "/1"}, {"5/1+0", 1, 1, "", "0:0=5", "/1"}, {"5/1+254", 1, 1, "", "0:0=5", "/1+253"}, {"5/1+0", 1, 1, "0", "0:0=5x", "5/1+8"},
		{"5/1+246", 3, 1, "0", "0:0=5x 1:0=5", "/1+253"}, {"5/1+247", 3, 1, "0", "0:0=5x", "5/1+255"}, {"5/1+248", 3, 1, "0", "0:0=5x", "5/1+255"}, {"5/1+254", 3, 1, "0", "0:0=5x", "5/1+255"},
		// Off: it talks no more, and others do.
		{"5/1+255", 3, 1, "", "", "5/1+255"}, {"5/1+255 6/1", 3, 1, "0", "0:1=6x 1:1=6", "5/1+255 /1+7"}, {"5,5/9+250 6,6/9", 5, 9, "0", "0:0=5x 1:1=6 2:1=6", "5,5/9+255 /9"}, {"5,5/9+249 6,6/9", 5, 9, "1", "0:0=5 1:0=5x 2:1=6 3:1=6", "5/9+255 /9"},
		{"5,5/9+247 6,6/9", 5, 9, "1", "0:0=5 1:0=5x 2:0=5 3:1=6 4:1=6", "/9+253 /9"},
	} {
		b := line{talkersOf(c.talkers), c.rounds, c.window, listOf(c.spoilt)}
		sent, end, ok := impl.RunBus(b.l, b.rounds, b.window, b.spoilt)
		if !ok || !slices.Equal(sent, sentOf(c.sent)) || !sameTalkers(end, talkersOf(c.end)) {
			t.Errorf("RunBus of %q, %d, %d, %q: %v %v %v, want %q %q", c.talkers, c.rounds, c.window, c.spoilt, sent, end, ok, c.sent, c.end)
		}
		b.check(t)
	}
}

// fullTalker has as many frames as may be, with as many bytes.
func fullTalker(id int, share int) impl.Talker {
	o := impl.Talker{Share: share}
	for i := range mostQueued {
		o.Queue = append(o.Queue, impl.Frame{Id: id, Data: slices.Repeat([]byte{byte(16*id + i)}, mostCarried)})
	}
	return o
}

func fullTalkers(n int, share int) []impl.Talker {
	l := []impl.Talker{}
	for id := range n {
		l = append(l, fullTalker(id, share))
	}
	return l
}

// No talker, MaxTalkers and more.
func TestRunBusTalkers(t *testing.T) {
	for n := range 12 {
		b := line{fullTalkers(n, greatShare), mostTurns, 1, nil}
		sent, end, ok := b.check(t)
		if ok != (n <= 6) || ok && (len(sent) != min(8*n, 40) || len(end) != n) {
			t.Errorf("RunBus of %d talkers: %v %v %v", n, sent, end, ok)
		}
	}
}

// Rounds and windows at their limits and beyond.
func TestRunBusRoundsAndWindows(t *testing.T) {
	for _, rounds := range append([]int{-41, -2, -1, 0, 1, 2, 19, 20, 21, 39, 40, 41, 42, 80, 1 << 32, 1<<32 + 1, -1 << 32}, farInts...) {
		for _, window := range append([]int{-20, -2, -1, 0, 1, 2, 3, 19, 20, 21, 22, 40, 1 << 32, 1<<32 + 1, -1 << 32}, farInts...) {
			for n := range 3 {
				b := line{fullTalkers(n, 3), rounds, window, []int{1, 4}}
				if _, _, ok := b.check(t); ok != (0 <= rounds && rounds <= 40 && 1 <= window && window <= 20) {
					t.Errorf("RunBus of %d rounds, windows of %d: %v", rounds, window, ok)
				}
			}
		}
	}
}

// As many spoilt rounds as may be told, and one more, whatever their numbers are.
func TestRunBusSpoiltRounds(t *testing.T) {
	for _, n := range []int{0, 1, 2, 39, 40, 41, 42, 1000} {
		for _, round := range append([]int{0, 1, 5, 39, 40, 41, -1, 1 << 32, 1<<32 + 1}, farInts...) {
			b := line{fullTalkers(2, 5), mostTurns, 7, slices.Repeat([]int{round}, n)}
			sent, _, ok := b.check(t)
			if ok != (n <= 40) {
				t.Errorf("RunBus of %d spoilt rounds: %v", n, ok)
			}
			for _, s := range sent {
				if s.Good != (n == 0 || s.Round != round) {
					t.Errorf("RunBus with the spoilt round %d: %v", round, sent)
				}
			}
		}
	}
	// All rounds are spoilt: each talker is Off in the end, by 32 frames of its own at most.
	all := []int{}
	for round := range mostTurns {
		all = append(all, mostTurns-1-round)
	}
	sent, end, ok := line{fullTalkers(2, greatShare), mostTurns, 1, all}.check(t)
	if !ok || len(sent) != 40 || sent[31].Who != 0 || sent[32].Who != 1 || !end[0].Off || end[1].Off || end[1].Errors != 64 || len(end[0].Queue) != 8 {
		t.Errorf("RunBus with all rounds spoilt: %v %v %v", sent, end, ok)
	}
}

// Each Share with each window: in each window so many are sent at most, spoilt ones among them.
func TestRunBusShares(t *testing.T) {
	for share := -1; share <= 12; share++ {
		for window := 1; window <= widest; window++ {
			for _, spoilt := range [][]int{nil, {0, 1, 2, 3, 20, 21}, {5, 6, 7, 8, 9, 10, 11, 12}} {
				b := line{fullTalkers(1, share), mostTurns, window, spoilt}
				sent, _, ok := b.check(t)
				if ok != (1 <= share && share <= 10) {
					t.Errorf("RunBus of Share %d: %v", share, ok)
				}
				used := map[int]int{}
				for _, s := range sent {
					used[s.Round/window]++
				}
				for at, many := range used {
					if many > share {
						t.Errorf("RunBus of Share %d: %d frames in the window %d of %d", share, many, at, window)
					}
				}
			}
		}
	}
}

// Every number of Errors, with Off as it goes with them and as it does not; a frame that is sent, one that is spoilt.
func TestRunBusErrors(t *testing.T) {
	for errors := -3; errors <= 260; errors++ {
		for _, off := range []bool{false, true} {
			for _, spoilt := range [][]int{nil, {0}} {
				b := line{[]impl.Talker{{Queue: []impl.Frame{{Id: 9, Data: []byte{1}}}, Share: 1, Errors: errors, Off: off}}, 1, 1, spoilt}
				sent, end, ok := b.check(t)
				if ok != (0 <= errors && errors <= 255 && off == (errors == 255)) {
					t.Errorf("RunBus of %d Errors, Off %v: %v", errors, off, ok)
				}
				if !ok {
					continue
				}
				want := min(errors+8, 255)
				if spoilt == nil && !off {
					want = max(errors-1, 0)
				}
				if end[0].Errors != want || end[0].Off != (want == 255) || len(sent) == 0 != off {
					t.Errorf("RunBus of %d Errors, spoilt %v: %v %v", errors, spoilt, sent, end)
				}
			}
		}
	}
	for _, errors := range append([]int{1 << 32, 1<<32 + 255, -1 << 32, 256 + 255}, farInts...) {
		for _, off := range []bool{false, true} {
			b := line{[]impl.Talker{{Share: 1, Errors: errors, Off: off}}, 1, 1, nil}
			if _, _, ok := b.check(t); ok {
				t.Errorf("RunBus of %d Errors", errors)
			}
		}
	}
}

// Queues of every length, and frames in them that are not good.
func TestRunBusQueues(t *testing.T) {
	for n := range 12 {
		for who := range 3 {
			l := talkersOf("4/1 3,3/2 5/1")
			l[who].Queue = slices.Repeat([]impl.Frame{{Id: 7}}, n)
			b := line{l, 12, 2, []int{3}}
			if _, _, ok := b.check(t); ok != (n <= 8) {
				t.Errorf("RunBus of a queue of %d: %v", n, ok)
			}
		}
		for at := range min(n, mostQueued) {
			for _, f := range []impl.Frame{{Id: -1}, {Id: 2048}, {Data: make([]byte, 9)}, {Id: 5, Data: make([]byte, 300)}} {
				l := []impl.Talker{{Queue: slices.Repeat([]impl.Frame{{Id: 7}}, min(n, mostQueued)), Share: 1}}
				l[0].Queue[at] = f
				for _, rounds := range []int{0, 1, 40} {
					if _, _, ok := (line{l, rounds, 2, nil}).check(t); ok {
						t.Errorf("RunBus of a queue with %v", f)
					}
				}
			}
		}
	}
}

// A talker that goes Off in the middle talks no more, whatever it has still.
func TestRunBusOffInTheMiddle(t *testing.T) {
	for errors := 231; errors < 255; errors++ {
		l := append([]impl.Talker{fullTalker(1, greatShare)}, fullTalker(2, greatShare))
		l[0].Errors = errors
		b := line{l, mostTurns, widest, []int{2, 4, 6}}
		sent, end, ok := b.check(t)
		// Two, one and one were sent well ahead of each spoilt round.
		off := -1
		for i, round := range []int{2, 4, 6} {
			if off == -1 && errors+8*(i+1)-i-2 >= 255 {
				off = round
			}
		}
		for _, s := range sent {
			if s.Who == 0 && off >= 0 && s.Round > off {
				t.Errorf("RunBus of %d Errors: %v, Off at %d", errors, sent, off)
			}
		}
		if !ok || end[0].Off != (off >= 0) || end[1].Off || len(end[1].Queue) != 0 || off >= 0 && len(end[0].Queue) == 0 {
			t.Errorf("RunBus of %d Errors: %v %v", errors, sent, end)
		}
	}
}

// A babbler with the least id, whose frames are all spoilt, so that it always has something to say: in each window its share is its own, and the rest the others'.
func TestABabblerGetsItsShareAlone(t *testing.T) {
	for share := 1; share <= greatShare; share++ {
		for window := share; window <= widest; window++ {
			b := line{[]impl.Talker{fullTalker(0, share), fullTalker(7, greatShare), fullTalker(7, greatShare)}, mostTurns, window, nil}
			for round := range mostTurns {
				// By 31 spoilt frames it is not yet Off.
				if round%window < share && len(b.spoilt) < 31 {
					b.spoilt = append(b.spoilt, round)
				}
			}
			sent, end, ok := b.check(t)
			if !ok || end[0].Off {
				t.Fatalf("RunBus of %+v: %v %v", b, end, ok)
			}
			own, others := []int{}, 0
			for _, s := range sent {
				switch {
				case s.Round > b.spoilt[len(b.spoilt)-1]:
				case s.Who == 0:
					own = append(own, s.Round)
				default:
					others++
				}
			}
			rest := b.spoilt[len(b.spoilt)-1] + 1 - len(b.spoilt)
			if !slices.Equal(own, b.spoilt) || others != min(rest, 2*mostQueued) {
				t.Fatalf("RunBus of the Share %d in windows of %d: %v", share, window, sent)
			}
		}
	}
}

// The same where nothing is spoilt: a babbler with the least id can't keep another one from its share for longer than its own is.
func TestNobodyWaitsForLongerThanTheSharesAhead(t *testing.T) {
	for share := 1; share <= mostQueued; share++ {
		for window := 2*share + 1; window <= widest; window++ {
			sent, _, ok := line{[]impl.Talker{fullTalker(9, 1), fullTalker(0, share), fullTalker(1, share)}, mostTurns, window, nil}.check(t)
			if !ok || slices.IndexFunc(sent, func(s impl.Sent) bool { return s.Who == 0 }) != 2*share || sent[2*share].Round != 2*share {
				t.Errorf("RunBus of shares of %d in windows of %d: %v", share, window, sent)
			}
		}
	}
}

// A round in which nobody may talk is left out, and the next window goes on.
func TestRunBusRoundsWithNobody(t *testing.T) {
	for window := 3; window <= widest; window++ {
		sent, end, ok := line{talkersOf("1,1,1/1 2,2,2/1 3/1+255"), mostTurns, window, nil}.check(t)
		want := []impl.Sent{}
		for round := range mostTurns {
			if who := round % window; who < 2 && round/window < 3 {
				want = append(want, impl.Sent{Round: round, Who: who, Id: who + 1, Good: true})
			}
		}
		if !ok || !slices.Equal(sent, want) || len(end[2].Queue) != 1 {
			t.Errorf("RunBus in windows of %d: %v, want %v", window, sent, want)
		}
	}
}

// checkQueues: nothing is lost or made, and whoever talks may, with the least id of those that may.
func checkQueues(t *testing.T, b line, sent []impl.Sent, end []impl.Talker) {
	t.Helper()
	gone, last := make([]int, len(b.l)), -1
	for i, s := range sent {
		if s.Round <= last || s.Round >= b.rounds || s.Good == slices.Contains(b.spoilt, s.Round) || b.l[s.Who].Queue[gone[s.Who]].Id != s.Id {
			t.Fatalf("RunBus of %+v: %v at %d", b, sent, i)
		}
		last = s.Round
		if s.Good {
			gone[s.Who]++
		}
	}
	for who, o := range end {
		before := b.l[who]
		if !slices.EqualFunc(o.Queue, before.Queue[gone[who]:], sameFrame) || o.Share != before.Share || !isTalker(o) {
			t.Fatalf("RunBus of %+v: the end is %v behind %d frames", b, end, gone[who])
		}
	}
}

func TestRunBusDrawn(t *testing.T) {
	r := rand.New(rand.NewSource(411))
	off := 0
	for range 20000 {
		b := drawnLine(r)
		sent, end, ok := b.check(t)
		if ok != (len(b.spoilt) <= mostTurns) {
			t.Fatalf("RunBus of %+v: %v", b, ok)
		}
		if !ok {
			continue
		}
		checkQueues(t, b, sent, end)
		for i, o := range end {
			if o.Off && !b.l[i].Off {
				off++
			}
		}
		// What is left goes on from there, if a window ends there.
		if b.rounds%b.window == 0 {
			rest := line{end, mostTurns - b.rounds, b.window, nil}
			for _, round := range b.spoilt {
				rest.spoilt = append(rest.spoilt, round-b.rounds)
			}
			more, last, _ := rest.check(t)
			for i := range more {
				more[i].Round += b.rounds
			}
			whole, finish, _ := line{b.l, mostTurns, b.window, b.spoilt}.check(t)
			if !slices.Equal(whole, append(sent, more...)) || !sameTalkers(finish, last) {
				t.Fatalf("RunBus of %+v does not go on: %v and %v, at once %v", b, sent, more, whole)
			}
		}
	}
	if off < 100 {
		t.Errorf("only %d talkers went Off", off)
	}
}

// Two talkers with all queues of up to two small ids, small shares and windows, and every set of spoilt rounds.
func TestRunBusOfAllSmallLines(t *testing.T) {
	talkers := []impl.Talker{}
	for _, s := range []string{"", "0", "1", "0,0", "0,1", "1,0", "1,1"} {
		talkers = append(talkers, talkersOf(s+"/1 "+s+"/2 "+s+"/1+247 "+s+"/2+255")...)
	}
	for _, first := range talkers {
		for _, second := range talkers {
			for window := 1; window <= 3; window++ {
				for mask := range 16 {
					b := line{[]impl.Talker{first, second}, 4, window, nil}
					for round := range 4 {
						if mask>>round&1 != 0 {
							b.spoilt = append(b.spoilt, round)
						}
					}
					sent, end, _ := b.check(t)
					checkQueues(t, b, sent, end)
				}
			}
		}
	}
}
