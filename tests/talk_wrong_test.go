package tests

import (
	"math"
	"math/rand"
	"runtime"
	"slices"
	"strings"
	"sync"
	"testing"
	"time"

	"loop.example/g00047/impl"
)

// fairTalk has all of its numbers as they may be; the tests of wrong ones begin with it.
func fairTalk() talk {
	return talk{[]int{4, 5, 6}, 2, fatesOf("fx2l"), fatesOf("lf2"), 20}
}

// Each way in which a talk is not good, alone.
func TestTalksThatAreNone(t *testing.T) {
	if got := fairTalk().check(t); !got.Done {
		t.Fatal(got)
	}
	wrong := []func(*talk){
		func(c *talk) { c.words = countUp(0, 31) }, func(c *talk) { c.words = countUp(0, 1000) },
		func(c *talk) { c.window = 0 }, func(c *talk) { c.window = -1 }, func(c *talk) { c.window = 11 },
		func(c *talk) { c.there = nil }, func(c *talk) { c.there = []int{} }, func(c *talk) { c.there = make([]int, 61) }, func(c *talk) { c.there = make([]int, 1000) },
		func(c *talk) { c.back = nil }, func(c *talk) { c.back = []int{} }, func(c *talk) { c.back = make([]int, 61) }, func(c *talk) { c.back = make([]int, 1000) },
		func(c *talk) { c.ticks = -1 }, func(c *talk) { c.ticks = 401 },
	}
	for _, fate := range append([]int{-1, 4, 5}, strayNumbers...) {
		for at := range 4 {
			wrong = append(wrong, func(c *talk) { c.there[at] = fate })
		}
		for at := range 3 {
			wrong = append(wrong, func(c *talk) { c.back[at] = fate })
		}
		// Also where nobody comes to it.
		wrong = append(wrong, func(c *talk) { c.there, c.ticks = append(make([]int, 59), fate), 1 }, func(c *talk) { c.back, c.ticks = append(make([]int, 59), fate), 0 }, func(c *talk) { c.there[3], c.words = fate, nil })
	}
	for i, spoilt := range wrong {
		c := fairTalk()
		spoilt(&c)
		got, ok := impl.TalkAll(c.words, c.window, c.there, c.back, c.ticks)
		if ok || !sameTalked(got, impl.Talked{}) || c.good() {
			t.Errorf("TalkAll of the talk %d, %+v: %+v %v", i, c, got, ok)
		}
	}
}

// Numbers far off in each place.
func TestStrayNumbersInTalks(t *testing.T) {
	for _, n := range strayNumbers {
		for many := range 12 {
			checkKeep(t, countUp(0, many), n, 5)
			checkKeep(t, countUp(0, many), 10, n)
			checkKeep(t, slices.Repeat([]int{n}, many), 10, 5)
		}
		for _, s := range []impl.Sender{{Words: []int{4, 5}}, {Words: []int{n, n, n}, Acked: 1, Turn: 4}, {}} {
			checkNext(t, s, n)
			for window := range 12 {
				checkNext(t, impl.Sender{Words: s.Words, Acked: n, Turn: s.Turn}, window)
				checkNext(t, impl.Sender{Words: s.Words, Acked: s.Acked, Turn: n}, window)
				checkNext(t, impl.Sender{Words: s.Words, Acked: n, Turn: n}, window)
				checkNext(t, s, window)
			}
		}
		checkTake(t, []int{n, 3}, []impl.Parcel{{Number: n, Word: 1}, {Number: 2, Word: n}, {Number: n, Word: n}, {Number: 3, Word: 5}})
		checkTake(t, nil, []impl.Parcel{{Number: n, Word: 1}})
		for _, put := range []func(*talk){
			func(c *talk) { c.words[1] = n }, func(c *talk) { c.window = n }, func(c *talk) { c.ticks = n }, func(c *talk) { c.there[0] = n }, func(c *talk) { c.back[2] = n },
			func(c *talk) { c.window, c.ticks = n, n }, func(c *talk) { c.words = slices.Repeat([]int{n}, 30) },
		} {
			c := fairTalk()
			put(&c)
			c.check(t)
		}
		for _, m := range strayNumbers {
			checkMerge(t, []impl.Stamped{{Time: n, From: m, Word: 1}}, []impl.Stamped{{Time: m, From: n, Word: 2}})
			checkMerge(t, []impl.Stamped{{Time: n, Word: m}, {Time: m, Word: n}}, nil)
			checkMerge(t, []impl.Stamped{{From: n, Word: m}, {From: m, Word: n}}, nil)
		}
	}
}

// Texts that are none, in each place.
func TestStrayTextsInTalks(t *testing.T) {
	texts := []string{"", "/", "~", "*", "**", "a", "/a", "~/a", "/*", "/**", "/a/*/b", "//", "/a/", "/A", "/0", "/_", "/\x00", "\xff\xfe", "/\xc3\xa9", "/a\u2028", "/" + a20 + "a", topic60, topic60 + "c", "~" + topic60, strings.Repeat("/**", 31), strings.Repeat("~/", 1000), strings.Repeat("/a", 1000)}
	for _, a := range texts {
		checkTopic(t, a)
		for _, b := range texts {
			checkResolve(t, a, b)
			checkFits(t, a, b)
		}
	}
}

// Nil lists and empty ones are the same.
func TestEmptyListsInTalks(t *testing.T) {
	for _, l := range [][]int{nil, {}} {
		if got := checkKeep(t, l, 3, 7); !slices.Equal(got, []int{7}) {
			t.Error(got)
		}
		if _, _, ok := checkNext(t, impl.Sender{Words: l}, 1); ok {
			t.Error("a sender of no words sends")
		}
		for _, parcels := range [][]impl.Parcel{nil, {}} {
			if got := checkTake(t, l, parcels); len(got) != 0 {
				t.Error(got)
			}
		}
		if got := (talk{l, 1, fatesOf("f"), fatesOf("f"), 5}).check(t); !got.Done || got.Ticks != 0 || got.Sends != 0 || len(got.Got) != 0 {
			t.Error(got)
		}
		for _, fates := range [][]int{l, fatesOf("f")} {
			if _, ok := impl.TalkAll([]int{1}, 1, fates, l, 1); ok {
				t.Error("no fates back")
			}
			if _, ok := impl.TalkAll([]int{1}, 1, l, fates, 1); ok {
				t.Error("no fates there")
			}
		}
	}
	for _, a := range [][]impl.Stamped{nil, {}} {
		for _, b := range [][]impl.Stamped{nil, {}} {
			if got, ok := checkMerge(t, a, b); !ok || len(got) != 0 {
				t.Error(got, ok)
			}
		}
		if got, ok := checkMerge(t, a, stampsOf("1.2=3")); !ok || len(got) != 1 {
			t.Error(got, ok)
		}
	}
}

func sameParcel(a impl.Parcel, b impl.Parcel) bool    { return a == b }
func sameStamped(a impl.Stamped, b impl.Stamped) bool { return a == b }

// What lies behind the lists counts for nothing and stays, as the lists do.
func TestWhatLiesBehindInTalks(t *testing.T) {
	r := rand.New(rand.NewSource(433))
	for range 500 {
		for _, more := range [][]int{{0}, {-1, -1, -1}, {math.MinInt, 1}} {
			c := drawnTalk(r, "ffx2l")
			in := talk{behind(c.words, more...), c.window, behind(c.there, more...), behind(c.back, more...), c.ticks}
			in.check(t)
			if !kept(in.words, c.words, sameNumber, more...) || !kept(in.there, c.there, sameNumber, more...) || !kept(in.back, c.back, sameNumber, more...) {
				t.Fatalf("a list was changed: %+v, before %+v", in, c)
			}
			queue := drawnWords(r, r.Intn(deepest+2))
			handed := behind(queue, more...)
			checkKeep(t, handed, 1+r.Intn(deepest), 5)
			s := drawnSender(r)
			sender := impl.Sender{Words: behind(s.Words, more...), Acked: s.Acked, Turn: s.Turn}
			checkNext(t, sender, 1+r.Intn(deepest))
			got, parcels := drawnWords(r, r.Intn(6)), parcelsOf(4, 5, 6)
			had, arrived := behind(got, more...), behind(parcels, parcelsOf(7, len(got), 5)...)
			checkTake(t, had, arrived)
			if !kept(handed, queue, sameNumber, more...) || !kept(sender.Words, s.Words, sameNumber, more...) || !kept(had, got, sameNumber, more...) || !kept(arrived, parcels, sameParcel, parcelsOf(7, len(got), 5)...) {
				t.Fatal("a list was changed")
			}
			a, b := drawnStamps(r, r.Intn(41), 100, 1), drawnStamps(r, r.Intn(41), 100, 1)
			last := stampsOf("-900.0=1 900.1=2")
			x, y := behind(a, last...), behind(b, last[1:]...)
			checkMerge(t, x, y)
			if !kept(x, a, sameStamped, last...) || !kept(y, b, sameStamped, last[1:]...) {
				t.Fatal("a list was changed")
			}
		}
	}
	// What would make it otherwise lies behind.
	if got := checkKeep(t, behind(countUp(0, 10), 10), 10, 7); len(got) != 10 {
		t.Error("KeepLast reads behind its queue")
	}
	if _, _, ok := checkNext(t, impl.Sender{Words: behind([]int{4}, 5), Acked: 1}, 1); ok {
		t.Error("SendNext reads behind its words")
	}
	if _, _, ok := checkNext(t, impl.Sender{Words: behind(countUp(0, 30), 30)}, 1); !ok {
		t.Error("SendNext reads behind 30 words")
	}
	if got := checkTake(t, nil, behind([]impl.Parcel{}, parcelsOf(0)...)); len(got) != 0 {
		t.Error("TakeParcels reads behind its parcels")
	}
	if got := (talk{behind([]int{4}, 5), 2, behind(fatesOf("f"), 9), behind(fatesOf("f"), -9), 9}).check(t); !got.Done || got.Ticks != 1 {
		t.Error("TalkAll reads behind its lists")
	}
	if _, ok := checkMerge(t, behind(stampRow(40, 1, 0), stampsOf("0.0=0")...), nil); !ok {
		t.Error("MergeStamped reads behind its list")
	}
}

// Whoever writes into an answer changes nothing else: no later answer, no argument.
func TestTalkAnswersAreNewMemory(t *testing.T) {
	r := rand.New(rand.NewSource(434))
	for range 2000 {
		c, s, window := drawnTalk(r, "fffx2l"), drawnSender(r), 1+r.Intn(deepest)
		queue, depth := drawnWords(r, r.Intn(deepest+1)), 1+r.Intn(deepest)
		got, parcels := drawnWords(r, r.Intn(6)), parcelsOf(drawnFates(r, 5, "fx2l")...)
		a, b := drawnStamps(r, r.Intn(41), 100, 1), drawnStamps(r, r.Intn(41), 100, 1)
		before, sender := c.clone(), cloneSender(s)
		lists, stamps := [][]int{slices.Clone(queue), slices.Clone(got)}, [][]impl.Stamped{slices.Clone(a), slices.Clone(b)}
		arrived := slices.Clone(parcels)
		for range 2 {
			spoil(checkKeep(t, queue, depth, 5), -7)
			_, next, _ := checkNext(t, s, window)
			spoil(next.Words, -7)
			spoil(checkTake(t, got, parcels), -7)
			spoil(c.check(t).Got, -7)
			merged, _ := checkMerge(t, a, b)
			spoil(merged, impl.Stamped{Word: -7})
			alone, _ := checkMerge(t, nil, b)
			spoil(alone, impl.Stamped{Word: -7})
		}
		if !c.same(before) || !sameSender(s, sender) || !slices.Equal(queue, lists[0]) || !slices.Equal(got, lists[1]) || !slices.Equal(parcels, arrived) || !slices.Equal(a, stamps[0]) || !slices.Equal(b, stamps[1]) {
			t.Fatalf("an argument was changed: %+v %+v %v %v %v %v %v", c, s, queue, got, parcels, a, b)
		}
	}
}

// No topic that is told lies in a text that was handed in, not even where it is the name itself.
func TestTopicsAreNewMemory(t *testing.T) {
	r := rand.New(rand.NewSource(435))
	for range 2000 {
		space, name := drawnTopic(r, r.Intn(4), 1+r.Intn(8)), drawnTopic(r, 1+r.Intn(3), 1+r.Intn(8))
		for _, name := range []string{name, "~" + name, name[1:]} {
			got := checkResolve(t, space, name)
			if got == "" || liesIn(got, name) || space != "" && liesIn(got, space) {
				t.Fatalf("ResolveTopic of %q and %q lies in them, or is none: %q", space, name, got)
			}
		}
	}
}

// One list as words and as fates there and back, one for both lists of stamped words, one in all places of a queue: told like any others.
func TestTalkArgumentsThatShareMemory(t *testing.T) {
	l := []int{2, 0, 3, 1, 0, 2, 3, 0}
	before := slices.Clone(l)
	for from := range l {
		for to := from + 1; to <= len(l); to++ {
			c := talk{l[from:to], 3, l[:to], l[from:], 50}
			c.check(t)
			spoil(c.check(t).Got, -7)
			checkNext(t, impl.Sender{Words: l[from:to], Turn: 5}, 3)
			spoil(checkKeep(t, l[from:to], 8, 9), -7)
			spoil(checkTake(t, l[from:to], parcelsOf(l...)), -7)
		}
	}
	row := stampRow(30, 1, 0)
	for from := range row {
		all, ok := checkMerge(t, row[:from+1], row[from/2:])
		if !ok || !slices.Equal(all, row) {
			t.Fatal(all, ok)
		}
		spoil(all, impl.Stamped{})
	}
	if !slices.Equal(l, before) || !slices.Equal(row, stampRow(30, 1, 0)) {
		t.Errorf("a list was changed: %v, %v", l, row)
	}
}

// The same call has the same answer every time, many at once too, all of them with the same lists.
func TestTalksAreTheSameEveryTime(t *testing.T) {
	r := rand.New(rand.NewSource(436))
	talks, told := []talk{}, []impl.Talked{}
	for range 20 {
		c := drawnTalk(r, "ffx2l")
		talks, told = append(talks, c), append(told, c.check(t))
	}
	s, a, b := impl.Sender{Words: countUp(0, 30), Acked: 7, Turn: 12}, stampRow(40, 2, 0), stampRow(40, 2, 1)
	parcel, next, _ := checkNext(t, s, 10)
	merged, _ := checkMerge(t, a, b)
	queue, parcels := countUp(0, 10), parcelsOf(10, 11, 11, 12)
	last, taken := checkKeep(t, queue, 10, 5), checkTake(t, queue, parcels)
	var all sync.WaitGroup
	for range 8 {
		all.Go(func() {
			for range 10 {
				for i, c := range talks {
					if got, ok := impl.TalkAll(c.words, c.window, c.there, c.back, c.ticks); !ok || !sameTalked(got, told[i]) {
						t.Error("another talk:", got, told[i], ok)
					}
				}
				one, two, _ := impl.SendNext(s, 10)
				three, _ := impl.MergeStamped(a, b)
				four, _ := impl.KeepLast(queue, 10, 5)
				five, many := impl.TakeParcels(queue, parcels)
				if one != parcel || !sameSender(two, next) || !slices.Equal(three, merged) || !slices.Equal(four, last) || !slices.Equal(five, taken) || many != len(taken) {
					t.Error("another answer")
				}
				if !impl.GoodTopic(topic60) || impl.ResolveTopic("/arm/left", "cmd") != "/arm/cmd" || !impl.TopicFits("/**/c", "/a/b/c") {
					t.Error("another topic")
				}
			}
		})
	}
	all.Wait()
}

// No goroutine goes on when a call has answered, however its talk ends.
func TestTalksLeaveNoGoroutine(t *testing.T) {
	before := runtime.NumGoroutine()
	r := rand.New(rand.NewSource(437))
	for range 300 {
		drawnTalk(r, []string{"fx2l", "l", "x", "f"}[r.Intn(4)]).check(t)
		c := fairTalk()
		c.there[r.Intn(4)] = 4
		c.check(t)
	}
	// One that has told that it is done may need a moment to be gone.
	for tries := 0; runtime.NumGoroutine() > before; tries++ {
		if tries > 1000 {
			t.Fatalf("%d goroutines, %d before", runtime.NumGoroutine(), before)
		}
		time.Sleep(time.Millisecond)
	}
}

// No call waits for ever; a minute is far more than the longest one needs.
func TestTalksAnswerInTime(t *testing.T) {
	for _, among := range []string{"f", "x", "2", "l", "lx", "xl2f"} {
		for _, ticks := range []int{-1, 0, 1, 400, 401, math.MaxInt, math.MinInt} {
			answered := make(chan int)
			go func() {
				impl.TalkAll(countUp(0, 30), 10, fatesOf(among), fatesOf(among), ticks)
				impl.TalkAll(countUp(0, 30), 1, fatesOf("x"), fatesOf(among), ticks)
				impl.TalkAll(nil, ticks, fatesOf(among), nil, ticks)
				close(answered)
			}()
			select {
			case <-answered:
			case <-time.After(time.Minute):
				t.Fatalf("no answer: fates %q, %d ticks", among, ticks)
			}
		}
	}
	// A pattern can be shared out over a name in more than 10^8 ways.
	pattern, name := strings.Repeat("/**/a", 14)+"/**/b", strings.Repeat("/a", 30)
	begin := time.Now()
	if impl.TopicFits(pattern, name) || impl.TopicFits("/b"+pattern[:70], name) || time.Since(begin) > time.Minute {
		t.Error("it fits, or it took", time.Since(begin))
	}
}

// goodTalk makes all numbers ones that may be met.
func goodTalk(c talk) talk {
	c = c.clone()
	c.words, c.window, c.ticks = c.words[:min(len(c.words), mostWords)], 1+leftOf(c.window, deepest), leftOf(c.ticks, lastTick+1)
	for _, fates := range []*[]int{&c.there, &c.back} {
		*fates = append(*fates, impl.FateFine)[:max(1, min(len(*fates), mostFated))]
		for i, fate := range *fates {
			(*fates)[i] = leftOf(fate, 4)
		}
	}
	return c
}

// stampsFrom takes three numbers for each stamped word.
func stampsFrom(l []int) []impl.Stamped {
	all := []impl.Stamped{}
	for three := range slices.Chunk(l, 3) {
		three = append(slices.Clone(three), 0, 0)
		all = append(all, impl.Stamped{Time: three[0], From: three[1], Word: three[2]})
	}
	return all
}

// FuzzTalks asks every function of any texts and numbers.
func FuzzTalks(f *testing.F) {
	f.Add("/arm/left", "cmd", "/a/*/**", "\x04\x05\x06", 2, "\x00\x01\x02", "\x00", 50, 0, 0)
	f.Add("/arm", "~/cmd", "/**/b", "", 10, "\x03", "\x03\x01", 400, 1, 30)
	f.Add("", "/x", "/**", "\x7f\x80", 0, "", "\x04", -1, -1, 31)
	f.Add(topic60, topic60+"c", strings.Repeat("/**", 31), strings.Repeat("a", 31), math.MaxInt, strings.Repeat("\x00", 61), strings.Repeat("\x03", 60), math.MinInt, math.MaxInt, math.MinInt)
	f.Fuzz(func(t *testing.T, space string, name string, pattern string, said string, window int, there string, back string, ticks int, acked int, turn int) {
		for _, a := range []string{space, name, pattern} {
			checkTopic(t, a)
			for _, b := range []string{space, name, pattern} {
				checkResolve(t, a, b)
				checkFits(t, a, b)
			}
		}
		words, out, home := farNumbers(said), farNumbers(there), farNumbers(back)
		checkKeep(t, words, window, ticks)
		checkKeep(t, words[:min(len(words), deepest)], 1+leftOf(window, deepest), ticks)
		s := impl.Sender{Words: words, Acked: acked, Turn: turn}
		checkNext(t, s, window)
		s.Words = words[:min(len(words), mostWords)]
		s.Acked, s.Turn = leftOf(acked, len(s.Words)+1), leftOf(turn, mostWords+1)
		checkNext(t, s, 1+leftOf(window, deepest))
		checkTake(t, words, parcelsOf(out...))
		checkTake(t, home[:min(len(home), mostWords)], parcelsOf(append(out, countUp(0, 20)...)...))
		c := talk{words, window, out, home, ticks}
		before := c.clone()
		c.check(t)
		if !c.same(before) {
			t.Fatalf("an argument was changed: %+v, before %+v", c, before)
		}
		// The same with numbers that may be met, so that good ones are met often.
		if c = goodTalk(c); !c.good() {
			t.Fatalf("%+v is not good", c)
		}
		c.check(t)
		a, b := stampsFrom(words), stampsFrom(append(out, home...))
		checkMerge(t, a, b)
		slices.SortFunc(a, cmpStamped)
		slices.SortFunc(b, cmpStamped)
		checkMerge(t, a, b)
	})
}
