package tests

import (
	"math"
	"math/rand"
	"runtime"
	"slices"
	"strings"
	"sync"
	"testing"
	"time"

	"loop.example/g00047/impl"
)

// fairHalt has all of its numbers as they may be; the tests of wrong ones begin with it.
func fairHalt() halt {
	return halt{gearOf("1 4 2 5 10"), pressesOf("3..4 6..9 20..22"), impl.FaultStuckA, 5, 30}
}

// checkNoHalt: RunStops has the zero answer.
func checkNoHalt(t *testing.T, h halt) {
	t.Helper()
	torques, both, ok := impl.RunStops(h.g, h.presses, h.fault, h.from, h.ticks)
	if len(torques) != 0 || len(both) != 0 || ok {
		t.Fatalf("RunStops of %+v: %v %v %v", h, torques, both, ok)
	}
}

// checkNoGear: a gear that is not good has the zero answer everywhere.
func checkNoGear(t *testing.T, g impl.Gear) {
	t.Helper()
	if impl.GoodGear(g) || impl.StopBound(g) != 0 {
		t.Fatalf("of %+v: %v %d", g, impl.GoodGear(g), impl.StopBound(g))
	}
	for _, ticks := range []int{0, 1, 200} {
		checkNoHalt(t, halt{g, nil, impl.FaultNone, 0, ticks})
		checkNoHalt(t, halt{g, pressesOf("0..1"), impl.FaultMute, 0, ticks})
	}
}

// Each way in which a gear is not good, alone.
func TestGearsThatAreNone(t *testing.T) {
	checkNoGear(t, impl.Gear{})
	for _, n := range append([]int{-1, 0, 11, 31, 1001}, strayNumbers...) {
		for at, put := range []func(*impl.Gear){
			func(g *impl.Gear) { g.Delay = n }, func(g *impl.Gear) { g.Watch = n }, func(g *impl.Gear) { g.Beat = n }, func(g *impl.Gear) { g.Ramp = n }, func(g *impl.Gear) { g.Most = n },
			func(g *impl.Gear) { g.Watch, g.Beat = n, n }, func(g *impl.Gear) { g.Ramp, g.Most = n, n }, func(g *impl.Gear) { *g = impl.Gear{Delay: n, Watch: n, Beat: n, Ramp: n, Most: n} },
		} {
			g := gearOf("1 4 2 5 10")
			put(&g)
			if checkBound(t, g); checkGear(t, g) {
				// Some of these numbers may be met in some places.
				if n < 0 || n > mostTorque {
					t.Fatalf("number %d in the place %d: %+v", n, at, g)
				}
				continue
			}
			checkNoGear(t, g)
		}
	}
}

// Each way in which presses, faults and ticks are not good, alone.
func TestHaltsThatAreNone(t *testing.T) {
	if got := fairHalt().check(t); len(got.torques) != 30 || len(got.both) != 30 {
		t.Fatal(got)
	}
	wrong := []func(*halt){
		func(h *halt) { h.presses = pressesOf("0..1 2..3 4..5 6..7 8..9 10..11 12..13") }, func(h *halt) { h.presses = slices.Repeat(pressesOf("3..4"), 2) }, func(h *halt) { h.presses = make([]impl.Press, 1) }, func(h *halt) { h.presses = make([]impl.Press, 1000) },
		func(h *halt) { slices.Reverse(h.presses) }, func(h *halt) { h.presses[1].From = 4 }, func(h *halt) { h.presses[1].From = 3 }, func(h *halt) { h.presses[1].To = 6 }, func(h *halt) { h.presses[2].To = 201 }, func(h *halt) { h.presses[2].From = 9 },
		func(h *halt) { h.fault = -1 }, func(h *halt) { h.fault = 6 }, func(h *halt) { h.fault = 7 },
		func(h *halt) { h.from = -1 }, func(h *halt) { h.from = 201 }, func(h *halt) { h.from, h.fault = 201, impl.FaultNone }, func(h *halt) { h.from, h.fault = -1, impl.FaultNone },
		func(h *halt) { h.ticks = -1 }, func(h *halt) { h.ticks = 201 },
		// Also where nobody comes to it.
		func(h *halt) { h.fault, h.ticks = 6, 0 }, func(h *halt) { h.from, h.ticks = 201, 0 }, func(h *halt) { h.presses[2].To, h.ticks = 201, 1 }, func(h *halt) { h.g.Watch, h.ticks = 1, 0 },
	}
	for _, n := range append([]int{-2, -200, 202, 1000}, farInts...) {
		wrong = append(wrong, func(h *halt) { h.fault = n }, func(h *halt) { h.from = n }, func(h *halt) { h.ticks = n }, func(h *halt) { h.from, h.ticks = n, n })
		for at := range 3 {
			wrong = append(wrong, func(h *halt) { h.presses[at].From = n }, func(h *halt) { h.presses[at].To = n }, func(h *halt) { h.presses[at] = impl.Press{From: n, To: n} })
		}
	}
	wrong = append(wrong, func(h *halt) { h.presses[2] = impl.Press{From: math.MaxInt, To: math.MinInt} }, func(h *halt) { h.presses[0] = impl.Press{From: math.MinInt, To: math.MaxInt} })
	for i, spoilt := range wrong {
		h := fairHalt()
		spoilt(&h)
		if h.good() {
			t.Fatalf("the halt %d is good: %+v", i, h)
		}
		checkNoHalt(t, h)
	}
}

// Numbers far off in each place.
func TestStrayNumbersInStops(t *testing.T) {
	for _, n := range append([]int{-1, 0, 1, 2, 3, 4, 5, 6, 7, 10, 11, 30, 31, 199, 200, 201, 999, 1000, 1001}, strayNumbers...) {
		for _, put := range []func(*halt){
			func(h *halt) { h.g.Delay = n }, func(h *halt) { h.g.Watch = n }, func(h *halt) { h.g.Beat = n }, func(h *halt) { h.g.Ramp = n }, func(h *halt) { h.g.Most = n }, func(h *halt) { h.g.Watch, h.g.Beat = n, n }, func(h *halt) { h.g.Ramp, h.g.Most = n, n },
			func(h *halt) { h.presses[0].From = n }, func(h *halt) { h.presses[0].To = n }, func(h *halt) { h.presses[2].From = n }, func(h *halt) { h.presses[2].To = n }, func(h *halt) { h.presses[1] = impl.Press{From: n, To: n} }, func(h *halt) { h.presses = []impl.Press{{From: n, To: n + 1}} },
			func(h *halt) { h.fault = n }, func(h *halt) { h.from = n }, func(h *halt) { h.ticks = n }, func(h *halt) { h.from, h.ticks = n, n }, func(h *halt) { h.fault, h.from = impl.FaultMute, n },
		} {
			h := fairHalt()
			put(&h)
			h.check(t)
			checkGear(t, h.g)
			checkBound(t, h.g)
		}
		for _, kind := range slices.Concat(modeKinds, strayKinds) {
			checkModeStep(t, n, kind)
		}
	}
}

// Nil lists and empty ones are the same.
func TestEmptyListsInStops(t *testing.T) {
	for _, l := range [][]impl.Press{nil, {}} {
		for _, fault := range allFaults {
			for _, ticks := range []int{0, 1, 200} {
				h := halt{gearOf("0 30 10 5 10"), l, fault, 200, ticks}
				got := h.check(t)
				if _, _, ok := impl.RunStops(h.g, h.presses, h.fault, h.from, h.ticks); !ok || len(got.torques) != ticks || slices.Contains(got.both, false) {
					t.Errorf("RunStops of %+v: %v %v", h, got, ok)
				}
			}
		}
	}
	for _, events := range [][]impl.Event{nil, {}} {
		for _, needed := range [][]string{nil, {}} {
			if mode, failed, ok := impl.RunModes(events, needed); mode != impl.ModeOff || len(failed) != 0 || !ok {
				t.Error(mode, failed, ok)
			}
			if mode, failed, ok := impl.RunModes(events, make([]string, 11)); mode != 0 || len(failed) != 0 || ok {
				t.Error(mode, failed, ok)
			}
			if mode, failed, ok := impl.RunModes(eventsOf("on go fail:eye"), needed); mode != impl.ModeLive || !slices.Equal(failed, []string{"eye"}) || !ok {
				t.Error(mode, failed, ok)
			}
			if mode, failed, ok := impl.RunModes(make([]impl.Event, 61), needed); mode != 0 || len(failed) != 0 || ok {
				t.Error(mode, failed, ok)
			}
		}
	}
	// What is failed counts for nothing where there is no answer.
	if mode, failed, ok := impl.RunModes(slices.Repeat(eventsOf("on fail:eye"), 31), nil); mode != 0 || len(failed) != 0 || ok {
		t.Error(mode, failed, ok)
	}
}

func samePress(a impl.Press, b impl.Press) bool { return a == b }
func sameEvent(a impl.Event, b impl.Event) bool { return a == b }

// What lies behind the lists counts for nothing and stays, as the lists do.
func TestWhatLiesBehindInStops(t *testing.T) {
	r := rand.New(rand.NewSource(462))
	for range 1000 {
		for _, more := range [][]impl.Press{{{}}, {{From: 0, To: 200}}, {{From: -1, To: -1}, {From: math.MinInt, To: math.MaxInt}}} {
			h, c := drawnHalt(r), drawnCareer(r)
			in := h
			in.presses = behind(h.presses, more...)
			in.check(t)
			events, parts := eventsOf("stop off fail:a"), []string{"a", "", "b"}
			run := career{behind(c.events, events...), behind(c.needed, parts...)}
			run.check(t)
			if !kept(in.presses, h.presses, samePress, more...) || !kept(run.events, c.events, sameEvent, events...) || !kept(run.needed, c.needed, sameText, parts...) {
				t.Fatalf("a list was changed: %+v %q, before %+v %q", in, run, h, c)
			}
		}
	}
	// What would make it otherwise lies behind.
	six := behind(pressesOf("0..1 2..3 4..5 6..7 8..9 10..11"), pressesOf("5..5")...)
	if got := (halt{gearOf("0 1 1 1 1"), six, impl.FaultNone, 0, 2}).check(t); !slices.Equal(got.torques, []int{0, 0}) {
		t.Error("RunStops reads behind its presses")
	}
	if got := (halt{gearOf("0 1 1 1 1"), behind(pressesOf(""), pressesOf("0..1")...), impl.FaultNone, 0, 2}).check(t); !slices.Equal(got.torques, []int{1, 1}) {
		t.Error("RunStops reads behind no presses")
	}
	full := career{behind(slices.Repeat(eventsOf("on"), 60), eventsOf("off")...), behind(slices.Repeat([]string{"a"}, 10), "b")}
	if mode, _ := full.check(t); mode != impl.ModeReady {
		t.Error("RunModes reads behind its lists")
	}
	if mode, failed := (career{behind(eventsOf("on go fail:b"), eventsOf("stop")...), behind([]string{"a"}, "b")}).check(t); mode != impl.ModeLive || len(failed) != 1 {
		t.Error("RunModes reads behind what is needed")
	}
}

// Whoever writes into an answer changes nothing else: no other list of it, no later answer, no argument.
func TestStopAnswersAreNewMemory(t *testing.T) {
	r := rand.New(rand.NewSource(463))
	for range 2000 {
		h, c := drawnHalt(r), drawnCareer(r)
		halted, run := h.clone(), c.clone()
		for range 2 {
			got := h.check(t)
			both := slices.Clone(got.both)
			spoil(got.torques, -7)
			if !slices.Equal(got.both, both) {
				t.Fatalf("lists of one answer share memory: %+v, was %v", got, both)
			}
			for i, is := range got.both {
				got.both[i] = !is
			}
			_, failed := c.check(t)
			spoil(failed, "spoilt")
		}
		if !h.same(halted) || !c.same(run) {
			t.Fatalf("an argument was changed: %+v %q, before %+v %q", h, c, halted, run)
		}
	}
}

// No failed part that is told lies in a text that was handed in.
func TestFailedPartsAreNewMemory(t *testing.T) {
	r := rand.New(rand.NewSource(464))
	for range 1000 {
		c := drawnCareer(r)
		_, failed := c.check(t)
		for _, part := range failed {
			for _, e := range c.events {
				if part != "" && e.Part != "" && liesIn(part, e.Part) {
					t.Fatalf("RunModes of %q: %q lies in an event", c, part)
				}
			}
			for _, text := range c.needed {
				if part != "" && text != "" && liesIn(part, text) {
					t.Fatalf("RunModes of %q: %q lies in what is needed", c, part)
				}
			}
		}
	}
}

// Presses, events and texts that are pieces of one list, or answers of other calls, are told like any others.
func TestStopArgumentsThatShareMemory(t *testing.T) {
	six, events, parts := pressesOf("0..1 2..3 8..9 11..20 22..23 40..60"), eventsOf("on go fail:a mend:a fail:b fail:c stop reset"), []string{"a", "b", "c", "a"}
	before, run := slices.Clone(six), career{slices.Clone(events), slices.Clone(parts)}
	for from := range six {
		for to := from; to <= len(six); to++ {
			for _, fault := range allFaults {
				halt{gearOf("2 5 3 2 9"), six[from:to], fault, 10, 70}.check(t)
			}
		}
	}
	for from := range events {
		for to := from; to <= len(events); to++ {
			for many := range parts {
				_, failed := career{events[from:to], parts[:many]}.check(t)
				// What failed in one run as what is needed in another one.
				career{events, failed}.check(t)
				spoil(failed, "spoilt")
			}
		}
	}
	if !slices.Equal(six, before) || !run.same(career{events, parts}) {
		t.Errorf("a list was changed: %v %v %v", six, events, parts)
	}
}

// The same call has the same answer every time, many at once too, all of them with the same lists.
func TestStopsAreTheSameEveryTime(t *testing.T) {
	r := rand.New(rand.NewSource(465))
	halts, runs := []halt{fairHalt(), {}, {g: gearOf("1 4 2 5 10"), presses: pressesOf("5..5")}}, []career{{}, {events: make([]impl.Event, 61)}}
	for range 20 {
		halts, runs = append(halts, drawnHalt(r)), append(runs, drawnCareer(r))
	}
	rests, modes, parts := []rested{}, []int{}, [][]string{}
	for _, h := range halts {
		rests = append(rests, h.check(t))
	}
	for _, c := range runs {
		mode, failed := c.check(t)
		modes, parts = append(modes, mode), append(parts, failed)
	}
	var all sync.WaitGroup
	for range 8 {
		all.Go(func() {
			for range 10 {
				for i, h := range halts {
					torques, both, ok := impl.RunStops(h.g, h.presses, h.fault, h.from, h.ticks)
					if ok != h.good() || !rests[i].same(rested{torques, both}) || impl.GoodGear(h.g) != isGear(h.g) || (impl.StopBound(h.g) > 0) != isGear(h.g) {
						t.Errorf("another answer of %+v: %v %v %v", h, torques, both, ok)
					}
				}
				for i, c := range runs {
					mode, failed, ok := impl.RunModes(c.events, c.needed)
					if ok != c.good() || mode != modes[i] || !slices.Equal(failed, parts[i]) || impl.ModeStep(mode, "off") != impl.ModeOff {
						t.Errorf("another answer of %q: %d %q %v", c, mode, failed, ok)
					}
				}
			}
		})
	}
	all.Wait()
}

// No goroutine goes on when a call has answered, with wrong arguments neither.
func TestNoGoroutineIsLeftBehindStops(t *testing.T) {
	before := runtime.NumGoroutine()
	r := rand.New(rand.NewSource(466))
	for range 1000 {
		h := drawnHalt(r)
		h.check(t)
		h.ticks = []int{-1, 0, 1, 200, 201}[r.Intn(5)]
		h.check(t)
		h.fault = 6
		h.check(t)
		drawnCareer(r).check(t)
	}
	// One that has told that it is done may need a moment to be gone.
	for tries := 0; runtime.NumGoroutine() > before; tries++ {
		if tries > 1000 {
			t.Fatalf("%d goroutines, %d before", runtime.NumGoroutine(), before)
		}
		time.Sleep(time.Millisecond)
	}
}

// No call waits for ever; a minute is far more than all of them need.
func TestStopsAnswerInTime(t *testing.T) {
	answered := make(chan int)
	go func() {
		defer close(answered)
		for _, n := range append([]int{0, 200}, strayNumbers...) {
			for _, fault := range append([]int{n}, allFaults...) {
				impl.RunStops(gearOf("10 30 10 1 1000"), pressesOf("199..200"), fault, n, 200)
				impl.RunStops(gearOf("10 30 10 1 1000"), nil, fault, 200, n)
				impl.RunStops(impl.Gear{Delay: n, Watch: n, Beat: n, Ramp: n, Most: n}, []impl.Press{{From: n, To: n}}, fault, n, n)
				impl.RunStops(gearOf("10 30 10 1 1000"), make([]impl.Press, 1000000), fault, 0, 200)
			}
			impl.StopBound(impl.Gear{Delay: n, Watch: n, Beat: n, Ramp: n, Most: n})
		}
		impl.RunModes(make([]impl.Event, 1000000), make([]string, 1000000))
		long := strings.Repeat("a", 1000000)
		impl.RunModes(slices.Repeat([]impl.Event{{Kind: "fail", Part: long}, {Kind: long, Part: long}}, 30), slices.Repeat([]string{long + "b"}, 10))
	}()
	select {
	case <-answered:
	case <-time.After(time.Minute):
		t.Fatal("no answer")
	}
}

// pressesFrom takes two numbers for each press.
func pressesFrom(l []int) []impl.Press {
	all := []impl.Press{}
	for two := range slices.Chunk(l, 2) {
		two = append(slices.Clone(two), 5)
		all = append(all, impl.Press{From: two[0], To: two[1]})
	}
	return all
}

// goodHalt makes all numbers ones that may be met.
func goodHalt(h halt) halt {
	g := h.g
	beat := 1 + leftOf(g.Beat, longestBeat)
	g = impl.Gear{Delay: leftOf(g.Delay, longestDelay+1), Beat: beat, Watch: beat + leftOf(g.Watch, longestWatch-beat+1), Ramp: 1 + leftOf(g.Ramp, mostTorque), Most: 1 + leftOf(g.Most, mostTorque)}
	ticks := []int{}
	for _, p := range h.presses {
		ticks = append(ticks, leftOf(p.From, lastStopTick+1), leftOf(p.To, lastStopTick+1))
	}
	slices.Sort(ticks)
	ticks = slices.Compact(ticks)
	ticks = ticks[:min(len(ticks)/2*2, 2*manyPresses)]
	return halt{g, pressesFrom(ticks), leftOf(h.fault, len(allFaults)), leftOf(h.from, lastStopTick+1), leftOf(h.ticks, lastStopTick+1)}
}

// FuzzStops asks RunStops, and what is asked of a gear, of any numbers.
func FuzzStops(f *testing.F) {
	f.Add(1, 4, 2, 5, 10, "\x03\x04", 3, 0, 8)
	f.Add(0, 1, 1, 1, 1, "", 0, 0, 0)
	f.Add(10, 30, 10, 1000, 1000, "\x00\x01\x02\x03\x04\x05\x06\x07\x08\x09\x0a\x0b", 5, 200, 200)
	f.Add(11, 31, 11, 1001, 0, "\x05\x05\x7f\x80", 6, 201, -1)
	f.Add(math.MinInt, math.MaxInt, math.MinInt, math.MaxInt, -1, "\x80\x7f\x80", math.MaxInt, math.MinInt, math.MaxInt)
	f.Fuzz(func(t *testing.T, delay int, watch int, beat int, ramp int, most int, pressed string, fault int, from int, ticks int) {
		h := halt{impl.Gear{Delay: delay, Watch: watch, Beat: beat, Ramp: ramp, Most: most}, pressesFrom(farNumbers(pressed)), fault, from, ticks}
		before := h.clone()
		checkGear(t, h.g)
		checkBound(t, h.g)
		h.check(t)
		if !h.same(before) {
			t.Fatalf("an argument was changed: %+v, before %+v", h, before)
		}
		// The same with numbers that may be met, so that good ones are met often.
		if h = goodHalt(h); !h.good() {
			t.Fatalf("%+v is not good", h)
		}
		h.checkRest(t, h.check(t))
	})
}

// careerFrom has a line for each event, its kind up to the first blank, and a line for each needed part.
func careerFrom(events string, needed string) career {
	c := career{}
	for line := range strings.Lines(events) {
		kind, part, _ := strings.Cut(strings.TrimSuffix(line, "\n"), " ")
		c.events = append(c.events, impl.Event{Kind: kind, Part: part})
	}
	for line := range strings.Lines(needed) {
		c.needed = append(c.needed, strings.TrimSuffix(line, "\n"))
	}
	return c
}

// FuzzModes asks ModeStep and RunModes of any texts.
func FuzzModes(f *testing.F) {
	f.Add("on\ngo\nfail eye\nfail arm\n", "eye\narm\n", 2)
	f.Add("on\ngo\nhurt\nmend eye\nfail \nmend \nheal\nstop\nreset\noff\n", "eye\n\n", 0)
	f.Add("", "", -1)
	f.Add(strings.Repeat("on\n", 61), strings.Repeat("\xff\n", 11), 5)
	f.Add(strings.Repeat("fail a\nmend a\n", 30), "a\na", math.MaxInt)
	f.Fuzz(func(t *testing.T, events string, needed string, mode int) {
		c := careerFrom(events, needed)
		before := c.clone()
		c.check(t)
		for _, e := range c.events {
			checkModeStep(t, mode, e.Kind)
			checkModeStep(t, leftOf(mode, len(allModes)), e.Kind)
		}
		if !c.same(before) {
			t.Fatalf("an argument was changed: %q, before %q", c, before)
		}
		c.events, c.needed = c.events[:min(len(c.events), longestCareer)], c.needed[:min(len(c.needed), mostWanted)]
		c.check(t)
	})
}
