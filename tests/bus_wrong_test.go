package tests

import (
	"math"
	"math/rand"
	"os"
	"os/exec"
	"slices"
	"strings"
	"sync"
	"testing"

	"loop.example/g00047/impl"
)

// checkNoBus: no answer, and not even no round has one.
func checkNoBus(t *testing.T, l []impl.Talker) {
	t.Helper()
	for _, rounds := range []int{0, 1, 40} {
		for _, spoilt := range [][]int{nil, {0, 1}} {
			if sent, end, ok := impl.RunBus(l, rounds, 3, spoilt); ok || len(sent) != 0 || len(end) != 0 {
				t.Errorf("RunBus of %v: %v %v %v", l, sent, end, ok)
			}
		}
	}
}

// Talkers that are not good in each way that the chapter names, at each place among good ones.
func TestTalkersThatAreNotGood(t *testing.T) {
	nine := make([]byte, 9)
	for _, bad := range []impl.Talker{
		{}, {Off: true}, {Share: 1, Off: true}, {Share: 1, Errors: 254, Off: true}, {Share: 1, Errors: 255}, {Share: 1, Errors: 256}, {Share: 1, Errors: 256, Off: true}, {Share: 1, Errors: -1}, {Share: 1, Errors: -1, Off: true},
		{Share: 11}, {Share: -1}, {Share: 0, Errors: 255, Off: true}, {Share: 1, Queue: make([]impl.Frame, 9)}, {Share: 1, Queue: make([]impl.Frame, 1000)},
		{Share: 1, Queue: []impl.Frame{{Id: -1}}}, {Share: 1, Queue: []impl.Frame{{Id: 2048}}}, {Share: 1, Queue: []impl.Frame{{Data: nine}}}, {Share: 1, Queue: []impl.Frame{{}, {}, {}, {}, {}, {}, {}, {Id: 2048}}},
		{Share: 1, Errors: 255, Off: true, Queue: []impl.Frame{{Data: nine}}},
	} {
		if isTalker(bad) {
			t.Fatalf("%v is good", bad)
		}
		for n := 1; n <= mostTalking; n++ {
			for at := range n {
				l := fullTalkers(n, 2)
				l[at] = bad
				checkNoBus(t, l)
			}
		}
	}
	checkNoBus(t, fullTalkers(7, 1))
	checkNoBus(t, make([]impl.Talker, 1))
	checkNoBus(t, make([]impl.Talker, 1000))
}

// Numbers far off in each place.
func TestStrayNumbersOnTheBus(t *testing.T) {
	for _, n := range strayNumbers {
		if impl.GoodFrame(impl.Frame{Id: n}) != isFrame(impl.Frame{Id: n}) {
			t.Errorf("GoodFrame of Id %d", n)
		}
		checkFrame(t, impl.Frame{Id: n, Data: []byte{1, 2}})
		for many := 1; many <= mostTalking; many++ {
			for at := range many {
				ids := slices.Repeat([]int{9}, many)
				ids[at] = n
				checkWire(t, ids)
			}
		}
		for who := range 3 {
			for _, put := range []func(*impl.Talker){
				func(o *impl.Talker) { o.Share = n }, func(o *impl.Talker) { o.Errors = n }, func(o *impl.Talker) { o.Errors, o.Off = n, true },
				func(o *impl.Talker) { o.Queue[0].Id = n }, func(o *impl.Talker) { o.Queue[1].Id = n },
			} {
				l := talkersOf("5,6/2 5,4/1 3,3/10+9")
				put(&l[who])
				line{l, 9, 4, []int{2, n}}.check(t)
			}
		}
		good := talkersOf("5,6/2 5,4/1")
		line{good, n, 4, nil}.check(t)
		line{good, 4, n, nil}.check(t)
		line{good, n, n, []int{n}}.check(t)
		line{good, 4, 4, slices.Repeat([]int{n}, 40)}.check(t)
	}
}

// Nil lists and empty ones are the same.
func TestEmptyListsOnTheBus(t *testing.T) {
	for _, l := range [][]impl.Talker{nil, {}} {
		for _, spoilt := range [][]int{nil, {}} {
			if sent, end, ok := impl.RunBus(l, 40, 20, spoilt); !ok || len(sent) != 0 || len(end) != 0 {
				t.Errorf("RunBus of nobody: %v %v %v", sent, end, ok)
			}
		}
	}
	for _, queue := range [][]impl.Frame{nil, {}} {
		l := []impl.Talker{{Queue: queue, Share: 1}}
		if sent, end, ok := impl.RunBus(l, 3, 1, nil); !ok || len(sent) != 0 || !sameTalkers(end, l) {
			t.Errorf("RunBus of no frames: %v %v %v", sent, end, ok)
		}
	}
	for _, data := range [][]byte{nil, {}} {
		l := []impl.Talker{{Queue: []impl.Frame{{Id: 3, Data: data}}, Share: 1}}
		if sent, end, ok := impl.RunBus(l, 0, 1, nil); !ok || len(sent) != 0 || !sameTalkers(end, l) {
			t.Errorf("RunBus of no bytes: %v %v %v", sent, end, ok)
		}
		if sent, end, ok := impl.RunBus(l, 1, 1, nil); !ok || len(sent) != 1 || len(end) != 1 || len(end[0].Queue) != 0 {
			t.Errorf("RunBus of no bytes: %v %v %v", sent, end, ok)
		}
	}
}

// behindTalkers has more behind each list, and behind the lists in them.
func behindTalkers(l []impl.Talker, frame impl.Frame, more ...impl.Talker) []impl.Talker {
	all := cloneTalkers(l)
	for i, o := range all {
		for k, f := range o.Queue {
			o.Queue[k].Data = behind(f.Data, frame.Data...)
		}
		all[i].Queue = behind(o.Queue, frame)
	}
	return behind(all, more...)
}

// keptTalkers says whether all of that is as it was.
func keptTalkers(handed []impl.Talker, before []impl.Talker, frame impl.Frame, more ...impl.Talker) bool {
	if !kept(handed, before, sameTalker, more...) {
		return false
	}
	for i, o := range before {
		if !kept(handed[i].Queue, o.Queue, sameFrame, frame) {
			return false
		}
		for k, f := range o.Queue {
			if !kept(handed[i].Queue[k].Data, f.Data, func(a byte, b byte) bool { return a == b }, frame.Data...) {
				return false
			}
		}
	}
	return true
}

// What lies behind the lists counts for nothing and stays, as the lists do.
func TestWhatLiesBehindOnTheBus(t *testing.T) {
	r := rand.New(rand.NewSource(412))
	for range 500 {
		b := drawnLine(r)
		for _, frame := range []impl.Frame{{Id: -1, Data: []byte{1, 2, 3, 4, 5, 6, 7, 8, 9}}, {Id: 0, Data: []byte{255}}, {Id: math.MaxInt, Data: []byte{}}} {
			more := []impl.Talker{{Queue: []impl.Frame{frame}, Share: 1}, {Share: -1}}
			rounds := []int{0, 1, 2, 3, 4, 5, math.MinInt}
			in := line{behindTalkers(b.l, frame, more...), b.rounds, b.window, behind(b.spoilt, rounds...)}
			in.check(t)
			if !keptTalkers(in.l, b.l, frame, more...) || !kept(in.spoilt, b.spoilt, sameNumber, rounds...) {
				t.Fatalf("a list was changed: %+v, before %+v", in, b)
			}
		}
		f := drawnFrame(r, r.Intn(mostCarried+1))
		ids := []int{r.Intn(9), r.Intn(9), r.Intn(9)}
		for _, last := range [][]byte{{0}, {1, 2, 3, 4, 5, 6, 7, 8, 9}} {
			in := impl.Frame{Id: f.Id, Data: behind(f.Data, last...)}
			checkFrame(t, in)
			if !kept(in.Data, f.Data, func(a byte, b byte) bool { return a == b }, last...) {
				t.Fatalf("the bytes were changed: %v, before %v", in, f)
			}
		}
		for _, last := range [][]int{{0}, {-1, -1, -1, -1}, {math.MinInt}} {
			in := behind(ids, last...)
			checkWire(t, in)
			if !kept(in, ids, sameNumber, last...) {
				t.Fatalf("the ids were changed: %v, before %v", in, ids)
			}
		}
	}
	// The talker, the frame, the byte and the round that would make it otherwise lie behind.
	full := fullTalkers(mostTalking, 1)
	if _, end, ok := impl.RunBus(behind(full, impl.Talker{}), 0, 1, nil); !ok || len(end) != mostTalking {
		t.Error("RunBus reads behind its talkers")
	}
	one := fullTalkers(1, 1)
	one[0].Queue = behind(one[0].Queue, impl.Frame{Id: -1})
	if _, end, ok := impl.RunBus(one, 0, 1, nil); !ok || len(end[0].Queue) != mostQueued {
		t.Error("RunBus reads behind a queue")
	}
	one = []impl.Talker{{Queue: behind([]impl.Frame{}, impl.Frame{Id: 1}), Share: 1}}
	if sent, _, ok := impl.RunBus(one, 1, 1, nil); !ok || len(sent) != 0 {
		t.Error("RunBus sends what lies behind a queue")
	}
	if sent, _, ok := impl.RunBus(talkersOf("5/1"), 1, 1, behind([]int{}, 0)); !ok || !sent[0].Good {
		t.Error("RunBus reads behind the spoilt rounds")
	}
	if who, leaves, ok := impl.Arbitrate(behind([]int{5, 3}, 0)); !ok || who != 1 || len(leaves) != 2 {
		t.Error("Arbitrate reads behind its ids")
	}
	if _, _, ok := impl.Arbitrate(behind([]int{}, 1)); ok {
		t.Error("Arbitrate reads behind no ids")
	}
	if !impl.GoodFrame(impl.Frame{Data: behind(make([]byte, 8), 1, 2)}) {
		t.Error("GoodFrame reads behind its bytes")
	}
}

// spoilTalkers writes into the bytes of each frame and into each queue, one after the other, and sees that all behind them stays.
func spoilTalkers(t *testing.T, l []impl.Talker) {
	t.Helper()
	before := cloneTalkers(l)
	for who, o := range l {
		for k := range o.Queue {
			spoil(o.Queue[k].Data, 0x5a)
			if !slices.EqualFunc(o.Queue[k+1:], before[who].Queue[k+1:], sameFrame) || !sameTalkers(l[who+1:], before[who+1:]) {
				t.Fatalf("lists of one answer share memory: %v, were %v", l, before)
			}
		}
		spoil(o.Queue, impl.Frame{Id: -7, Data: []byte{7}})
		if !sameTalkers(l[who+1:], before[who+1:]) {
			t.Fatalf("lists of one answer share memory: %v, were %v", l, before)
		}
	}
	spoil(l, impl.Talker{Share: -7})
}

// Whoever writes into an answer changes nothing else: no other list of it, no later answer, no argument.
func TestBusAnswersAreNewMemory(t *testing.T) {
	r := rand.New(rand.NewSource(413))
	for range 2000 {
		b := drawnLine(r)
		if r.Intn(4) == 0 {
			b.rounds = 0
		}
		b.spoilt = b.spoilt[:min(len(b.spoilt), mostTurns)]
		before := b.clone()
		for range 2 {
			sent, end, ok := impl.RunBus(b.l, b.rounds, b.window, b.spoilt)
			spoilTalkers(t, end)
			spoil(sent, impl.Sent{Who: -7})
			if !ok || !b.same(before) {
				t.Fatalf("no answer, or an argument was changed: %+v, before %+v", b, before)
			}
			b.check(t)
		}
		ids := []int{r.Intn(4), r.Intn(4), r.Intn(4)}
		was := slices.Clone(ids)
		_, leaves, _ := impl.Arbitrate(ids)
		spoil(leaves, -7)
		checkWire(t, ids)
		f := drawnFrame(r, r.Intn(mostCarried+1))
		s, held := checkFrame(t, f), cloneFrame(f)
		read, _ := impl.ReadFrame(s)
		spoil(read.Data, 0x5a)
		checkFrame(t, f)
		if !slices.Equal(ids, was) || !sameFrame(f, held) {
			t.Fatalf("an argument was changed: %v, %v", ids, f)
		}
	}
}

// No text that is told lies in the one that was handed in, not even where nothing is put in or taken out. (Texts of one byte are the language's own, whoever makes them.)
func TestBusTextsAreNewMemory(t *testing.T) {
	r := rand.New(rand.NewSource(414))
	for range 500 {
		s := drawnWire(r, 2+r.Intn(249), 1+r.Intn(6))
		for _, text := range []string{s, strings.Repeat("01", 20)} {
			stuffed, _ := impl.StuffBits(text)
			plain, ok := impl.UnstuffBits(text)
			back, _ := impl.UnstuffBits(stuffed)
			if liesIn(stuffed, text) || ok && liesIn(plain, text) || back != "" && liesIn(back, stuffed) {
				t.Fatalf("an answer lies in the text %q", text)
			}
		}
	}
}

// One queue for all talkers, one frame's bytes in all of its places, one list as ids and spoilt rounds: told like any others, and told apart.
func TestBusArgumentsThatShareMemory(t *testing.T) {
	data := []byte{1, 2, 3}
	queue := []impl.Frame{{Id: 2, Data: data}, {Id: 1, Data: data[1:]}, {Id: 2, Data: data[:0]}, {Id: 0, Data: data}}
	rounds := []int{0, 3, 5}
	l := []impl.Talker{{Queue: queue, Share: 2}, {Queue: queue, Share: 3}, {Queue: queue[1:], Share: 1}, {Queue: queue[:2], Share: 1, Errors: 255, Off: true}}
	before := cloneTalkers(l)
	for n := range 20 {
		_, end, ok := line{l, n, 7, rounds}.check(t)
		if !ok {
			t.Fatal("no answer")
		}
		spoilTalkers(t, end)
	}
	if !sameTalkers(l, before) || !slices.Equal(data, []byte{1, 2, 3}) || !slices.Equal(rounds, []int{0, 3, 5}) {
		t.Errorf("a list was changed: %v, %v, %v", l, data, rounds)
	}
	checkWire(t, rounds)
}

// The same call has the same answer every time, many at once too.
func TestBusesAreTheSameEveryTime(t *testing.T) {
	r := rand.New(rand.NewSource(415))
	b := line{fullTalkers(mostTalking, 2), mostTurns, 5, []int{3, 9, 27}}
	sent, end, _ := b.exact()
	f := drawnFrame(r, mostCarried)
	text, s := exactFrame(f), drawnWire(r, 200, 7)
	sum, stuffed := exactRest(s), exactStuffed(s)
	var all sync.WaitGroup
	for range 8 {
		all.Go(func() {
			for range 50 {
				got, last, ok := impl.RunBus(b.l, b.rounds, b.window, b.spoilt)
				if !ok || !slices.Equal(got, sent) || !sameTalkers(last, end) {
					t.Error("another run:", got, last, ok)
				}
				read, ok := impl.ReadFrame(text)
				if !ok || !sameFrame(read, f) || impl.FrameBits(f) != text || !impl.GoodFrame(f) {
					t.Error("another frame:", read, ok)
				}
				one, _ := impl.Crc15(s)
				two, _ := impl.StuffBits(s)
				three, _ := impl.UnstuffBits(two)
				who, leaves, _ := impl.Arbitrate([]int{5, 3, 3})
				if one != sum || two != stuffed || three != s || who != 1 || !slices.Equal(leaves, []int{8, -1, -1}) {
					t.Error("another answer:", one, two, three, who, leaves)
				}
			}
		})
	}
	all.Wait()
}

// sumsAtOnce has many ask for a sum at the same moment.
func sumsAtOnce(t *testing.T) {
	s := drawnWire(rand.New(rand.NewSource(416)), 300, 3)
	want, begin := exactRest(s), make(chan int)
	var all sync.WaitGroup
	for range 64 {
		all.Go(func() {
			<-begin
			if got, ok := impl.Crc15(s); got != want || !ok {
				t.Errorf("Crc15 of %q: %d %v, want %d", s, got, ok, want)
			}
		})
	}
	close(begin)
	all.Wait()
}

// Each of some new processes asks for its first sum from many goroutines at once: only there the sum's table is still to be made.
func TestTheFirstSumsAtOnce(t *testing.T) {
	const child = "FIRST_SUMS"
	if os.Getenv(child) != "" {
		sumsAtOnce(t)
		return
	}
	sumsAtOnce(t)
	for range 8 {
		again := exec.Command(os.Args[0], "-test.run=^TestTheFirstSumsAtOnce$")
		again.Env = append(os.Environ(), child+"=1")
		if out, err := again.CombinedOutput(); err != nil {
			t.Fatalf("%v: %s", err, out)
		}
	}
}

// lineOf takes talkers from numbers: Share, Errors, how many frames, and then the Id and how many bytes of each.
func lineOf(numbers []int, rounds int, window int, spoilt []int, off string) line {
	b := line{rounds: rounds, window: window, spoilt: spoilt}
	next := func() int {
		if len(numbers) == 0 {
			return 0
		}
		n := numbers[0]
		numbers = numbers[1:]
		return n
	}
	for len(numbers) > 0 {
		o := impl.Talker{Share: next(), Errors: next()}
		o.Off = o.Errors == offAt != strings.HasPrefix(off, "x")
		for range leftOf(next(), 10) {
			o.Queue = append(o.Queue, impl.Frame{Id: next(), Data: make([]byte, leftOf(next(), 10))})
		}
		b.l = append(b.l, o)
		off = off[min(1, len(off)):]
	}
	return b
}

// goodLine makes all numbers ones that may be met.
func goodLine(b line) line {
	b = b.clone()
	b.l, b.rounds, b.window = b.l[:min(len(b.l), mostTalking)], leftOf(b.rounds, mostTurns+1), 1+leftOf(b.window, widest)
	b.spoilt = b.spoilt[:min(len(b.spoilt), mostTurns)]
	for i, o := range b.l {
		o.Share, o.Errors = 1+leftOf(o.Share, greatShare), leftOf(o.Errors, offAt+1)
		o.Queue, o.Off = o.Queue[:min(len(o.Queue), mostQueued)], o.Errors == offAt
		for k, f := range o.Queue {
			o.Queue[k] = impl.Frame{Id: leftOf(f.Id, greatestId+1), Data: f.Data[:min(len(f.Data), mostCarried)]}
		}
		b.l[i] = o
	}
	return b
}

// FuzzBuses asks every function of any texts, bytes and numbers.
func FuzzBuses(f *testing.F) {
	f.Add("00000000", "\x00\xff", 291, "\x05\x03\x03", "\x01\x00\x02\x01\x00\x01\x00\x01\x00\x01\x07\x00", 4, 2, "\x00", "")
	f.Add("0000011110000", "", 0, "", "", 0, 1, "", "")
	f.Add("00000100000100000100000100000100000101111111", "\x01\x02\x03\x04\x05\x06\x07\x08", 2047, "\x00\x00\x00\x00\x00\x00", "\x0a\x7c\x09\x7f\x01\x80\x02", 40, 20, "\x00\x01\x02\x7f\x80", "x")
	f.Add("0000002", "\x01\x02\x03\x04\x05\x06\x07\x08\x09", -1, "\x7f\x80", "\x7f\x80\x01", math.MaxInt, math.MinInt, "\xff", ".x")
	f.Fuzz(func(t *testing.T, s string, data string, id int, ids string, talkers string, rounds int, window int, spoilt string, off string) {
		wire := strings.Map(func(r rune) rune { return '0' + r%2 }, s)
		for _, text := range []string{s, wire, s + sevenOnes, wire + sevenOnes} {
			checkRest(t, text)
			checkStuff(t, text)
			checkRead(t, text)
		}
		checkFrame(t, impl.Frame{Id: id, Data: []byte(data)})
		text := checkFrame(t, impl.Frame{Id: leftOf(id, greatestId+1), Data: []byte(data)[:min(len(data), mostCarried)]})
		checkRead(t, turnedBy(text, 0, wire[:min(len(wire), len(text))]))
		checkWire(t, farNumbers(ids))
		b := lineOf(farNumbers(talkers), rounds, window, farNumbers(spoilt), off)
		before := b.clone()
		b.check(t)
		if !b.same(before) {
			t.Fatalf("an argument was changed: %+v, before %+v", b, before)
		}
		// The same with numbers that may be met, so that good ones are met often.
		b = goodLine(b)
		sent, end, ok := b.check(t)
		if !ok {
			t.Fatalf("RunBus of %+v: no answer", b)
		}
		checkQueues(t, b, sent, end)
	})
}
