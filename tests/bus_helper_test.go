package tests

import (
	"bytes"
	"cmp"
	"fmt"
	"math/big"
	"math/bits"
	"math/rand"
	"slices"
	"strconv"
	"strings"
	"testing"

	"loop.example/g00047/impl"
)

const (
	mostOnWire  = 300
	mostCarried = 8
	greatestId  = 2047
	mostTalking = 6
	mostQueued  = 8
	mostTurns   = 40
	widest      = 20
	greatShare  = 10
	offAt       = 255
)

// sevenOnes stand behind the stuffed bits of a frame.
const sevenOnes = "1111111"

// isWire says by the test's own word whether s is a text of bits that may be given.
func isWire(s string) bool {
	return len(s) <= mostOnWire && strings.Count(s, "0")+strings.Count(s, "1") == len(s)
}

// exactRest is what is left of the bits, with fifteen noughts behind them, when they are divided as a polynomial whose numbers are 0 and 1.
func exactRest(s string) int {
	by, rest := big.NewInt(1<<15|17817), new(big.Int)
	rest.SetString("0"+s+strings.Repeat("0", 15), 2)
	for rest.BitLen() > 15 {
		rest.Xor(rest, new(big.Int).Lsh(by, uint(rest.BitLen()-16)))
	}
	return int(rest.Int64())
}

// checkRest asks Crc15 of anything.
func checkRest(t *testing.T, s string) int {
	t.Helper()
	want, good := 0, isWire(s)
	if good {
		want = exactRest(s)
	}
	got, ok := impl.Crc15(s)
	if got != want || ok != good {
		t.Fatalf("Crc15 of %q: %d %v, want %d %v", s, got, ok, want, good)
	}
	return got
}

// fiveAlike is where the first five alike of a text end; 0 where there are none.
func fiveAlike(s string) int {
	ends := []int{}
	for _, five := range []string{"00000", "11111"} {
		if at := strings.Index(s, five); at >= 0 {
			ends = append(ends, at+5)
		}
	}
	if len(ends) == 0 {
		return 0
	}
	return slices.Min(ends)
}

func otherOf(bit byte) string { return string("10"[bit-'0']) }

// exactStuffed stuffs what is behind the first five alike together with the bit that was put in, which counts there as the first one.
func exactStuffed(s string) string {
	end := fiveAlike(s)
	if end == 0 {
		return s
	}
	return s[:end] + exactStuffed(otherOf(s[end-1])+s[end:])
}

// exactUnstuffed goes the same way back.
func exactUnstuffed(s string) (string, bool) {
	end := fiveAlike(s)
	if end == 0 {
		return s, true
	}
	if end == len(s) || s[end] == s[end-1] {
		return "", false
	}
	rest, ok := exactUnstuffed(s[end:])
	if !ok {
		return "", false
	}
	return s[:end] + rest[1:], true
}

// checkStuff asks StuffBits and UnstuffBits of anything, and UnstuffBits of what is stuffed.
func checkStuff(t *testing.T, s string) (string, string) {
	t.Helper()
	stuffed, plain, good, some := "", "", isWire(s), false
	if good {
		stuffed = exactStuffed(s)
		plain, some = exactUnstuffed(s)
	}
	if got, ok := impl.StuffBits(s); got != stuffed || ok != good {
		t.Fatalf("StuffBits of %q: %q %v, want %q %v", s, got, ok, stuffed, good)
	}
	if got, ok := impl.UnstuffBits(s); got != plain || ok != some {
		t.Fatalf("UnstuffBits of %q: %q %v, want %q %v", s, got, ok, plain, some)
	}
	if good && len(stuffed) <= mostOnWire {
		if got, ok := impl.UnstuffBits(stuffed); got != s || !ok {
			t.Fatalf("UnstuffBits of %q: %q %v, want %q", stuffed, got, ok, s)
		}
	}
	return stuffed, plain
}

func isFrame(f impl.Frame) bool {
	return 0 <= f.Id && f.Id <= greatestId && len(f.Data) <= mostCarried
}

func cloneFrame(f impl.Frame) impl.Frame {
	return impl.Frame{Id: f.Id, Data: slices.Clone(f.Data)}
}

func sameFrame(a impl.Frame, b impl.Frame) bool { return a.Id == b.Id && bytes.Equal(a.Data, b.Data) }

// headOf are the bits ahead of a frame's bytes, whatever numbers they are to tell.
func headOf(id int, many int) string { return fmt.Sprintf("0%011b%04b", id, many) }

// bytesBits are the bytes of a frame, the highest bit first.
func bytesBits(l []byte) string {
	s := ""
	for _, b := range l {
		s += fmt.Sprintf("%08b", b)
	}
	return s
}

// wired are the bits as they go over the wire, their sum behind them.
func wired(s string) string {
	return exactStuffed(s+fmt.Sprintf("%015b", exactRest(s))) + sevenOnes
}

func exactFrame(f impl.Frame) string {
	if !isFrame(f) {
		return ""
	}
	return wired(headOf(f.Id, len(f.Data)) + bytesBits(f.Data))
}

func bitNumber(s string) int {
	n, err := strconv.ParseUint(s, 2, 62)
	if err != nil {
		panic(err)
	}
	return int(n)
}

// exactRead asks part by part what FrameBits says of a frame.
func exactRead(s string) (impl.Frame, bool) {
	if !isWire(s) || !strings.HasSuffix(s, sevenOnes) {
		return impl.Frame{}, false
	}
	plain, ok := exactUnstuffed(s[:len(s)-7])
	if !ok || len(plain) < 31 || plain[0] != '0' {
		return impl.Frame{}, false
	}
	many := bitNumber(plain[12:16])
	if many > mostCarried || len(plain) != 31+8*many || exactRest(plain) != 0 {
		return impl.Frame{}, false
	}
	f := impl.Frame{Id: bitNumber(plain[1:12])}
	for i := range many {
		f.Data = append(f.Data, byte(bitNumber(plain[16+8*i:24+8*i])))
	}
	return f, true
}

// checkFrame asks GoodFrame and FrameBits of anything; the bits of a frame are to be read as it.
func checkFrame(t *testing.T, f impl.Frame) string {
	t.Helper()
	good := isFrame(f)
	if got := impl.GoodFrame(f); got != good {
		t.Fatalf("GoodFrame of %v: %v", f, got)
	}
	got := impl.FrameBits(f)
	if want := exactFrame(f); got != want {
		t.Fatalf("FrameBits of %v: %q, want %q", f, got, want)
	}
	if back, ok := impl.ReadFrame(got); ok != good || good && !sameFrame(back, f) {
		t.Fatalf("ReadFrame of %q: %v %v, want %v", got, back, ok, f)
	}
	return got
}

// checkRead asks ReadFrame of anything; what is read is to have those bits.
func checkRead(t *testing.T, s string) bool {
	t.Helper()
	got, ok := impl.ReadFrame(s)
	if want, good := exactRead(s); ok != good || !sameFrame(got, want) {
		t.Fatalf("ReadFrame of %q: %v %v, want %v %v", s, got, ok, want, good)
	}
	if ok && impl.FrameBits(got) != s {
		t.Fatalf("FrameBits of %v: %q, read from %q", got, impl.FrameBits(got), s)
	}
	return ok
}

func areIds(ids []int) bool {
	return len(ids) >= 1 && len(ids) <= mostTalking && slices.Min(ids) >= 0 && slices.Max(ids) <= greatestId
}

// exactWire: the least id is on the wire from end to end, so who leaves does so where it is first unlike that one.
func exactWire(ids []int) (int, []int, bool) {
	if !areIds(ids) {
		return 0, nil, false
	}
	least, leaves := slices.Min(ids), []int{}
	for _, id := range ids {
		at := -1
		if id != least {
			at = 11 - bits.Len(uint(id^least))
		}
		leaves = append(leaves, at)
	}
	return slices.Index(ids, least), leaves, true
}

// checkWire asks Arbitrate of anything.
func checkWire(t *testing.T, ids []int) bool {
	t.Helper()
	who, leaves, ok := impl.Arbitrate(ids)
	first, places, good := exactWire(ids)
	if who != first || ok != good || !slices.Equal(leaves, places) {
		t.Fatalf("Arbitrate of %v: %d %v %v, want %d %v %v", ids, who, leaves, ok, first, places, good)
	}
	return ok
}

// talkersOf has spaces between the talkers: 5,7/2+9 has frames of the Ids 5 and 7, the Share 2 and 9 Errors; /1 has no frame and no Errors.
func talkersOf(s string) []impl.Talker {
	l := []impl.Talker{}
	for _, one := range strings.Fields(s) {
		ids, rest, _ := strings.Cut(one, "/")
		share, errors, some := strings.Cut(rest, "+")
		talker := impl.Talker{Share: numberOf(share)}
		for _, id := range listOf(strings.ReplaceAll(ids, ",", " ")) {
			talker.Queue = append(talker.Queue, impl.Frame{Id: id})
		}
		if some {
			talker.Errors = numberOf(errors)
		}
		talker.Off = talker.Errors == offAt
		l = append(l, talker)
	}
	return l
}

// sentOf has spaces between what was sent: 3:0=5 is the Id 5, by the first talker in the round 3; with an x behind it is spoilt.
func sentOf(s string) []impl.Sent {
	l := []impl.Sent{}
	for _, one := range strings.Fields(s) {
		good := !strings.HasSuffix(one, "x")
		round, rest, _ := strings.Cut(strings.TrimSuffix(one, "x"), ":")
		who, id, _ := strings.Cut(rest, "=")
		l = append(l, impl.Sent{Round: numberOf(round), Who: numberOf(who), Id: numberOf(id), Good: good})
	}
	return l
}

func cloneTalker(o impl.Talker) impl.Talker {
	o.Queue = slices.Clone(o.Queue)
	for i, f := range o.Queue {
		o.Queue[i] = cloneFrame(f)
	}
	return o
}

func cloneTalkers(l []impl.Talker) []impl.Talker {
	all := []impl.Talker{}
	for _, o := range l {
		all = append(all, cloneTalker(o))
	}
	return all
}

func sameTalker(a impl.Talker, b impl.Talker) bool {
	return slices.EqualFunc(a.Queue, b.Queue, sameFrame) && a.Share == b.Share && a.Errors == b.Errors && a.Off == b.Off
}

func sameTalkers(a []impl.Talker, b []impl.Talker) bool { return slices.EqualFunc(a, b, sameTalker) }

// isTalker says by the test's own word whether o is good.
func isTalker(o impl.Talker) bool {
	bad := slices.ContainsFunc(o.Queue, func(f impl.Frame) bool { return !isFrame(f) })
	return !bad && len(o.Queue) <= mostQueued && isAmong(o.Share-1, greatShare) && isAmong(o.Errors, offAt+1) && o.Off == (o.Errors == offAt)
}

// line is what RunBus is asked of.
type line struct {
	l      []impl.Talker
	rounds int
	window int
	spoilt []int
}

func (b line) good() bool {
	bad := slices.ContainsFunc(b.l, func(o impl.Talker) bool { return !isTalker(o) })
	return !bad && len(b.l) <= mostTalking && isAmong(b.rounds, mostTurns+1) && isAmong(b.window-1, widest) && len(b.spoilt) <= mostTurns
}

func (b line) clone() line {
	return line{cloneTalkers(b.l), b.rounds, b.window, slices.Clone(b.spoilt)}
}

func (b line) same(o line) bool {
	return sameTalkers(b.l, o.l) && b.rounds == o.rounds && b.window == o.window && slices.Equal(b.spoilt, o.spoilt)
}

// at is how a talker is behind all that was sent so far: nothing else is kept.
func (b line) at(who int, sent []impl.Sent) impl.Talker {
	now := b.l[who]
	for _, s := range sent {
		switch {
		case s.Who == who && s.Good:
			now.Queue, now.Errors = now.Queue[1:], max(now.Errors-1, 0)
		case s.Who == who:
			now.Errors = min(now.Errors+8, offAt)
		}
	}
	now.Off = now.Errors == offAt
	return now
}

// used is how many frames of its share a talker has sent in the window of a round.
func (b line) used(who int, round int, sent []impl.Sent) int {
	many := 0
	for _, s := range sent {
		if s.Who == who && s.Round/b.window == round/b.window {
			many++
		}
	}
	return many
}

func (b line) exact() ([]impl.Sent, []impl.Talker, bool) {
	if !b.good() {
		return nil, nil, false
	}
	sent, end := []impl.Sent{}, []impl.Talker{}
	for round := range b.rounds {
		ready := []impl.Sent{}
		for who := range b.l {
			if now := b.at(who, sent); !now.Off && len(now.Queue) > 0 && b.used(who, round, sent) < now.Share {
				ready = append(ready, impl.Sent{Round: round, Who: who, Id: now.Queue[0].Id, Good: !slices.Contains(b.spoilt, round)})
			}
		}
		if len(ready) > 0 {
			sent = append(sent, slices.MinFunc(ready, func(a impl.Sent, b impl.Sent) int { return cmp.Or(a.Id-b.Id, a.Who-b.Who) }))
		}
	}
	for who := range b.l {
		end = append(end, b.at(who, sent))
	}
	return sent, end, true
}

// check asks RunBus of anything.
func (b line) check(t *testing.T) ([]impl.Sent, []impl.Talker, bool) {
	t.Helper()
	sent, end, ok := impl.RunBus(b.l, b.rounds, b.window, b.spoilt)
	all, last, good := b.exact()
	if ok != good || !slices.Equal(sent, all) || !sameTalkers(end, last) {
		t.Fatalf("RunBus of %+v: %v %v %v, want %v %v %v", b, sent, end, ok, all, last, good)
	}
	return sent, end, ok
}

// drawnWire has runs of up to so many bits alike.
func drawnWire(r *rand.Rand, many int, alike int) string {
	s := strings.Builder{}
	for s.Len() < many {
		s.WriteString(strings.Repeat(string("01"[r.Intn(2)]), 1+r.Intn(alike)))
	}
	return s.String()[:many]
}

// drawnData has noughts and bytes of eight ones more often than others.
func drawnData(r *rand.Rand, many int) []byte {
	l := []byte{}
	for range many {
		l = append(l, []byte{0, 255, byte(r.Intn(256)), byte(r.Intn(256))}[r.Intn(4)])
	}
	return l
}

func drawnFrame(r *rand.Rand, many int) impl.Frame {
	return impl.Frame{Id: []int{r.Intn(greatestId + 1), r.Intn(8), greatestId - r.Intn(8)}[r.Intn(3)], Data: drawnData(r, many)}
}

// drawnTalker has Ids of which many are alike, and Errors that are near to the ends more often than not.
func drawnTalker(r *rand.Rand, ids int) impl.Talker {
	o := impl.Talker{Share: 1 + r.Intn([]int{2, greatShare}[r.Intn(2)]), Errors: []int{0, r.Intn(3), drawnBetween(r, 225, 255), r.Intn(256)}[r.Intn(4)]}
	o.Off = o.Errors == offAt
	for range r.Intn(mostQueued + 1) {
		f := drawnFrame(r, r.Intn(mostCarried+1))
		f.Id %= ids
		o.Queue = append(o.Queue, f)
	}
	return o
}

func drawnLine(r *rand.Rand) line {
	b := line{rounds: r.Intn(mostTurns + 1), window: 1 + r.Intn([]int{4, widest}[r.Intn(2)])}
	ids := []int{1, 3, 10, greatestId + 1}[r.Intn(4)]
	for range r.Intn(mostTalking + 1) {
		b.l = append(b.l, drawnTalker(r, ids))
	}
	for range r.Intn([]int{1, 8, mostTurns + 1}[r.Intn(3)]) {
		b.spoilt = append(b.spoilt, drawnBetween(r, -2, mostTurns+2))
	}
	return b
}

// eachWire hands every text of n bits to see.
func eachWire(n int, see func(string)) {
	for code := range 1 << n {
		see(fmt.Sprintf("%0*b", n, code)[:n])
	}
}
