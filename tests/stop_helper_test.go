package tests

import (
	"math/rand"
	"slices"
	"strings"
	"testing"

	"loop.example/g00047/impl"
)

const (
	longestDelay = 10
	longestBeat  = 10
	longestWatch = 30
	mostTorque   = 1000
	manyPresses  = 6
	lastStopTick = 200
)

// allFaults are all that there are, the one that is none first.
var allFaults = []int{impl.FaultNone, impl.FaultDeafA, impl.FaultDeafB, impl.FaultStuckA, impl.FaultStuckB, impl.FaultMute}

// gearOf has the numbers in the order Delay, Watch, Beat, Ramp, Most.
func gearOf(s string) impl.Gear {
	n := listOf(s)
	return impl.Gear{Delay: n[0], Watch: n[1], Beat: n[2], Ramp: n[3], Most: n[4]}
}

// pressesOf has spaces between the presses: 3..5 is held at 3 and at 4.
func pressesOf(s string) []impl.Press {
	l := []impl.Press{}
	for _, one := range strings.Fields(s) {
		n := listOf(strings.Replace(one, "..", " ", 1))
		l = append(l, impl.Press{From: n[0], To: n[1]})
	}
	return l
}

func isGear(g impl.Gear) bool {
	return isAmong(g.Delay, longestDelay+1) && isAmong(g.Beat-1, longestBeat) && g.Watch >= g.Beat && g.Watch <= longestWatch && isAmong(g.Ramp-1, mostTorque) && isAmong(g.Most-1, mostTorque)
}

// arePresses says by the test's own word whether l is good: all ticks, those of To too, rise.
func arePresses(l []impl.Press) bool {
	last := -1
	for _, p := range l {
		if p.From <= last || p.To <= p.From {
			return false
		}
		last = p.To
	}
	return len(l) <= manyPresses && last <= lastStopTick
}

// checkGear asks GoodGear of anything.
func checkGear(t *testing.T, g impl.Gear) bool {
	t.Helper()
	got := impl.GoodGear(g)
	if got != isGear(g) {
		t.Fatalf("GoodGear of %+v: %v", g, got)
	}
	return got
}

// rampTicks counts the ticks in which Most becomes 0, one by one.
func rampTicks(g impl.Gear) int {
	many := 0
	for torque := g.Most; torque > 0; torque -= g.Ramp {
		many++
	}
	return many
}

// checkBound asks StopBound of anything.
func checkBound(t *testing.T, g impl.Gear) int {
	t.Helper()
	want := 0
	if isGear(g) {
		want = g.Delay + rampTicks(g)
	}
	got := impl.StopBound(g)
	if got != want {
		t.Fatalf("StopBound of %+v: %d, want %d", g, got, want)
	}
	return got
}

// halt is what RunStops is asked of.
type halt struct {
	g       impl.Gear
	presses []impl.Press
	fault   int
	from    int
	ticks   int
}

func (h halt) good() bool {
	return isGear(h.g) && arePresses(h.presses) && slices.Contains(allFaults, h.fault) && isAmong(h.from, lastStopTick+1) && isAmong(h.ticks, lastStopTick+1)
}

func (h halt) clone() halt {
	h.presses = slices.Clone(h.presses)
	return h
}

func (h halt) same(o halt) bool {
	return h.g == o.g && slices.Equal(h.presses, o.presses) && h.fault == o.fault && h.from == o.from && h.ticks == o.ticks
}

// broken says whether the halt has this fault at a tick.
func (h halt) broken(fault int, at int) bool { return h.fault == fault && h.from <= at }

// held tells of each tick whether a press has it.
func (h halt) held() []bool {
	l := make([]bool, h.ticks)
	for _, p := range h.presses {
		for at := p.From; at < p.To && at < h.ticks; at++ {
			l[at] = true
		}
	}
	return l
}

// lastBeat goes back from a tick until the heart did beat, or to 0.
func (h halt) lastBeat(at int) int {
	for ; at > 0; at-- {
		if at%h.g.Beat == 0 && !h.broken(impl.FaultMute, at) {
			return at
		}
	}
	return 0
}

// causes tells of each tick whether a channel with this way to be deaf has cause to stop.
func (h halt) causes(deaf int) []bool {
	held, l := h.held(), []bool{}
	for at := range h.ticks {
		sees := false
		for back := at - h.g.Delay; back >= 0; back-- {
			sees = sees || held[back]
		}
		sees = sees && !h.broken(deaf, at)
		l = append(l, sees || at-h.lastBeat(at) > h.g.Watch)
	}
	return l
}

// lets tells of each tick whether such a channel lets torque through: all its causes so far are looked at.
func (h halt) lets(deaf int, stuck int) []bool {
	causes, l := h.causes(deaf), []bool{}
	for at := range h.ticks {
		l = append(l, h.broken(stuck, at) || !slices.Contains(causes[:at+1], true))
	}
	return l
}

// rested is what RunStops tells.
type rested struct {
	torques []int
	both    []bool
}

func (r rested) same(o rested) bool {
	return slices.Equal(r.torques, o.torques) && slices.Equal(r.both, o.both)
}

// exact has each channel by itself for all ticks, and the torque only then.
func (h halt) exact() (rested, bool) {
	if !h.good() {
		return rested{}, false
	}
	a, b := h.lets(impl.FaultDeafA, impl.FaultStuckA), h.lets(impl.FaultDeafB, impl.FaultStuckB)
	all, torque := rested{}, h.g.Most
	for at := range h.ticks {
		both := a[at] && b[at]
		if both {
			torque += h.g.Ramp
		} else {
			torque -= h.g.Ramp
		}
		torque = max(0, min(torque, h.g.Most))
		all.torques, all.both = append(all.torques, torque), append(all.both, both)
	}
	return all, true
}

// check asks RunStops of anything.
func (h halt) check(t *testing.T) rested {
	t.Helper()
	torques, both, ok := impl.RunStops(h.g, h.presses, h.fault, h.from, h.ticks)
	got := rested{torques, both}
	if want, good := h.exact(); ok != good || !got.same(want) {
		t.Fatalf("RunStops of %+v: %v %v, want %v %v", h, got, ok, want, good)
	}
	return got
}

// checkRest: the torque is 0 from the bound on, by the words of StopBound alone. It tells whether there was such a tick.
func (h halt) checkRest(t *testing.T, got rested) bool {
	t.Helper()
	if len(h.presses) == 0 {
		return false
	}
	from := h.presses[0].From + impl.StopBound(h.g) - 1
	if from >= h.ticks {
		return false
	}
	if slices.Max(got.torques[from:]) != 0 || slices.Contains(got.both[from:], true) {
		t.Fatalf("RunStops of %+v: %v, but it should rest from %d on", h, got, from)
	}
	return true
}

// smallPresses are all good lists of up to two presses with every To up to most.
func smallPresses(most int) [][]impl.Press {
	ones := []impl.Press{}
	for from := range most {
		for to := from + 1; to <= most; to++ {
			ones = append(ones, impl.Press{From: from, To: to})
		}
	}
	return slices.DeleteFunc(listsUpTo(2, ones...), func(l []impl.Press) bool { return !arePresses(l) })
}

func drawnGear(r *rand.Rand) impl.Gear {
	beat, most := 1+r.Intn(longestBeat), []int{5, 30, mostTorque}[r.Intn(3)]
	return impl.Gear{Delay: r.Intn(longestDelay + 1), Beat: beat, Watch: drawnBetween(r, beat, []int{beat, min(beat+3, longestWatch), longestWatch}[r.Intn(3)]), Ramp: 1 + r.Intn([]int{most, max(1, most/10)}[r.Intn(2)]), Most: 1 + r.Intn(most)}
}

// drawnPresses are good ones, up to the tick last.
func drawnPresses(r *rand.Rand, last int) []impl.Press {
	ticks := r.Perm(last + 1)[:2*r.Intn(manyPresses+1)]
	slices.Sort(ticks)
	l := []impl.Press{}
	for two := range slices.Chunk(ticks, 2) {
		l = append(l, impl.Press{From: two[0], To: two[1]})
	}
	return l
}

func drawnHalt(r *rand.Rand) halt {
	last := []int{15, 60, lastStopTick}[r.Intn(3)]
	return halt{drawnGear(r), drawnPresses(r, last), r.Intn(len(allFaults)), r.Intn(last + 1), drawnBetween(r, last/2, min(lastStopTick, 2*last))}
}
