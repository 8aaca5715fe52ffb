package tests

import (
	"maps"
	"math/rand"
	"slices"
	"strings"
	"testing"

	"loop.example/g00047/impl"
)

const (
	longestCareer = 60
	mostWanted    = 10
)

// The modes, as short as the tables of the tests need them.
const (
	off     = impl.ModeOff
	ready   = impl.ModeReady
	live    = impl.ModeLive
	lame    = impl.ModeLame
	stopped = impl.ModeStopped
)

// allModes are all that there are.
var allModes = []int{off, ready, live, lame, stopped}

// modeKinds are all kinds that lead from a mode to another one.
var modeKinds = []string{"on", "go", "hurt", "heal", "stop", "reset", "off"}

// eventsOf has spaces between the events: fail:eye is of a part.
func eventsOf(s string) []impl.Event {
	l := []impl.Event{}
	for _, one := range strings.Fields(s) {
		kind, part, _ := strings.Cut(one, ":")
		l = append(l, impl.Event{Kind: kind, Part: part})
	}
	return l
}

// exactModeStep asks for each kind by itself from which modes it leads, and where to.
func exactModeStep(mode int, kind string) int {
	if !slices.Contains(allModes, mode) {
		return -1
	}
	leads := map[string]map[int]int{
		"on":    {off: ready},
		"go":    {ready: live},
		"hurt":  {live: lame},
		"heal":  {lame: live},
		"stop":  {ready: stopped, live: stopped, lame: stopped},
		"reset": {stopped: ready},
		"off":   {off: off, ready: off, live: off, lame: off, stopped: off},
	}
	if next, is := leads[kind][mode]; is {
		return next
	}
	return mode
}

// checkModeStep asks ModeStep of anything.
func checkModeStep(t *testing.T, mode int, kind string) int {
	t.Helper()
	got := impl.ModeStep(mode, kind)
	if want := exactModeStep(mode, kind); got != want {
		t.Fatalf("ModeStep of %d and %q: %d, want %d", mode, kind, got, want)
	}
	return got
}

// career is what RunModes is asked of.
type career struct {
	events []impl.Event
	needed []string
}

func careerOf(events string, needed string) career {
	return career{eventsOf(events), strings.Fields(needed)}
}

func (c career) good() bool { return len(c.events) <= longestCareer && len(c.needed) <= mostWanted }

func (c career) clone() career { return career{slices.Clone(c.events), slices.Clone(c.needed)} }

func (c career) same(o career) bool {
	return slices.Equal(c.events, o.events) && slices.Equal(c.needed, o.needed)
}

// lame says whether a needed part is among the failed ones.
func (c career) lame(failed map[string]bool) bool {
	for _, part := range c.needed {
		if failed[part] {
			return true
		}
	}
	return false
}

// behindOne is the mode behind an event; failed is as it was ahead of it, and is brought up to it.
func (c career) behindOne(mode int, e impl.Event, failed map[string]bool) int {
	wanted, was := slices.Contains(c.needed, e.Part), failed[e.Part]
	switch e.Kind {
	case "fail":
		failed[e.Part] = true
		if wanted && mode == impl.ModeLive {
			return impl.ModeLame
		}
		if wanted && mode == impl.ModeLame && !was {
			return impl.ModeStopped
		}
		return mode
	case "mend":
		delete(failed, e.Part)
		if wanted && mode == impl.ModeLame && !c.lame(failed) {
			return impl.ModeLive
		}
		return mode
	}
	if (e.Kind == "heal" || e.Kind == "go") && c.lame(failed) {
		return mode
	}
	return exactModeStep(mode, e.Kind)
}

// exact goes from event to event.
func (c career) exact() (int, []string, bool) {
	if !c.good() {
		return 0, nil, false
	}
	mode, failed := impl.ModeOff, map[string]bool{}
	for _, e := range c.events {
		mode = c.behindOne(mode, e, failed)
	}
	return mode, slices.Sorted(maps.Keys(failed)), true
}

// check asks RunModes of anything.
func (c career) check(t *testing.T) (int, []string) {
	t.Helper()
	mode, failed, ok := impl.RunModes(c.events, c.needed)
	if want, parts, good := c.exact(); mode != want || !slices.Equal(failed, parts) || ok != good {
		t.Fatalf("RunModes of %q: %d %q %v, want %d %q %v", c, mode, failed, ok, want, parts, good)
	}
	return mode, failed
}

// drawnEvent is of one of the parts; fail and mend come most often.
func drawnEvent(r *rand.Rand, parts []string) impl.Event {
	kinds := append([]string{"fail", "fail", "mend", "mend", "go", "on", "reset", "", "Stop"}, modeKinds...)
	return impl.Event{Kind: kinds[r.Intn(len(kinds))], Part: parts[r.Intn(len(parts))]}
}

// anyPart is a part of a few bytes, from the least to the greatest.
func anyPart(r *rand.Rand) string {
	b := make([]byte, r.Intn(4))
	for i := range b {
		b[i] = []byte{0, 'a', 'b', 'z', 127, 128, 255}[r.Intn(7)]
	}
	return string(b)
}

func drawnCareer(r *rand.Rand) career {
	parts := []string{}
	for range 1 + r.Intn(12) {
		parts = append(parts, anyPart(r))
	}
	c := career{}
	for range r.Intn([]int{3, mostWanted + 1}[r.Intn(2)]) {
		c.needed = append(c.needed, parts[r.Intn(len(parts))])
	}
	if r.Intn(4) > 0 {
		c.events = eventsOf("on go")
	}
	for range r.Intn([]int{8, longestCareer - 1}[r.Intn(2)]) {
		c.events = append(c.events, drawnEvent(r, parts))
	}
	return c
}
