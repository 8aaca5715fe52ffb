package tests

import (
	"math/rand"
	"slices"
	"strings"
	"testing"

	"loop.example/g00047/impl"
)

func TestModesByHand(t *testing.T) {
	for _, c := range []struct {
		events, needed string
		mode           int
		failed         string
	}{
		// No events, nothing needed.
		{"", "", off, ""}, {"", "eye", off, ""}, {"on", "", ready, ""}, {"on go", "", live, ""}, {"go on", "", ready, ""}, {"on go fail:eye", "", live, "eye"}, {"on fail:eye go", "", live, "eye"}, {"none on", "", ready, ""},
		// A part that fails once, and twice.
		{"on go fail:eye", "eye arm", lame, "eye"}, {"on go fail:eye fail:eye", "eye arm", lame, "eye"}, {"on go fail:eye fail:arm", "eye arm", stopped, "arm eye"}, {"on go fail:eye fail:eye fail:arm", "eye arm", stopped, "arm eye"}, {"on go fail:eye fail:arm fail:arm", "eye arm", stopped, "arm eye"},
		// One that is not needed counts for nothing, but is told.
		{"on go fail:leg", "eye arm", live, "leg"}, {"on go fail:eye fail:leg", "eye arm", lame, "eye leg"}, {"on go fail:leg fail:eye", "eye arm", lame, "eye leg"}, {"on go fail:leg mend:leg", "eye arm", live, ""}, {"on go fail:eye fail:leg mend:eye", "eye arm", live, "leg"}, {"on go fail:eye fail:leg mend:leg", "eye arm", lame, "eye"},
		// While ModeLame: failed already, or not.
		{"on fail:arm go hurt fail:arm", "eye", lame, "arm"}, {"on go hurt fail:eye", "eye", stopped, "eye"}, {"on go fail:eye mend:eye fail:eye", "eye arm", lame, "eye"}, {"on go hurt fail:leg", "eye", lame, "leg"}, {"on go fail:eye mend:eye hurt fail:eye", "eye arm", stopped, "eye"},
		// Mended: not failed, the last needed one, one ahead of the last.
		{"on go mend:eye", "eye", live, ""}, {"on go fail:eye mend:arm", "eye arm", lame, "eye"}, {"on go fail:eye mend:eye", "eye arm", live, ""}, {"on go hurt mend:eye", "eye", live, ""}, {"on go hurt mend:leg", "eye", lame, ""}, {"on go hurt mend:leg", "", lame, ""}, {"on go hurt fail:leg mend:eye", "eye", live, "leg"},
		// Two of them, and stopped: mending does not lead out of it.
		{"on go fail:eye fail:arm mend:eye mend:arm", "eye arm", stopped, ""}, {"on go fail:eye fail:arm mend:eye reset go", "eye arm", ready, "arm"}, {"on go fail:eye fail:arm mend:eye reset mend:arm go", "eye arm", live, ""},
		// Failed ahead of going on: nothing but that go does nothing.
		{"fail:eye on go", "eye", ready, "eye"}, {"on fail:eye go", "eye", ready, "eye"}, {"on fail:eye go mend:eye", "eye", ready, ""}, {"on fail:eye go mend:eye go", "eye", live, ""}, {"on fail:eye fail:arm", "eye arm", ready, "arm eye"}, {"fail:eye", "eye", off, "eye"}, {"fail:eye mend:eye", "eye", off, ""}, {"on fail:leg go", "eye", live, "leg"},
		// heal while a needed part is failed, and while none is.
		{"on go fail:eye heal", "eye", lame, "eye"}, {"on go hurt heal", "eye", live, ""}, {"on go hurt fail:leg heal", "eye", live, "leg"}, {"on go fail:eye heal mend:eye", "eye", live, ""}, {"on go fail:eye heal stop", "eye", stopped, "eye"},
		// off, stop and reset are not held up by parts; what is failed stays so.
		{"on go fail:eye off", "eye", off, "eye"}, {"on go fail:eye off on go", "eye", ready, "eye"}, {"on go fail:eye stop reset", "eye", ready, "eye"}, {"on go fail:eye off mend:eye on go", "eye", live, ""}, {"on go fail:eye on reset hurt none", "eye", lame, "eye"},
		// Parts of other kinds count for nothing.
		{"on:eye go:eye hurt:eye", "eye", lame, ""}, {"on go stop:eye", "eye", stopped, ""}, {"on go fail:eye heal:eye", "eye", lame, "eye"},
		// A text twice among the needed ones is one part.
		{"on go fail:eye", "eye eye", lame, "eye"}, {"on go fail:eye mend:eye", "eye eye", live, ""}, {"on go fail:eye fail:eye", "eye eye", lame, "eye"},
		// The empty text is a part like others.
		{"on go fail: fail:b", "b", lame, " b"},
		// Parts are told rising, whatever came first.
		{"fail:c fail:a fail:b fail:aa fail:B fail:c", "", off, "B a aa b c"}, {"fail:c fail:a fail:b mend:b mend:x", "", off, "a c"}, {"fail:b mend:b fail:a fail:b", "", off, "a b"},
		// As long as they may be.
		{"on go " + strings.Repeat("fail:eye mend:eye ", 29), "eye", live, ""}, {"on go " + strings.Repeat("fail:eye mend:eye ", 28) + "fail:eye none", "1 2 3 4 5 6 7 8 9 eye", lame, "eye"},
	} {
		run := careerOf(c.events, c.needed)
		mode, failed := run.check(t)
		if mode != c.mode || strings.Join(failed, " ") != c.failed {
			t.Errorf("RunModes of %q, needed %q: %d %q, want %d %q", c.events, c.needed, mode, failed, c.mode, c.failed)
		}
	}
}

// No events, 60 and 61; none needed, 10 and 11, alike or not.
func TestLongModeRuns(t *testing.T) {
	for _, events := range []int{0, 1, 59, 60, 61, 62, 1000} {
		for _, needed := range []int{0, 1, 9, 10, 11, 12, 1000} {
			for _, e := range []string{"on", "fail:a", "none", ":"} {
				c := career{slices.Repeat(eventsOf(e), events), slices.Repeat([]string{"a"}, needed)}
				mode, failed := c.check(t)
				_, _, ok := impl.RunModes(c.events, c.needed)
				if ok != (events <= 60 && needed <= 10) || !ok && (mode != 0 || len(failed) != 0) {
					t.Errorf("RunModes of %d events %q, %d needed: %d %q %v", events, e, needed, mode, failed, ok)
				}
			}
		}
	}
	// 60 parts that fail, each another one, from the last to the first; the first needed one of two stops it.
	c := career{eventsOf("on go"), []string{"p10", "p11", "p12", "p13", "p14", "p15", "p16", "p17", "p18", "p67"}}
	for n := 67; n > 9; n-- {
		c.events = append(c.events, impl.Event{Kind: "fail", Part: "p" + string(rune('0'+n/10)) + string(rune('0'+n%10))})
	}
	mode, failed := c.check(t)
	if len(c.events) != 60 || mode != impl.ModeStopped || len(failed) != 58 || failed[0] != "p10" || failed[57] != "p67" {
		t.Error(len(c.events), mode, failed)
	}
}

// Parts of any bytes: the first unlike one decides, a text that ends there is less.
func TestFailedPartsRise(t *testing.T) {
	rising := []string{"", "\x00", "\x00\x00", "\x00a", " ", "A", "Z", "a", "a\x00", "aa", "a\xff", "b", "z", "\x7f", "\x80", "\xc3", "\xc3\xa4", "\xe2\x82\xac", "\xf0\x9f\x98\x80", "\xff", "\xff\xfe", "\xff\xff"}
	r := rand.New(rand.NewSource(459))
	for range 500 {
		c := career{}
		for _, i := range r.Perm(len(rising)) {
			c.events = append(c.events, impl.Event{Kind: "fail", Part: rising[i]}, impl.Event{Kind: "fail", Part: rising[r.Intn(i+1)]})
		}
		if _, failed := c.check(t); !slices.Equal(failed, rising) {
			t.Fatalf("RunModes of %q: %q", c, failed)
		}
	}
	for i, part := range rising {
		for _, other := range rising {
			c := career{[]impl.Event{{Kind: "on"}, {Kind: "go"}, {Kind: "fail", Part: other}}, []string{part}}
			if mode, _ := c.check(t); (mode == impl.ModeLame) != (other == part) {
				t.Fatalf("RunModes of %q: %d", c, mode)
			}
		}
		if i > 0 && part <= rising[i-1] {
			t.Fatalf("%q does not rise", part)
		}
	}
	long := strings.Repeat("a", 100000)
	c := career{[]impl.Event{{Kind: "fail", Part: long + "b"}, {Kind: "fail", Part: long}, {Kind: long, Part: long}}, []string{long}}
	if _, failed := c.check(t); !slices.Equal(failed, []string{long, long + "b"}) {
		t.Error("long parts do not rise")
	}
}

// All short lists of all kinds with a few parts, from the beginning and from each mode on.
func TestAllShortModeRuns(t *testing.T) {
	happened := eventsOf("on go hurt heal stop reset off none fail:a fail:b fail:c mend:a mend:b mend:c")
	lists := listsUpTo(3, happened...)
	for _, first := range []string{"", "on", "on go", "on go hurt", "on go stop", "on go fail:a", "on go fail:c fail:b", "on go fail:a fail:b", "fail:a on"} {
		for _, needed := range []string{"", "a", "a b", "b a b"} {
			for _, l := range lists {
				c := careerOf(first, needed)
				c.events = append(c.events, l...)
				c.check(t)
			}
		}
	}
	// Longer ones of those that fail and are mended.
	for _, l := range listsUpTo(6, eventsOf("fail:a mend:a fail:b mend:b heal hurt")...) {
		c := careerOf("on go", "a b")
		c.events = append(c.events, l...)
		c.check(t)
	}
}

// Drawn ones up to every limit; each mode comes up.
func TestDrawnModeRuns(t *testing.T) {
	r := rand.New(rand.NewSource(460))
	seen := map[int]int{}
	for range 40000 {
		c := drawnCareer(r)
		if !c.good() {
			t.Fatalf("%q is not good", c)
		}
		mode, failed := c.check(t)
		seen[mode]++
		// Nothing is live with a part that it needs failed.
		if mode == impl.ModeLive && slices.ContainsFunc(failed, func(part string) bool { return slices.Contains(c.needed, part) }) {
			t.Fatalf("RunModes of %q: %d %q", c, mode, failed)
		}
		for i := 1; i < len(failed); i++ {
			if failed[i-1] >= failed[i] {
				t.Fatalf("RunModes of %q: %q do not rise", c, failed)
			}
		}
	}
	for _, mode := range allModes {
		if seen[mode] < 1000 {
			t.Error(seen)
		}
	}
}

// Without parts a run is a row of ModeSteps, whatever is needed.
func TestModeRunsAreTheirSteps(t *testing.T) {
	for _, kinds := range listsUpTo(5, modeKinds...) {
		mode, c := impl.ModeOff, career{needed: []string{"", "a"}}
		for _, kind := range kinds {
			mode = impl.ModeStep(mode, kind)
			c.events = append(c.events, impl.Event{Kind: kind})
		}
		if got, failed := c.check(t); got != mode || len(failed) != 0 {
			t.Fatalf("RunModes of %q: %d %q, but %d step by step", kinds, got, failed, mode)
		}
	}
}

// The order and the number of the needed ones do not matter.
func TestNeededInAnyOrder(t *testing.T) {
	r := rand.New(rand.NewSource(461))
	for range 3000 {
		c := drawnCareer(r)
		mode, failed := c.check(t)
		for range 3 {
			o := c.clone()
			r.Shuffle(len(o.needed), func(i int, j int) { o.needed[i], o.needed[j] = o.needed[j], o.needed[i] })
			if len(o.needed) > 0 && len(o.needed) < mostWanted {
				o.needed = append(o.needed, o.needed[0])
			}
			if m, f := o.check(t); m != mode || !slices.Equal(f, failed) {
				t.Fatalf("RunModes of %q: %d %q, of %q: %d %q", c, mode, failed, o, m, f)
			}
		}
	}
}
