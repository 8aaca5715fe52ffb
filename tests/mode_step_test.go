package tests

import (
	"math"
	"slices"
	"strings"
	"testing"

	"loop.example/g00047/impl"
)

// strayKinds are kinds that are none; ModeStep knows nothing of parts either.
var strayKinds = []string{"", " ", "fail", "mend", "On", "ON", "on ", " on", "on\x00", "o", "onn", "Go", "goo", "stopp", "sto", "resett", "offf", "of", "hea", "heall", "hurts", "\xff", "\u00f6n", strings.Repeat("stop", 1000)}

// Each mode with each kind, row by row.
func TestModeSteps(t *testing.T) {
	for _, c := range []struct {
		kind   string
		behind [5]int
	}{
		{"on", [5]int{ready, ready, live, lame, stopped}},
		{"go", [5]int{off, live, live, lame, stopped}},
		{"hurt", [5]int{off, ready, lame, lame, stopped}},
		{"heal", [5]int{off, ready, live, live, stopped}},
		{"stop", [5]int{off, stopped, stopped, stopped, stopped}},
		{"reset", [5]int{off, ready, live, lame, ready}},
		{"off", [5]int{off, off, off, off, off}},
		{"", [5]int{off, ready, live, lame, stopped}},
		{"fail", [5]int{off, ready, live, lame, stopped}},
		{"mend", [5]int{off, ready, live, lame, stopped}},
	} {
		for mode, want := range c.behind {
			if got := checkModeStep(t, mode, c.kind); got != want {
				t.Errorf("ModeStep of %d and %q: %d, want %d", mode, c.kind, got, want)
			}
		}
	}
	for _, kind := range strayKinds {
		for _, mode := range allModes {
			if got := checkModeStep(t, mode, kind); got != mode {
				t.Errorf("ModeStep of %d and %q: %d", mode, kind, got)
			}
		}
	}
}

// A mode that is none becomes -1, by off too.
func TestModesThatAreNone(t *testing.T) {
	for _, mode := range append([]int{-1, -2, 5, 6, math.MinInt, math.MaxInt}, strayNumbers...) {
		for _, kind := range slices.Concat(modeKinds, strayKinds) {
			if got := checkModeStep(t, mode, kind); got != -1 {
				t.Errorf("ModeStep of %d and %q: %d", mode, kind, got)
			}
		}
	}
}

// From a mode that is one no kinds lead to none; without reset and off what is stopped stays so.
func TestModeStepsStayModes(t *testing.T) {
	for _, kinds := range listsUpTo(5, modeKinds...) {
		for _, first := range allModes {
			mode, stopped := first, false
			for _, kind := range kinds {
				mode = impl.ModeStep(mode, kind)
				stopped = (stopped || mode == impl.ModeStopped) && kind != "reset" && kind != "off"
				if !slices.Contains(allModes, mode) || stopped && mode != impl.ModeStopped {
					t.Fatalf("from %d by %q: %d", first, kinds, mode)
				}
			}
		}
	}
}
