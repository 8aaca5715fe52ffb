package tests

import (
	"math/rand"
	"slices"
	"strings"
	"testing"

	"loop.example/g00047/impl"
)

// The log of a script's beginning is the beginning of its log, and so are the lists.
func TestBeginningsOfScripts(t *testing.T) {
	r := rand.New(rand.NewSource(531))
	for i := range 200 {
		w := drawnWorld(r, []int{2, 5, mostWide}[i%3])
		script := drawnScript(r, w, drawnBetween(r, 1, manyLines))
		log := impl.RunWorld(w, script).Log
		at, _ := impl.TrueAt(w, script)
		believed, _ := impl.BelievedAt(w, script)
		begun, behind := "", script
		for n := 0; behind != ""; n++ {
			line, rest, _ := strings.Cut(behind, "\n")
			begun, behind = begun+line+"\n", rest
			run := impl.RunWorld(w, begun)
			gotAt, ok := impl.TrueAt(w, begun)
			gotBelieved, okToo := impl.BelievedAt(w, begun)
			if run.Wrong != 0 || !strings.HasPrefix(log, run.Log) || strings.Count(run.Log, "\n") != n+1 || !ok || !okToo || !slices.Equal(gotAt, at[:n+2]) || !samePaths(gotBelieved, believed[:n+2]) {
				t.Fatalf("of %v, %q: %v, %v, %v, the beginning of %q", w, begun, run, gotAt, gotBelieved, log)
			}
			if !impl.ReplayWorld(w, run.Log) {
				t.Fatalf("ReplayWorld of %v, %q", w, run.Log)
			}
		}
	}
}

// What the log tells is what the two lists tell.
func TestLogsAndLists(t *testing.T) {
	r := rand.New(rand.NewSource(532))
	for range 500 {
		w := drawnWorld(r, 7)
		script := drawnScript(r, w, manyLines)
		at, _ := impl.TrueAt(w, script)
		believed, _ := impl.BelievedAt(w, script)
		lines := strings.Split(impl.RunWorld(w, script).Log, "\n")
		for i := range manyLines {
			command, answer, _ := strings.Cut(lines[i], " = ")
			word, number, _ := strings.Cut(command, " ")
			same := slices.Equal(believed[i], believed[i+1])
			ok := true
			switch answer {
			case "held", "stopped", "ready", "none", "unsure":
				ok = same && at[i] == at[i+1]
			case "shifted":
				ok = same && at[i+1] == numberOf(number)
			case "went":
				kept := !slices.ContainsFunc(believed[i], func(one int) bool { return !slices.Contains(believed[i+1], one) })
				ok = exactStep(w.Cells, at[i], numberOf(number)) == at[i+1] || at[i] == at[i+1] && w.Slip > 0
				ok = ok && (w.Slip == 0 || kept)
			case "lost":
				ok = at[i] == at[i+1] && !slices.ContainsFunc(believed[i], func(one int) bool { return slices.Contains(believed[i+1], one) })
			}
			if word == "look" && answer != "lost" {
				ok = ok && !slices.ContainsFunc(believed[i+1], func(one int) bool { return !slices.Contains(believed[i], one) })
			}
			if !ok {
				t.Fatalf("of %v, %q: line %q, at %d, then %d, believed %v, then %v", w, script, lines[i], at[i], at[i+1], believed[i], believed[i+1])
			}
		}
	}
}

// Until the first shift that moves it, where it is is among what it believes: in all drawn worlds, however it slips.
func TestWhereItIsIsBelieved(t *testing.T) {
	r := rand.New(rand.NewSource(533))
	sure := 0
	for i := range 1500 {
		w := drawnWorld(r, []int{3, 6, mostWide}[i%3])
		script := ""
		for range manyLines {
			line := drawnCommand(r, w)
			for strings.HasPrefix(line, "shift") {
				line = drawnCommand(r, w)
			}
			script += line + "\n"
		}
		at, ok := impl.TrueAt(w, script)
		believed, okToo := impl.BelievedAt(w, script)
		for k, one := range at {
			if !ok || !okToo || !slices.Contains(believed[k], one) {
				t.Fatalf("of %v, %q behind %d lines: at %d, believed %v", w, script, k, one, believed[k])
			}
			if len(believed[k]) == 1 {
				sure++
			}
		}
		if strings.Contains(impl.RunWorld(w, script).Log, "lost") {
			t.Fatalf("of %v, %q: lost without a shift", w, script)
		}
	}
	if sure < 1000 {
		t.Error("it is sure only", sure, "times")
	}
	// A shift to where it is moves nothing; one to another cell does, and it need not find out.
	w := worldOf("..#|...", "3 0 0")
	at, _ := impl.TrueAt(w, "look 0\nshift 3\nwhere\nshift 4\nwhere\n")
	believed, _ := impl.BelievedAt(w, "look 0\nshift 3\nwhere\nshift 4\nwhere\n")
	if !slices.Equal(at, listOf("3 3 3 3 4 4")) || !samePaths(believed, pathsOf("0 1 3 4 5|3|3|3|3|3")) {
		t.Error(at, believed)
	}
}

// The lists by hand, line by line.
func TestListsByHand(t *testing.T) {
	for _, c := range []struct{ numbers, script, at, believed string }{
		{"0 0 0", "where|look 0|look 1|go 1|where|to 1|stop|go 0|shift 5|look 0|where", "0 0 0 0 3 3 3 3 3 5 5 5", "0 1 3 4 5|0 1 3 4 5|0 4|0|3|3|3|3|3|3|1 5|1 5"},
		{"3 1 0", "look 0|go 0|go 0|go 0|look 2|look 3", "3 3 3 4 5 5 5", "0 1 3 4 5|3|3 4|3 4 5|3 4 5|5|5"},
		{"4 0 0", "go 1|go 2|go 3|go 0|go 0", "4 4 3 0 1 1", "0 1 3 4 5|3 4 5|3 4|0 1|1|1"},
		{"1 0 0", "shift 2|shift 1|shift 0|look 1|shift 9|reset", "1 1 1 0 0 0 0", "0 1 3 4 5|0 1 3 4 5|0 1 3 4 5|0 1 3 4 5|0 1|0 1|0 1"},
	} {
		w := worldOf("..#|...", c.numbers)
		at, ok := impl.TrueAt(w, linesOf(c.script))
		believed, okToo := impl.BelievedAt(w, linesOf(c.script))
		if !ok || !okToo || !slices.Equal(at, listOf(c.at)) || !samePaths(believed, pathsOf(c.believed)) {
			t.Errorf("of %q, %q: %v %v, %v %v", c.numbers, c.script, at, ok, believed, okToo)
		}
		checkWorld(t, w, linesOf(c.script))
	}
}

// Where Wrong is not 0 there are no lists.
func TestListsOfWrongScripts(t *testing.T) {
	for _, script := range []string{"\n", "where", "where\nfly\n", strings.Repeat("where\n", 61), strings.Repeat("x", 2001), "look 0\nlook 4\n", "where\r\n"} {
		at, ok := impl.TrueAt(room(), script)
		believed, okToo := impl.BelievedAt(room(), script)
		if len(at) != 0 || len(believed) != 0 || ok || okToo {
			t.Errorf("of %q: %v %v, %v %v", script, at, ok, believed, okToo)
		}
	}
}
