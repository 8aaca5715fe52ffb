package tests

import (
	"math/rand"
	"slices"
	"strings"
	"testing"

	"loop.example/g00047/impl"
)

// tour has every command and every answer in it.
const tour = "where|look 0|to 3|look 1|go 1|where|to 1|to 2|shift 2|stop|go 0|shift 5|look 0|reset|go 2|where|look 1"

func TestReplaysByHand(t *testing.T) {
	for _, c := range []struct {
		log  string
		good bool
	}{
		{"", true}, {"where = 5 places\n", true}, {"look 0 = far 1\n", true}, {"where = 5 places\nlook 0 = far 1\nlook 1 = far 1\nwhere = at 0\nto 0 = 0+0\nto 4 = 0+1\n", true}, {"stop = stopped\ngo 0 = held\nreset = ready\ngo 0 = went\n", true}, {"shift 2 = none\nshift 5 = shifted\nlook 0 = far 0\n", true},
		// Another answer, another command, none at all.
		{"where = 4 places\n", false}, {"where = at 0\n", false}, {"look 0 = far 0\n", false}, {"look 0 = lost\n", false}, {"look 1 = far 0\n", false}, {"look 4 = far 1\n", false}, {"stop = ready\n", false}, {"where\n", false}, {"where = \n", false}, {"where =\n", false}, {"where = 5 places = 5 places\n", false}, {" = 5 places\n", false}, {"= 5 places\n", false}, {" = \n", false}, {"\n", false}, {" ", false},
		// A log without its last line end, with one too many, ahead or behind.
		{"where = 5 places", false}, {"where = 5 places\n\n", false}, {"\nwhere = 5 places\n", false}, {"where = 5 places\nlook 0 = far 1", false}, {"where = 5 places\n\nlook 0 = far 1\n", false}, {"where = 5 places\r\n", false},
		// Blanks too many or too few.
		{"where  = 5 places\n", false}, {"where =  5 places\n", false}, {"where = 5 places \n", false}, {" where = 5 places\n", false}, {"where= 5 places\n", false}, {"where =5 places\n", false}, {"where=5 places\n", false}, {"where = 5  places\n", false}, {"look  0 = far 1\n", false}, {"look 00 = far 1\n", false}, {"look 0 = far 01\n", false}, {"look 0 = far +1\n", false},
		// An answer with the sign in it: all up to the last one would be the command.
		{"where = 5 places = 5 places\n", false}, {"where = where = 5 places\n", false}, {"look 0 = far 1 = far 1\n", false}, {"where = 5 places = \n", false}, {"where =  = 5 places\n", false}, {" = where = 5 places\n", false}, {"where = 5 = places\n", false},
		// The script that there was without its answers.
		{"where\nlook 0\n", false}, {"where\nlook 0 = far 1\n", false}, {"where = 5 places\nlook 0\n", false},
	} {
		w := worldOf("..#|...", "0 0 0")
		if got := impl.ReplayWorld(w, c.log); got != c.good {
			t.Errorf("ReplayWorld of %q: %v", c.log, got)
		}
		checkReplay(t, w, c.log)
	}
}

// The log of every good script replays, up to sixty lines; one line more does not.
func TestLogsReplay(t *testing.T) {
	r := rand.New(rand.NewSource(541))
	for i := range 600 {
		w := drawnWorld(r, []int{2, 6, mostWide}[i%3])
		log := impl.RunWorld(w, drawnScript(r, w, r.Intn(manyLines+1))).Log
		if !impl.ReplayWorld(w, log) {
			t.Fatalf("ReplayWorld of %v, %q", w, log)
		}
		// In another world it is a log just where it is that one's.
		for _, other := range []impl.World{drawnWorld(r, 3), {Cells: w.Cells, At: w.At, Slip: w.Slip, Seed: r.Intn(greatestSeed + 1)}, {Cells: w.Cells, At: w.At, Slip: r.Intn(greatestSlip + 1), Seed: w.Seed}} {
			checkReplay(t, other, log)
		}
		checkReplay(t, impl.World{Cells: w.Cells, At: w.At, Slip: -1, Seed: w.Seed}, log)
		checkReplay(t, impl.World{Cells: w.Cells, At: -1, Slip: w.Slip, Seed: w.Seed}, log)
	}
	for _, line := range []string{"where = at 0\n", "stop = stopped\n", "shift 255 = none\n", "look 3 = far 0\n", "to 0 = 0+0\n"} {
		for _, many := range []int{0, 1, 59, 60, 61, 62, 10000} {
			if got := impl.ReplayWorld(worldOf(".", "0 0 0"), strings.Repeat(line, many)); got != (many <= manyLines) {
				t.Errorf("ReplayWorld of %d lines %q: %v", many, line, got)
			}
		}
	}
}

// logsToSpoil are logs of a few worlds, one of them of sixty lines.
func logsToSpoil() ([]impl.World, []string) {
	r := rand.New(rand.NewSource(542))
	worlds, logs := []impl.World{worldOf("..#|...", "0 0 0"), worldOf("..#|...", "0 3 1"), worldOf(".", "0 0 0")}, []string{}
	for _, w := range worlds {
		logs = append(logs, impl.RunWorld(w, linesOf(tour)).Log)
	}
	w := drawnWorld(r, 5)
	return append(worlds, w, worlds[2]), append(logs, impl.RunWorld(w, drawnScript(r, w, manyLines)).Log, "where = at 0\n")
}

// Spoilt at any one byte, to any other one, it is no log, but where it is another good script's.
func TestLogsSpoiltAtOneByte(t *testing.T) {
	worlds, logs := logsToSpoil()
	still := 0
	for i, w := range worlds {
		log := logs[i]
		if len(log) == 0 {
			t.Fatalf("no log of %v", w)
		}
		for at := range len(log) {
			checkReplay(t, w, log[:at]+log[at+1:])
			for b := range 256 {
				// The longest log takes longest: of it those bytes are asked that logs have, and a few others.
				if i == 3 && strings.IndexByte("\n =+0129adefhlnoprstuw\r\xff", byte(b)) < 0 {
					continue
				}
				one := string([]byte{byte(b)})
				checkReplay(t, w, log[:at]+one+log[at:])
				if byte(b) != log[at] && checkReplay(t, w, log[:at]+one+log[at+1:]) {
					still++
				}
			}
			// Cut there, from either side.
			checkReplay(t, w, log[:at])
			checkReplay(t, w, log[at:])
		}
	}
	// Another number in a line whose answer stays the same makes another good script.
	if still < 10 {
		t.Error("only", still, "logs of other scripts")
	}
}

// A line left out, told twice, or told at another place.
func TestLogsOfOtherLines(t *testing.T) {
	worlds, logs := logsToSpoil()
	others := 0
	for i, w := range worlds {
		lines := strings.SplitAfter(strings.TrimSuffix(logs[i], "\n"), "\n")
		lines[len(lines)-1] += "\n"
		for at := range lines {
			tries := [][]string{slices.Delete(slices.Clone(lines), at, at+1), slices.Insert(slices.Clone(lines), at, lines[at])}
			for to := range lines {
				moved := slices.Delete(slices.Clone(lines), at, at+1)
				tries = append(tries, slices.Insert(moved, to, lines[at]))
				swapped := slices.Clone(lines)
				swapped[at], swapped[to] = swapped[to], swapped[at]
				tries = append(tries, swapped)
			}
			for _, l := range tries {
				if !checkReplay(t, w, strings.Join(l, "")) {
					others++
				}
			}
		}
	}
	if others < 100 {
		t.Error("only", others, "that are no logs")
	}
}

// An answer of another seed, or of another Slip, is none here.
func TestLogsOfOtherSeeds(t *testing.T) {
	script := strings.Repeat("go 0\nlook 0\ngo 2\nlook 2\n", 15)
	other := 0
	for seed := range 200 {
		w := worldOf("......", "2 5 0")
		w.Seed = seed
		log := impl.RunWorld(w, script).Log
		for with := range 20 {
			w.Seed = with
			if !checkReplay(t, w, log) {
				other++
			}
		}
		w.Seed, w.Slip = seed, 4
		checkReplay(t, w, log)
	}
	if other < 3000 {
		t.Error("only", other, "that are no logs")
	}
}

// A world that is not good has no log, not even the empty one.
func TestReplaysInWrongWorlds(t *testing.T) {
	log := impl.RunWorld(worldOf("..#|...", "0 0 0"), linesOf(tour)).Log
	for _, w := range []impl.World{{}, worldOf("..#|...", "2 0 0"), worldOf("..#|...", "6 0 0"), worldOf("..#|...", "-1 0 0"), worldOf("..#|...", "0 -1 0"), worldOf("..#|...", "0 10 0"), worldOf("..#|...", "0 0 -1"), worldOf("..#|...", "0 0 2147483648"), {Cells: impl.Cells{Wide: 4, Cells: make([]int, 6)}}, worldOf("#", "0 0 0")} {
		for _, l := range []string{"", log, "where = 5 places\n", "\n", "x"} {
			if impl.ReplayWorld(w, l) {
				t.Errorf("ReplayWorld of %v, %q", w, l)
			}
			checkReplay(t, w, l)
		}
	}
}

// Logs that are nearly good, and drawn answers behind drawn commands.
func TestDrawnReplays(t *testing.T) {
	r := rand.New(rand.NewSource(543))
	good := 0
	for range 20000 {
		w := drawnWorld(r, 3)
		log := impl.RunWorld(w, drawnScript(r, w, r.Intn(5))).Log
		for range r.Intn(3) {
			log = anyBytes(r, log)
		}
		if checkReplay(t, w, log) {
			good++
		}
		log = ""
		for range r.Intn(3) {
			log += drawnCommand(r, w) + " = " + []string{"far 0", "far 1", "lost", "went", "held", "at 0", "1 places", "2 places", "unsure", "0+0", "1+0", "none", "shifted", "stopped", "ready", "", "x"}[r.Intn(17)] + "\n"
		}
		if checkReplay(t, w, log) {
			good++
		}
	}
	if good < 5000 {
		t.Error("only", good, "good logs")
	}
}
