package tests

import (
	"math/rand"
	"slices"
	"strconv"
	"strings"
	"testing"

	"loop.example/g00047/impl"
)

// checkLog: the answers, bars between them, where it is at first and behind each line, and what it believes in the end.
func checkLog(t *testing.T, w impl.World, script string, answers string, at string, believed string) {
	t.Helper()
	lines, told, log := strings.Split(script, "|"), strings.Split(answers, "|"), ""
	for i, line := range lines {
		log += line + " = " + told[i] + "\n"
	}
	if got := impl.RunWorld(w, linesOf(script)); len(told) != len(lines) || got.Log != log || got.Wrong != 0 {
		t.Errorf("RunWorld of %v, %q: %d %q, want %q", w, script, got.Wrong, got.Log, log)
	}
	if got, ok := impl.TrueAt(w, linesOf(script)); !ok || !slices.Equal(got, listOf(at)) {
		t.Errorf("TrueAt of %v, %q: %v %v, want %s", w, script, got, ok, at)
	}
	got, ok := impl.BelievedAt(w, linesOf(script))
	if !ok || len(got) != len(lines)+1 || !slices.Equal(got[0], placesOf(w.Cells)) || !slices.Equal(got[len(got)-1], listOf(believed)) {
		t.Errorf("BelievedAt of %v, %q: %v %v, want %s", w, script, got, ok, believed)
	}
	if !impl.ReplayWorld(w, log) {
		t.Errorf("ReplayWorld of %v, %q is false", w, log)
	}
	checkWorld(t, w, linesOf(script))
}

type runWorldCase struct{ numbers, script, answers, at, believed string }

// In two rows, one wall: the cells 0 and 1, and under them 3, 4 and 5.
func TestCommandsByHand(t *testing.T) {
	for _, c := range []runWorldCase{
		// A look along each of the four ways, towards free cells, the wall and the edge.
		{"0 0 0", "look 0", "far 1", "0 0", "0 4"}, {"0 0 0", "look 1", "far 1", "0 0", "0 1"}, {"0 0 0", "look 2", "far 0", "0 0", "0 3"}, {"0 0 0", "look 3", "far 0", "0 0", "0 1 5"},
		{"1 0 0", "look 0", "far 0", "1 1", "1 5"}, {"1 0 0", "look 2", "far 1", "1 1", "1 4"}, {"5 0 0", "look 3", "far 0", "5 5", "0 1 5"}, {"5 0 0", "look 2", "far 2", "5 5", "5"}, {"3 0 0", "look 0", "far 2", "3 3", "3"}, {"4 0 0", "look 3", "far 1", "4 4", "3 4"}, {"4 0 0", "look 1", "far 0", "4 4", "3 4 5"},
		{"4 0 0", "look 0|look 1|where", "far 1|far 0|at 4", "4 4 4 4", "4"}, {"4 9 7", "look 2|look 3|where", "far 1|far 1|at 4", "4 4 4 4", "4"},
		// Going into the wall and over the edge, and into a free cell.
		{"1 0 0", "go 0", "went", "1 1", "1 4 5"}, {"1 0 0", "go 0|go 0", "went|went", "1 1 1", "1 5"}, {"1 0 0", "go 3", "went", "1 1", "0 1 5"}, {"0 0 0", "go 2", "went", "0 0", "0 3 4"}, {"5 0 0", "go 1", "went", "5 5", "3 4 5"}, {"5 0 0", "go 3", "went", "5 5", "0 1 5"},
		{"0 0 0", "go 0", "went", "0 1", "1 4 5"}, {"0 0 0", "go 1", "went", "0 3", "3 4 5"}, {"4 0 0", "go 2", "went", "4 3", "0 3 4"}, {"4 0 0", "go 3", "went", "4 1", "0 1 5"}, {"3 0 0", "go 0|go 0|go 0", "went|went|went", "3 4 5 5", "1 5"},
		// With Slip 0 what it believed before is not kept; above 0 it is, whether it slipped or not.
		{"3 0 0", "look 0|go 0|where", "far 2|went|at 4", "3 3 4 4", "4"}, {"3 1 1", "look 0|go 0|where", "far 2|went|2 places", "3 3 4 4", "3 4"}, {"3 1 0", "look 0|go 0|where", "far 2|went|2 places", "3 3 3 3", "3 4"}, {"3 9 0", "look 0|go 0|go 0|where", "far 2|went|went|3 places", "3 3 3 3 3", "3 4 5"}, {"3 9 0", "look 0|go 1|where", "far 2|went|at 3", "3 3 3 3", "3"}, {"3 5 0", "go 0", "went", "3 3", "0 1 3 4 5"},
		// Coins below Slip, just as great, and above: behind the seed 0 comes 0, behind 1 comes 8, behind the greatest 9.
		{"3 0 0", "go 0", "went", "3 4", "1 4 5"}, {"3 1 0", "go 0", "went", "3 3", "0 1 3 4 5"}, {"3 8 1", "go 0", "went", "3 4", "0 1 3 4 5"}, {"3 9 1", "go 0", "went", "3 3", "0 1 3 4 5"}, {"3 7 1", "go 0", "went", "3 4", "0 1 3 4 5"}, {"3 9 2147483647", "go 0", "went", "3 4", "0 1 3 4 5"},
		// Held: neither a step nor a coin. The coins behind the seed 0 are 0 and 8.
		{"3 1 0", "go 0|go 0", "went|went", "3 3 4", "0 1 3 4 5"}, {"3 1 0", "stop|go 0|reset|go 0|go 0", "stopped|held|ready|went|went", "3 3 3 3 3 4", "0 1 3 4 5"}, {"3 1 0", "stop|go 0|go 0|go 0|reset|go 0", "stopped|held|held|held|ready|went", "3 3 3 3 3 3 3", "0 1 3 4 5"}, {"3 0 0", "look 0|stop|go 0|where", "far 2|stopped|held|at 3", "3 3 3 3 3", "3"}, {"3 4 0", "look 0|stop|go 0|where", "far 2|stopped|held|at 3", "3 3 3 3 3", "3"}, {"3 0 0", "stop|go 0", "stopped|held", "3 3 3", "0 1 3 4 5"},
		// Stopped twice, ready without having been stopped, stopped again; all but going goes on.
		{"3 0 0", "stop|stop|go 0", "stopped|stopped|held", "3 3 3 3", "0 1 3 4 5"}, {"3 0 0", "reset|go 0", "ready|went", "3 3 4", "1 4 5"}, {"3 0 0", "stop|stop|reset|go 0", "stopped|stopped|ready|went", "3 3 3 3 4", "1 4 5"}, {"3 0 0", "reset|stop|go 0|reset|reset|go 0|stop|go 0", "ready|stopped|held|ready|ready|went|stopped|held", "3 3 3 3 3 3 4 4 4", "1 4 5"}, {"3 0 0", "stop|look 0|where|to 5|shift 1|look 0", "stopped|far 2|at 3|2+0|shifted|lost", "3 3 3 3 3 1 1", "1 5"},
		// Where: one place and several.
		{"3 0 0", "where", "5 places", "3 3", "0 1 3 4 5"}, {"3 0 0", "look 1|where", "far 0|3 places", "3 3 3", "3 4 5"}, {"0 0 0", "look 0|where|look 1|where", "far 1|2 places|far 1|at 0", "0 0 0 0 0", "0"},
		// To: unsure, the place itself, straight and slant steps, a wall, beyond the grid.
		{"3 0 0", "to 3", "unsure", "3 3", "0 1 3 4 5"}, {"3 0 0", "to 2", "unsure", "3 3", "0 1 3 4 5"}, {"3 0 0", "look 0|to 3|to 4|to 5|to 0|to 1", "far 2|0+0|1+0|2+0|1+0|0+1", "3 3 3 3 3 3 3", "3"}, {"3 0 0", "look 0|to 2|to 6|to 7|to 255", "far 2|none|none|none|none", "3 3 3 3 3 3", "3"}, {"5 0 0", "look 2|to 1|to 0", "far 2|2+0|1+1", "5 5 5 5", "5"},
		// Shift: to free cells, itself too, to the wall, beyond the grid. Nothing of what it believes changes.
		{"3 0 0", "shift 5|where|shift 0", "shifted|5 places|shifted", "3 5 5 0", "0 1 3 4 5"}, {"3 0 0", "look 0|shift 5|where|shift 3|where", "far 2|shifted|at 3|shifted|at 3", "3 3 5 5 3 3", "3"}, {"3 0 0", "shift 3", "shifted", "3 3", "0 1 3 4 5"}, {"3 0 0", "shift 2|shift 6|shift 255", "none|none|none", "3 3 3 3", "0 1 3 4 5"},
		// What it can't know: it goes on from where it is, and reckons from where it believes to be.
		{"3 0 0", "look 0|shift 5|to 5|go 2|where", "far 2|shifted|2+0|went|at 3", "3 3 5 5 4 4", "3"}, {"3 0 0", "look 0|shift 4|look 1|where", "far 2|shifted|far 0|at 3", "3 3 4 4 4", "3"}, {"3 0 0", "look 0|shift 4|look 0|where", "far 2|shifted|lost|2 places", "3 3 4 4 4", "0 4"},
		// Lost: what it believes then is what all places leave, not what it believed.
		{"0 0 0", "look 0|look 1|go 1|where|to 1|stop|go 0|shift 5|look 0|where", "far 1|far 1|went|at 3|0+1|stopped|held|shifted|lost|2 places", "0 0 0 3 3 3 3 3 5 5 5", "1 5"}, {"3 0 0", "look 0|shift 5|look 2|where", "far 2|shifted|lost|at 5", "3 3 5 5 5", "5"}, {"3 0 0", "look 0|shift 0|look 1|look 0|where", "far 2|shifted|lost|far 1|at 0", "3 3 0 0 0 0", "0"}, {"3 0 0", "look 0|shift 1|look 0|shift 3|look 0|where", "far 2|shifted|lost|shifted|lost|at 3", "3 3 1 1 3 3 3", "3"},
	} {
		checkLog(t, worldOf("..#|...", c.numbers), c.script, c.answers, c.at, c.believed)
	}
}

// Where a way can't be come to, or leads round walls; cells that are not known are as walls.
func TestWaysOfWorldsByHand(t *testing.T) {
	for _, c := range []struct {
		picture string
		runWorldCase
	}{
		{".#..", runWorldCase{"0 0 0", "look 0|look 2|to 2|to 3|to 0|to 1|to 4", "far 0|far 0|none|none|0+0|none|none", "0 0 0 0 0 0 0 0", "0"}}, {".?..", runWorldCase{"3 0 0", "look 2|where|to 2|to 0|to 1", "far 1|at 3|1+0|none|none", "3 3 3 3 3 3", "3"}},
		{"...|.#.|..?", runWorldCase{"7 0 0", "look 2|look 3|look 1|where|look 0|go 2|to 2", "far 1|far 0|far 0|2 places|far 0|went|4+0", "7 7 7 7 7 7 6 6", "6"}}, {"..|#.", runWorldCase{"0 0 0", "look 0|to 3|to 1|to 2", "far 1|2+0|1+0|none", "0 0 0 0 0", "0"}},
		{"....|....|....|....", runWorldCase{"0 0 0", "look 0|look 1|to 15|to 14|to 11|to 7|to 3|to 16", "far 3|far 3|0+3|1+2|1+2|2+1|3+0|none", "0 0 0 0 0 0 0 0 0", "0"}},
		// One cell: it knows where it is from the first on.
		{".", runWorldCase{"0 0 0", "where|look 0|look 1|look 2|look 3|go 0|go 3|to 0|to 1|shift 0|shift 1|stop|go 1|reset|where", "at 0|far 0|far 0|far 0|far 0|went|went|0+0|none|shifted|none|stopped|held|ready|at 0", "0 0 0 0 0 0 0 0 0 0 0 0 0 0 0 0", "0"}}, {"#.?", runWorldCase{"1 9 5", "where|go 0|go 2|to 1|to 0|shift 0|shift 2|where", "at 1|went|went|0+0|none|none|none|at 1", "1 1 1 1 1 1 1 1 1", "1"}},
	} {
		checkLog(t, worldOf(c.picture, c.numbers), c.script, c.answers, c.at, c.believed)
	}
}

// An empty script tells nothing but what is so at first.
func TestEmptyScripts(t *testing.T) {
	for _, w := range []impl.World{worldOf(".", "0 0 0"), worldOf("..#|...", "3 4 5"), greatestWorld()} {
		if got := impl.RunWorld(w, ""); got != (impl.Run{}) {
			t.Errorf("RunWorld of %v: %v", w, got)
		}
		at, ok := impl.TrueAt(w, "")
		believed, okToo := impl.BelievedAt(w, "")
		if !ok || !okToo || !slices.Equal(at, []int{w.At}) || len(believed) != 1 || !slices.Equal(believed[0], placesOf(w.Cells)) || !impl.ReplayWorld(w, "") {
			t.Errorf("of %v: %v %v, %v %v", w, at, ok, believed, okToo)
		}
		checkWorld(t, w, "")
	}
}

// Sixteen by sixteen free cells, sixty lines, and all numbers as great as they may be.
func TestGreatestWorlds(t *testing.T) {
	checkLog(t, greatestWorld(), "look 0|look 1|where|look 2|look 3|where|to 0|to 240|to 15|to 255|go 2|go 0|go 2|where|stop|go 3|shift 255|shift 0|look 0|where|to 255|reset|look 2|look 1|look 3|where|to 255|look 0|look 0",
		"far 0|far 0|at 255|far 15|far 15|at 255|0+15|15+0|15+0|0+0|went|went|went|3 places|stopped|held|shifted|shifted|lost|16 places|unsure|ready|far 0|far 15|far 0|at 0|0+15|far 15|far 15", "255 255 255 255 255 255 255 255 255 255 255 254 255 255 255 255 255 255 0 0 0 0 0 0 0 0 0 0 0 0", "0")
	for _, slip := range []int{0, 1, 9} {
		for _, at := range []int{0, 15, 240, 255, 119} {
			w := greatestWorld()
			w.At, w.Slip = at, slip
			for _, script := range []string{strings.Repeat("go 2\ngo 3\n", 30), strings.Repeat("go 0\ngo 1\ngo 2\ngo 3\n", 15), strings.Repeat("look 0\nlook 1\nlook 2\n", 20), strings.Repeat("shift 255\n", 60), strings.Repeat("shift 0\nlook 1\nshift 255\nlook 1\n", 15), strings.Repeat("where\n", 60), strings.Repeat("look 0\nlook 1\nto 0\nto 119\n", 15)} {
				checkWorld(t, w, script)
			}
		}
	}
	r := rand.New(rand.NewSource(523))
	for range 40 {
		w := greatestWorld()
		w.Cells = drawnCells(r, mostWide, mostWide, drawnBetween(r, 3, 30))
		w.Cells.Cells[w.At] = impl.CellFree
		checkWorld(t, w, drawnScript(r, w, manyLines))
	}
	// Ways that wind as much as they can.
	for _, m := range []impl.Cells{winding(mostWide, mostWide-1), spiral(mostWide)} {
		free := placesOf(m)
		w := impl.World{Cells: m, At: free[len(free)-1]}
		script := "look 0\nlook 1\nlook 2\nlook 3\ngo 2\nlook 3\nlook 1\ngo 0\nlook 0\nlook 1\nwhere\n"
		for n := range 49 {
			script += "to " + strconv.Itoa(free[n*len(free)/49]) + "\n"
		}
		checkWorld(t, w, script)
	}
}

// Whether it goes or stays hangs on the coin and Slip alone: at each step of a run of sixty, for each Slip.
func TestCoinsOfSteps(t *testing.T) {
	r := rand.New(rand.NewSource(524))
	for range 200 {
		for slip := range greatestSlip + 1 {
			w := impl.World{Cells: open(3, 1), At: 1, Slip: slip, Seed: r.Intn(greatestSeed + 1)}
			at, ok := impl.TrueAt(w, strings.Repeat("go 0\nshift 1\n", manyLines/2))
			seed := w.Seed
			for step := range manyLines / 2 {
				next, coin := impl.NextCoin(seed)
				seed = next
				if went := at[2*step+1] == 2; !ok || went != (coin >= slip) || at[2*step+2] != 1 {
					t.Fatalf("of %v, step %d, coin %d: %v %v", w, step, coin, at, ok)
				}
			}
		}
	}
}

// No line but one that goes draws a coin.
func TestLinesThatDrawNoCoin(t *testing.T) {
	r := rand.New(rand.NewSource(525))
	for range 300 {
		w := drawnWorld(r, 6)
		w.Slip = drawnBetween(r, 1, greatestSlip)
		bare, full, went := "", "", []int{0}
		for range 14 {
			line := "go " + strconv.Itoa(r.Intn(4)) + "\n"
			bare += line
			full += []string{"look 2\nwhere\n", "to 1\nreset\n", "stop\ngo 0\nreset\n", "stop\nstop\nreset\n", "look 0\n", "shift 255\nto 255\n", ""}[r.Intn(7)]
			full += line
			went = append(went, strings.Count(full, "\n"))
		}
		alone, ok := impl.TrueAt(w, bare)
		among, okToo := impl.TrueAt(w, full)
		for i, line := range went {
			if !ok || !okToo || alone[i] != among[line] {
				t.Fatalf("of %v: %v of %q, %v of %q", w, alone, bare, among, full)
			}
		}
		checkWorld(t, w, full)
	}
}

// All worlds of up to four cells, each place, with all scripts of two lines of all commands that are of use there.
func TestAllSmallWorlds(t *testing.T) {
	lines := strings.Split("look 0|look 1|look 2|look 3|go 0|go 1|go 2|go 3|where|to 0|to 3|to 4|shift 0|shift 1|shift 4|stop|reset", "|")
	scripts := []string{}
	eachTexts(lines, 2, func(l []string) { scripts = append(scripts, strings.Join(l, "\n")+"\n") })
	for _, sides := range [][2]int{{1, 1}, {2, 1}, {1, 2}, {3, 1}, {1, 3}, {2, 2}, {4, 1}} {
		eachMap(sides[0], sides[1], func(m impl.Cells) {
			for at := range m.Cells {
				for _, slip := range []int{0, 1, 9} {
					for _, script := range scripts {
						checkWorld(t, impl.World{Cells: m, At: at, Slip: slip, Seed: len(script)}, script)
					}
				}
			}
		})
	}
}

// All scripts of three lines, and of four, in a few worlds.
func TestAllShortScripts(t *testing.T) {
	for _, c := range []struct {
		w     impl.World
		lines string
		n     int
	}{
		{worldOf("..#|...", "0 0 0"), "look 0|look 1|look 2|look 3|go 0|go 1|go 2|go 3|where|to 1|to 2|to 5|shift 1|shift 2|shift 5|stop|reset", 3},
		{worldOf("..#|...", "4 1 0"), "look 0|look 1|look 2|look 3|go 0|go 1|go 2|go 3|where|to 1|to 2|to 5|shift 1|shift 2|shift 5|stop|reset", 3},
		{worldOf("...|.?.", "3 0 9"), "look 0|look 1|go 0|go 3|where|to 2|shift 5|stop|reset", 4},
		{worldOf("...|.?.", "3 9 9"), "look 0|look 1|go 0|go 3|where|to 2|shift 5|stop|reset", 4},
	} {
		eachTexts(strings.Split(c.lines, "|"), c.n, func(l []string) {
			checkWorld(t, c.w, strings.Join(l, "\n")+"\n")
		})
	}
}

// Drawn worlds and scripts up to the limits; all answers come often.
func TestDrawnWorlds(t *testing.T) {
	r := rand.New(rand.NewSource(526))
	answers := map[string]int{}
	for i := range 3000 {
		w := drawnWorld(r, []int{3, 5, 8, mostWide}[i%4])
		told, _ := checkWorld(t, w, drawnScript(r, w, r.Intn(manyLines+1)))
		for line := range strings.Lines(told.log) {
			command, answer, _ := strings.Cut(strings.TrimSpace(line), " = ")
			word, _, _ := strings.Cut(command, " ")
			kind := strings.Join(strings.FieldsFunc(answer, func(c rune) bool { return strings.ContainsRune("0123456789 ", c) }), " ")
			answers[word+" "+kind]++
		}
	}
	for _, kind := range []string{"look far", "look lost", "go went", "go held", "where at", "where places", "to unsure", "to +", "to none", "shift shifted", "shift none", "stop stopped", "reset ready"} {
		if answers[kind] < 200 {
			t.Errorf("%q comes %d times", kind, answers[kind])
		}
	}
	if len(answers) != 13 {
		t.Error(answers)
	}
}
