package tests

import (
	"maps"
	"math/rand"
	"slices"
	"strconv"
	"strings"
	"testing"

	"loop.example/g00047/impl"
)

const (
	longestScript = 2000
	manyLines     = 60
	greatestSlip  = 9
	greatestSeed  = 1<<31 - 1
)

// worldOf are cells by a picture, and the numbers At, Slip and Seed.
func worldOf(picture string, numbers string) impl.World {
	n := listOf(numbers)
	return impl.World{Cells: cellsOf(picture), At: n[0], Slip: n[1], Seed: n[2]}
}

// linesOf has bars between the lines, each of which gets its line end.
func linesOf(s string) string {
	if s == "" {
		return ""
	}
	return strings.ReplaceAll(s, "|", "\n") + "\n"
}

// greatestWorld is a world of 16 by 16 free cells with all other numbers as great as they may be.
func greatestWorld() impl.World {
	return impl.World{Cells: open(mostWide, mostWide), At: mostWide*mostWide - 1, Slip: greatestSlip, Seed: greatestSeed}
}

// commandTexts are all commands that there are, one by one.
func commandTexts() []string {
	all := []string{"where", "stop", "reset"}
	for n := range 256 {
		all = append(all, "to "+strconv.Itoa(n), "shift "+strconv.Itoa(n))
	}
	for _, way := range []string{"0", "1", "2", "3"} {
		all = append(all, "look "+way, "go "+way)
	}
	return all
}

var everyCommand = func() map[string]int {
	all := map[string]int{}
	for _, s := range commandTexts() {
		all[s]++
	}
	return all
}()

func isWorld(w impl.World) bool {
	return isFree(w.Cells, w.At) && isAmong(w.Slip, greatestSlip+1) && isAmong(w.Seed, greatestSeed+1)
}

func cloneWorld(w impl.World) impl.World {
	w.Cells = cloneCells(w.Cells)
	return w
}

func sameWorld(a impl.World, b impl.World) bool {
	return sameCells(a.Cells, b.Cells) && a.At == b.At && a.Slip == b.Slip && a.Seed == b.Seed
}

// exactCoin lets the sum wrap round at 32 bits: the 31 lowest stay the same by that.
func exactCoin(seed int) (int, int) {
	if !isAmong(seed, greatestSeed+1) {
		return 0, 0
	}
	next := (uint32(seed)*1103515245 + 12345) << 1 >> 1
	return int(next), int(next>>16) % 10
}

// checkCoin asks NextCoin of anything.
func checkCoin(t *testing.T, seed int) (int, int) {
	t.Helper()
	next, coin := impl.NextCoin(seed)
	if wantNext, wantCoin := exactCoin(seed); next != wantNext || coin != wantCoin {
		t.Fatalf("NextCoin of %d: %d %d, want %d %d", seed, next, coin, wantNext, wantCoin)
	}
	return next, coin
}

// exactWrong is what Wrong is to be.
func exactWrong(w impl.World, script string) int {
	if !isWorld(w) {
		return -1
	}
	if len(script) > longestScript {
		return 1
	}
	lines := strings.Split(script, "\n")
	for i, line := range lines {
		// What stands behind the last line end is a line just where there is something.
		last := i == len(lines)-1
		if last && line == "" {
			continue
		}
		if last || i >= manyLines || everyCommand[line] == 0 {
			return i + 1
		}
	}
	return 0
}

// outing is a robot on its way, by the test's own word. fars has for each way and each cell how far it is.
type outing struct {
	impl.World
	fars    [4][]int
	maybe   []int
	stopped bool
}

func outingOf(w impl.World) *outing {
	o := &outing{World: w, maybe: placesOf(w.Cells)}
	for way := range o.fars {
		for at := range w.Cells.Cells {
			o.fars[way] = append(o.fars[way], exactFar(w.Cells, at, way))
		}
	}
	return o
}

func (o *outing) stepped(at int, way int) int {
	if o.fars[way][at] == 0 {
		return at
	}
	return at + []int{1, o.Cells.Wide, -1, -o.Cells.Wide}[way]
}

func (o *outing) looks(way int) string {
	far := o.fars[way][o.At]
	other := func(at int) bool { return o.fars[way][at] != far }
	if o.maybe = slices.DeleteFunc(slices.Clone(o.maybe), other); len(o.maybe) > 0 {
		return "far " + strconv.Itoa(far)
	}
	o.maybe = slices.DeleteFunc(placesOf(o.Cells), other)
	return "lost"
}

func (o *outing) goes(way int) string {
	if o.stopped {
		return "held"
	}
	next, coin := exactCoin(o.Seed)
	if o.Seed = next; coin >= o.Slip {
		o.At = o.stepped(o.At, way)
	}
	maybe := map[int]int{}
	for _, at := range o.maybe {
		maybe[o.stepped(at, way)]++
		if o.Slip != 0 {
			maybe[at]++
		}
	}
	o.maybe = slices.Sorted(maps.Keys(maybe))
	return "went"
}

// faresFrom are the least costs to all cells that have a way, made less round by round until none gets less.
func faresFrom(m impl.Cells, from int) map[int]fare {
	best := map[int]fare{from: {}}
	for again := true; again; {
		again = false
		for at := range m.Cells {
			known, ok := best[at]
			if !ok {
				continue
			}
			for next, step := range stepsFrom(m, at) {
				if was, ok := best[next]; !ok || known.plus(step).cmp(was) < 0 {
					best[next], again = known.plus(step), true
				}
			}
		}
	}
	return best
}

func (o *outing) answers(line string) string {
	words := append(strings.Split(line, " "), "0")
	n := numberOf(words[1])
	switch words[0] {
	case "look":
		return o.looks(n)
	case "go":
		return o.goes(n)
	case "where":
		if len(o.maybe) == 1 {
			return "at " + strconv.Itoa(o.maybe[0])
		}
		return strconv.Itoa(len(o.maybe)) + " places"
	case "to":
		if len(o.maybe) != 1 {
			return "unsure"
		}
		if cost, ok := faresFrom(o.Cells, o.maybe[0])[n]; ok {
			return strconv.Itoa(cost.straight) + "+" + strconv.Itoa(cost.slant)
		}
		return "none"
	case "shift":
		if !isFree(o.Cells, n) {
			return "none"
		}
		o.At = n
		return "shifted"
	}
	o.stopped = words[0] == "stop"
	return map[string]string{"stop": "stopped", "reset": "ready"}[words[0]]
}

// tale is what is to be told of a run.
type tale struct {
	log      string
	at       []int
	believed [][]int
}

func exactTale(w impl.World, script string) (tale, int) {
	if wrong := exactWrong(w, script); wrong != 0 {
		return tale{}, wrong
	}
	o := outingOf(w)
	told := tale{"", []int{o.At}, [][]int{slices.Clone(o.maybe)}}
	for line := range strings.SplitSeq(script, "\n") {
		if line == "" {
			continue
		}
		told.log += line + " = " + o.answers(line) + "\n"
		told.at = append(told.at, o.At)
		told.believed = append(told.believed, slices.Clone(o.maybe))
	}
	return told, 0
}

// checkWorld asks of anything what takes a world and a script.
func checkWorld(t *testing.T, w impl.World, script string) (tale, int) {
	t.Helper()
	want, wrong := exactTale(w, script)
	if got := impl.GoodWorld(w); got != isWorld(w) {
		t.Fatalf("GoodWorld of %v: %v", w, got)
	}
	if got := impl.RunWorld(w, script); got != (impl.Run{Log: want.log, Wrong: wrong}) {
		t.Fatalf("RunWorld of %v, %q: %d %q, want %d %q", w, script, got.Wrong, got.Log, wrong, want.log)
	}
	if at, ok := impl.TrueAt(w, script); ok != (wrong == 0) || !slices.Equal(at, want.at) {
		t.Fatalf("TrueAt of %v, %q: %v %v, want %v", w, script, at, ok, want.at)
	}
	if believed, ok := impl.BelievedAt(w, script); ok != (wrong == 0) || !samePaths(believed, want.believed) {
		t.Fatalf("BelievedAt of %v, %q: %v %v, want %v", w, script, believed, ok, want.believed)
	}
	if wrong == 0 {
		checkHope(t, w, script)
		if !impl.ReplayWorld(w, want.log) {
			t.Fatalf("ReplayWorld of %v, %q is false", w, want.log)
		}
	}
	return want, wrong
}

// checkHope: one entry more than there are lines, each a places list, and where it is is among what it believes until a shift moves it; behind a line that tells that it was lost it is so again.
func checkHope(t *testing.T, w impl.World, script string) {
	t.Helper()
	at, _ := impl.TrueAt(w, script)
	believed, _ := impl.BelievedAt(w, script)
	answers := strings.Split(impl.RunWorld(w, script).Log, "\n")
	lines := strings.Split(script, "\n")
	if len(at) != len(lines) || len(believed) != len(lines) || len(answers) != len(lines) {
		t.Fatalf("of %v, %q: %d and %d entries, %d lines of the log", w, script, len(at), len(believed), len(answers)-1)
	}
	moved := false
	for i, l := range believed {
		if i > 0 && strings.HasPrefix(lines[i-1], "shift ") {
			moved = moved || at[i] != at[i-1]
		} else if i > 0 {
			moved = moved && !strings.HasSuffix(answers[i-1], "= lost")
		}
		if len(l) == 0 || !isPlaces(w.Cells, l) || !isFree(w.Cells, at[i]) || !moved && !slices.Contains(l, at[i]) {
			t.Fatalf("of %v, %q behind %d lines: at %d, believed %v", w, script, i, at[i], l)
		}
	}
}

// toldScript is the script of a log, each line begun with a command and what parts it from its answer; false where one is not so.
func toldScript(log string) (string, bool) {
	lines := strings.SplitAfter(log, "\n")
	last := len(lines) - 1
	for i, line := range lines[:last] {
		command, _, parted := strings.Cut(line, " = ")
		if !parted || everyCommand[command] == 0 {
			return "", false
		}
		lines[i] = command + "\n"
	}
	return strings.Join(lines, ""), lines[last] == ""
}

// checkReplay asks ReplayWorld of anything.
func checkReplay(t *testing.T, w impl.World, log string) bool {
	t.Helper()
	script, ok := toldScript(log)
	if ok {
		told, wrong := exactTale(w, script)
		ok = wrong == 0 && told.log == log
	}
	if got := impl.ReplayWorld(w, log); got != ok {
		t.Fatalf("ReplayWorld of %v, %q: %v", w, log, got)
	}
	return ok
}

// drawnWorld has up to so many cells a side, and at least one that is free.
func drawnWorld(r *rand.Rand, most int) impl.World {
	m := drawnCells(r, drawnBetween(r, 1, most), drawnBetween(r, 1, most), drawnBetween(r, 2, 9))
	m.Cells[r.Intn(len(m.Cells))] = impl.CellFree
	free := placesOf(m)
	return impl.World{Cells: m, At: free[r.Intn(len(free))], Slip: max(0, drawnBetween(r, -greatestSlip, greatestSlip)), Seed: []int{0, 1, greatestSeed, r.Intn(greatestSeed + 1)}[r.Intn(4)]}
}

// drawnCommand asks for cells of the world and a few others.
func drawnCommand(r *rand.Rand, w impl.World) string {
	cell := strconv.Itoa(min(255, r.Intn(len(w.Cells.Cells)+2)))
	way := strconv.Itoa(r.Intn(4))
	return []string{"look " + way, "look " + way, "look " + way, "go " + way, "go " + way, "go " + way, "to " + cell, "where", "shift " + cell, "stop", "reset", "reset"}[r.Intn(12)]
}

func drawnScript(r *rand.Rand, w impl.World, many int) string {
	script := ""
	for range many {
		script += drawnCommand(r, w) + "\n"
	}
	return script
}

// anyBytes changes a text at one place: a byte put in, left out, or another one in its place.
func anyBytes(r *rand.Rand, s string) string {
	at, of := r.Intn(len(s)+1), "\n =0123456789abehlnoprstuwx+-\r\x00\xff"
	one := of[r.Intn(len(of)):][:1]
	switch end := min(at+1, len(s)); r.Intn(3) {
	case 0:
		return s[:at] + one + s[at:]
	case 1:
		return s[:at] + s[end:]
	default:
		return s[:at] + one + s[end:]
	}
}
