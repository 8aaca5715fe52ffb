package tests

import (
	"math"
	"math/rand"
	"slices"
	"strings"
	"sync"
	"testing"
	"time"

	"loop.example/g00047/impl"
)

// Nil cells and empty ones are the same, and no world has them.
func TestEmptyListsInWorlds(t *testing.T) {
	for _, cells := range [][]int{nil, {}} {
		for _, wide := range append([]int{0, 1, -1, 2, 16, 17}, strayNumbers...) {
			for _, at := range append([]int{0, 1, -1}, farInts...) {
				checkNoWorld(t, impl.World{Cells: impl.Cells{Wide: wide, Cells: cells}, At: at})
			}
		}
	}
}

// Scripts and logs of any bytes, and such as are far too long.
func TestAnyScriptsAndLogs(t *testing.T) {
	r := rand.New(rand.NewSource(551))
	for range 5000 {
		w, bytes := drawnWorld(r, 3), make([]byte, r.Intn(40))
		for i := range bytes {
			bytes[i] = byte(r.Intn(256))
		}
		checkWorld(t, w, string(bytes))
		checkReplay(t, w, string(bytes))
		checkWorld(t, impl.World{At: r.Intn(9)}, string(bytes))
	}
	for _, one := range []string{"\n", " ", "\x00", "\xff", "where\n", "where = at 0\n", " = ", "look 0", "=\n", "9"} {
		long := strings.Repeat(one, 100000)
		for _, w := range []impl.World{room(), worldOf(".", "0 0 0"), {}} {
			checkWorld(t, w, long)
			checkReplay(t, w, long)
			checkReplay(t, w, "where = at 0\n"+long)
			checkReplay(t, w, long+"where = at 0\n")
		}
	}
}

// What lies behind the cells counts for nothing and stays, as the cells do.
func TestWhatLiesBehindWorlds(t *testing.T) {
	r := rand.New(rand.NewSource(552))
	for range 400 {
		w := drawnWorld(r, 8)
		script := drawnScript(r, w, drawnBetween(r, 0, 20))
		told, _ := checkWorld(t, w, script)
		for _, more := range [][]int{make([]int, w.Cells.Wide), {-1, 3, math.MaxInt}, slices.Repeat([]int{1}, 20), {0}} {
			in := w
			in.Cells.Cells = behind(w.Cells.Cells, more...)
			checkWorld(t, in, script)
			if !impl.ReplayWorld(in, told.log) || !kept(in.Cells.Cells, w.Cells.Cells, sameNumber, more...) {
				t.Fatalf("the cells were changed: %v, before %v", in, w)
			}
		}
	}
	// The rows that would make them good, or that one may be at, lie behind.
	for _, w := range []impl.World{
		{Cells: impl.Cells{Wide: 3, Cells: behind([]int{0, 0}, 0)}}, {Cells: impl.Cells{Wide: 1, Cells: behind([]int{}, 0)}}, {Cells: impl.Cells{Wide: 2, Cells: behind([]int{0, 0}, 0, 0)}, At: 2}, {Cells: impl.Cells{Wide: 2, Cells: behind([]int{1, 1}, 0, 0)}, At: 2},
	} {
		checkNoWorld(t, w)
	}
	w := impl.World{Cells: impl.Cells{Wide: 2, Cells: behind([]int{0, 0}, 0, 0)}}
	checkLog(t, w, "where|look 1|go 1|shift 2|to 2|look 0|to 1|to 2|to 3", "2 places|far 0|went|none|unsure|far 1|1+0|none|none", "0 0 0 0 0 0 0 0 0 0", "0")
}

// Whoever writes into an answer changes nothing else: no other list of it, no later answer, no argument.
func TestWorldAnswersAreNewMemory(t *testing.T) {
	r := rand.New(rand.NewSource(553))
	for range 500 {
		w := drawnWorld(r, 6)
		script, before := drawnScript(r, w, drawnBetween(r, 0, 30)), cloneWorld(w)
		for range 2 {
			told, _ := checkWorld(t, w, script)
			at, _ := impl.TrueAt(w, script)
			believed, _ := impl.BelievedAt(w, script)
			spoil(at, -7)
			if !samePaths(believed, told.believed) {
				t.Fatal("two answers share memory")
			}
			spoilPaths(t, believed)
		}
		if !sameWorld(w, before) {
			t.Fatalf("an argument was changed: %v, before %v", w, before)
		}
	}
	// What is believed stays the same for a while: each entry is a list of its own all the same.
	for _, script := range []string{"where\nwhere\nwhere\n", "stop\ngo 0\nreset\n", "shift 1\nshift 2\nto 0\n", "look 3\nlook 3\nlook 3\n", "look 0\nshift 5\nlook 0\nlook 0\n"} {
		believed, _ := impl.BelievedAt(worldOf("..#|...", "3 0 0"), script)
		spoilPaths(t, believed)
		checkWorld(t, worldOf("..#|...", "3 0 0"), script)
	}
}

// No log that is told lies in the script.
func TestLogsAreNewMemory(t *testing.T) {
	for _, script := range []string{"", "where\n", "look 0\nlook 1\nwhere\n", strings.Repeat("to 255\n", manyLines)} {
		log := impl.RunWorld(room(), script).Log
		if log != "" && (liesIn(log, script) || liesIn(script, log)) {
			t.Errorf("the log of %q lies in it", script)
		}
	}
}

// Worlds whose cells are pieces of one list, scripts that are pieces of one text, and logs as scripts.
func TestWorldsThatShareMemory(t *testing.T) {
	all := make([]int, mostWide*mostWide)
	for i := range all {
		all[i] = max(0, i*i%7-4)
	}
	before, script := slices.Clone(all), strings.Repeat("look 1\ngo 0\nwhere\nlook 0\ngo 1\nto 7\nshift 9\n", 8)
	for wide := 1; wide <= mostWide; wide++ {
		for high := 1; high <= mostWide; high += 3 {
			w := impl.World{Cells: impl.Cells{Wide: wide, Cells: all[:wide*high]}, Slip: wide % 10}
			log := impl.RunWorld(w, script).Log
			checkWorld(t, w, script)
			checkWorld(t, w, script[7:])
			checkWorld(t, w, script[:len(script)-high])
			checkWorld(t, w, log)
			checkReplay(t, w, script)
			// Cells that are an answer of another call.
			believed, _ := impl.BelievedAt(w, script)
			at, _ := impl.TrueAt(w, script)
			checkWorld(t, impl.World{Cells: impl.Cells{Wide: 1, Cells: at}, At: wide}, script)
			checkWorld(t, impl.World{Cells: impl.Cells{Wide: wide, Cells: believed[0]}, At: high}, script)
		}
	}
	if !slices.Equal(all, before) {
		t.Error("the cells were changed:", all)
	}
}

// The same call has the same answer every time, many at once too, all of them with the same cells.
func TestWorldsAreTheSameEveryTime(t *testing.T) {
	r := rand.New(rand.NewSource(554))
	worlds, scripts := []impl.World{{}, room(), room(), room(), greatestWorld()}, []string{"where\n", "fly\n", "", strings.Repeat("x", 3000), strings.Repeat("go 2\nlook 1\n", 30)}
	for range 20 {
		w := drawnWorld(r, 6)
		worlds, scripts = append(worlds, w), append(scripts, drawnScript(r, w, drawnBetween(r, 0, manyLines)))
	}
	tales, wrongs := []tale{}, []int{}
	for i, w := range worlds {
		told, wrong := checkWorld(t, w, scripts[i])
		tales, wrongs = append(tales, told), append(wrongs, wrong)
	}
	var all sync.WaitGroup
	for range 8 {
		all.Go(func() {
			for range 10 {
				for i, w := range worlds {
					run := impl.RunWorld(w, scripts[i])
					at, ok := impl.TrueAt(w, scripts[i])
					believed, okToo := impl.BelievedAt(w, scripts[i])
					next, coin := impl.NextCoin(w.Seed)
					wantNext, wantCoin := exactCoin(w.Seed)
					if run != (impl.Run{Log: tales[i].log, Wrong: wrongs[i]}) || !slices.Equal(at, tales[i].at) || !samePaths(believed, tales[i].believed) || ok != (wrongs[i] == 0) || okToo != ok || impl.GoodWorld(w) != isWorld(w) || impl.ReplayWorld(w, run.Log) != ok && isWorld(w) && run.Log != "" || next != wantNext || coin != wantCoin {
						t.Errorf("another answer of %v, %q: %v, %v %v, %v %v", w, scripts[i], run, at, ok, believed, okToo)
					}
				}
			}
		})
	}
	all.Wait()
}

// No call takes long, with wrong arguments neither; a minute is far more than all of them need.
func TestWorldsAnswerInTime(t *testing.T) {
	answered := make(chan int)
	go func() {
		defer close(answered)
		long := strings.Repeat("where = at 0\n", 100000)
		for _, n := range append([]int{0, 1, 255}, strayNumbers...) {
			for _, script := range []string{long, strings.Repeat("to 0\n", manyLines), strings.Repeat("\n", 1000000)} {
				w := impl.World{Cells: winding(mostWide, mostWide-1), At: n, Slip: 0, Seed: n}
				for _, w := range []impl.World{w, {Cells: w.Cells, At: 239, Seed: n}, {Cells: impl.Cells{Wide: n, Cells: make([]int, 1000)}}} {
					impl.RunWorld(w, script)
					impl.TrueAt(w, script)
					impl.BelievedAt(w, script)
					impl.ReplayWorld(w, script)
				}
			}
			impl.NextCoin(n)
		}
		impl.GoodWorld(impl.World{Cells: impl.Cells{Wide: 1, Cells: make([]int, 10000000)}})
	}()
	select {
	case <-answered:
	case <-time.After(time.Minute):
		t.Fatal("no answer")
	}
}

// scriptFrom takes a byte for each line.
func scriptFrom(s string, w impl.World) string {
	script := ""
	for i := range len(s) {
		script += drawnCommand(rand.New(rand.NewSource(int64(s[i]))), w) + "\n"
	}
	return script
}

// FuzzWorlds asks every function of any numbers and texts.
func FuzzWorlds(f *testing.F) {
	f.Add(3, "\x00\x00\x01\x00\x00\x00", 0, 0, 0, "where\nlook 0\nlook 1\ngo 1\nwhere\nto 1\nstop\ngo 0\nshift 5\nlook 0\nwhere\n", "where = 5 places\n")
	f.Add(1, "\x00", 0, 9, 2147483647, "", "")
	f.Add(1, "\x00", 0, 0, 0, "where\nfly\n", "where = at 0\n")
	f.Add(2, "\x00\x02\x00\x01", 2, 3, 7, "go 0\ngo 1\ngo 2\n", "go 0 = went\n")
	f.Add(0, "", -1, -1, -1, "\n", "\n")
	f.Add(math.MinInt, "\x7f\x80", math.MaxInt, math.MinInt, math.MaxInt, "to 256\n\xff", " = \n")
	f.Fuzz(func(t *testing.T, wide int, cells string, at int, slip int, seed int, script string, log string) {
		w := impl.World{Cells: impl.Cells{Wide: wide, Cells: farNumbers(cells)}, At: at, Slip: slip, Seed: seed}
		before := cloneWorld(w)
		checkWorld(t, w, script)
		checkReplay(t, w, log)
		checkCoin(t, seed)
		if !sameWorld(w, before) {
			t.Fatalf("an argument was changed: %v, before %v", w, before)
		}
		// The same with numbers that may be met, so that good ones are met often.
		w = goodWorld(w)
		checkWorld(t, w, script)
		checkWorld(t, w, scriptFrom(script[:min(len(script), manyLines)], w))
		checkReplay(t, w, log)
		checkReplay(t, w, impl.RunWorld(w, scriptFrom(log[:min(len(log), manyLines)], w)).Log)
		checkCoin(t, w.Seed)
	})
}

// goodWorld makes all numbers ones that may be met, and the cell at which it is free.
func goodWorld(w impl.World) impl.World {
	wide := 1 + leftOf(w.Cells.Wide, mostWide)
	kinds := slices.Concat(w.Cells.Cells, make([]int, wide))
	kinds = kinds[:min(len(kinds)/wide, mostWide)*wide]
	for i := range kinds {
		kinds[i] = max(0, leftOf(kinds[i], 5)-2)
	}
	at := leftOf(w.At, len(kinds))
	kinds[at] = impl.CellFree
	return impl.World{Cells: impl.Cells{Wide: wide, Cells: kinds}, At: at, Slip: leftOf(w.Slip, greatestSlip+1), Seed: leftOf(w.Seed, greatestSeed+1)}
}
