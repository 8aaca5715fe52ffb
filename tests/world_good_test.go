package tests

import (
	"math"
	"math/big"
	"math/rand"
	"testing"

	"loop.example/g00047/impl"
)

func TestWorldsByHand(t *testing.T) {
	for _, c := range []struct {
		picture, numbers string
		good             bool
	}{
		// One cell, and all numbers as little as they may be.
		{".", "0 0 0", true}, {"#", "0 0 0", false}, {"?", "0 0 0", false},
		{"..#|...", "0 0 0", true}, {"..#|...", "5 9 2147483647", true}, {"..#|...", "2 0 0", false}, {"..?|...", "2 0 0", false},
		{"..#|...", "6 0 0", false}, {"..#|...", "-1 0 0", false}, {"..#|...", "3 -1 0", false}, {"..#|...", "3 10 0", false},
		{"..#|...", "3 0 -1", false}, {"..#|...", "3 0 2147483648", false}, {"..#|...", "3 9 0", true}, {"..#|...", "3 0 2147483647", true},
		{"................", "15 0 0", true}, {"................", "16 0 0", false}, {".................", "0 0 0", false}, {".|.|.|.|.|.|.|.|.|.|.|.|.|.|.|.", "15 4 7", true}, {".|.|.|.|.|.|.|.|.|.|.|.|.|.|.|.|.", "0 4 7", false},
	} {
		w := worldOf(c.picture, c.numbers)
		if got := impl.GoodWorld(w); got != c.good {
			t.Errorf("GoodWorld of %q, %q: %v", c.picture, c.numbers, got)
		}
		checkWorld(t, w, "where\n")
		checkWorld(t, w, "")
	}
	if !impl.GoodWorld(greatestWorld()) {
		t.Error("the greatest world is not good")
	}
	if impl.GoodWorld(impl.World{}) {
		t.Error("the zero world is good")
	}
}

// Each number at its limits and one beyond each, in worlds of several sizes.
func TestNumbersOfWorlds(t *testing.T) {
	for _, w := range []impl.World{worldOf(".", "0 0 0"), worldOf("#.|?.", "1 3 5"), worldOf("..#|...", "4 0 1"), greatestWorld(), {Cells: open(1, mostWide), At: 3}, {Cells: open(mostWide, 1), At: 3}} {
		if !impl.GoodWorld(w) {
			t.Fatal(w)
		}
		n := len(w.Cells.Cells)
		for at := -n - 2; at <= 2*n+2; at++ {
			in := w
			in.At = at
			if got := impl.GoodWorld(in); got != (at >= 0 && at < n && w.Cells.Cells[at] == 0) {
				t.Errorf("GoodWorld of %v: %v", in, got)
			}
		}
		for slip := -12; slip <= 22; slip++ {
			in := w
			in.Slip = slip
			if got := impl.GoodWorld(in); got != (slip >= 0 && slip <= 9) {
				t.Errorf("GoodWorld of %v: %v", in, got)
			}
		}
		for _, near := range []int{0, 2147483647, 1 << 32} {
			for seed := near - 3; seed <= near+3; seed++ {
				in := w
				in.Seed = seed
				if got := impl.GoodWorld(in); got != (seed >= 0 && seed <= 2147483647) {
					t.Errorf("GoodWorld of %v: %v", in, got)
				}
			}
		}
	}
}

// checkNoWorld: a world that is not good has -1 for every script, and the zero answer of all else.
func checkNoWorld(t *testing.T, w impl.World) {
	t.Helper()
	if impl.GoodWorld(w) {
		t.Fatalf("GoodWorld of %v", w)
	}
	for _, script := range []string{"", "where\n", "fly\n", "where", "\n", string(make([]byte, 3000))} {
		if got := impl.RunWorld(w, script); got != (impl.Run{Wrong: -1}) {
			t.Fatalf("RunWorld of %v, %q: %v", w, script, got)
		}
		if at, ok := impl.TrueAt(w, script); len(at) != 0 || ok {
			t.Fatalf("TrueAt of %v, %q: %v %v", w, script, at, ok)
		}
		if believed, ok := impl.BelievedAt(w, script); len(believed) != 0 || ok {
			t.Fatalf("BelievedAt of %v, %q: %v %v", w, script, believed, ok)
		}
	}
	for _, log := range []string{"", "where = at 0\n", "where = 5 places\n", "look 0 = far 0\n", "stop = stopped\n", "where", "\n"} {
		if impl.ReplayWorld(w, log) {
			t.Fatalf("ReplayWorld of %v, %q", w, log)
		}
	}
}

// Cells that are not good, in each way, with any other numbers.
func TestWorldsOfCellsThatAreNone(t *testing.T) {
	for _, m := range manySides() {
		for _, at := range []int{0, 1, len(m.Cells) - 1} {
			w := impl.World{Cells: m, At: at}
			if isWorld(w) {
				checkWorld(t, w, "look 0\nwhere\n")
				continue
			}
			checkNoWorld(t, w)
		}
	}
	for m := range wrongKinds() {
		for at := range m.Cells {
			checkNoWorld(t, impl.World{Cells: m, At: at, Slip: at % 10, Seed: at})
		}
	}
	// No cell is free: then there is none to be at.
	for _, m := range []impl.Cells{cellsOf("#"), cellsOf("?"), cellsOf("#?|?#")} {
		for at := -1; at <= len(m.Cells); at++ {
			checkNoWorld(t, impl.World{Cells: m, At: at})
		}
	}
}

// Each number wrong alone, and several at once.
func TestWorldsOfNumbersThatAreNone(t *testing.T) {
	for _, n := range append([]int{-1, -6, 6, 10, 11, 255, 256, 1 << 31, 1<<31 + 1, -1 << 31}, strayNumbers...) {
		for _, put := range []func(*impl.World){
			func(w *impl.World) { w.At = n }, func(w *impl.World) { w.Slip = n }, func(w *impl.World) { w.Seed = n }, func(w *impl.World) { w.Cells.Wide = n }, func(w *impl.World) { w.Cells.Cells[0] = n }, func(w *impl.World) { w.Cells.Cells[5] = n },
			func(w *impl.World) { w.At, w.Slip = n, n }, func(w *impl.World) { w.At, w.Seed = n, n }, func(w *impl.World) { w.Slip, w.Seed = n, n }, func(w *impl.World) { w.At, w.Slip, w.Seed, w.Cells.Wide = n, n, n, n },
		} {
			w := worldOf("..#|...", "3 4 5")
			put(&w)
			// Some of these numbers may be met in some places.
			if isWorld(w) {
				checkWorld(t, w, "go 0\nlook 1\nwhere\n")
				continue
			}
			checkNoWorld(t, w)
		}
	}
}

func TestNextCoinByHand(t *testing.T) {
	for _, c := range []struct{ seed, next, coin int }{
		{0, 12345, 0}, {1, 1103527590, 8}, {2, 59559187, 8}, {12345, 1406932606, 8}, {2147483646, 2087949151, 9}, {2147483647, 1043980748, 9},
		{-1, 0, 0}, {2147483648, 0, 0}, {2147483649, 0, 0}, {-2147483648, 0, 0}, {1 << 32, 0, 0}, {math.MaxInt, 0, 0}, {math.MinInt, 0, 0}, {math.MaxInt - 1, 0, 0}, {math.MinInt + 1, 0, 0},
	} {
		if next, coin := impl.NextCoin(c.seed); next != c.next || coin != c.coin {
			t.Errorf("NextCoin of %d: %d %d, want %d %d", c.seed, next, coin, c.next, c.coin)
		}
		checkCoin(t, c.seed)
	}
}

// A chain of drawn seeds, in long numbers too; each coin comes about as often as each other one.
func TestNextCoinChain(t *testing.T) {
	times, more, size := big.NewInt(1103515245), big.NewInt(12345), big.NewInt(2147483648)
	often, seed := make([]int, 10), 0
	for range 100000 {
		exact := new(big.Int).Mul(big.NewInt(int64(seed)), times)
		exact.Mod(exact.Add(exact, more), size)
		next, coin := checkCoin(t, seed)
		if !exact.IsInt64() || exact.Int64() != int64(next) || coin != next/65536%10 {
			t.Fatalf("NextCoin of %d: %d %d, want %v", seed, next, coin, exact)
		}
		often[coin]++
		seed = next
	}
	for coin, n := range often {
		if n < 9000 || n > 11000 {
			t.Errorf("the coin %d comes %d times of 100000", coin, n)
		}
	}
}

// Seeds at all sizes, and beyond both ends.
func TestNextCoinOfAnySeed(t *testing.T) {
	r := rand.New(rand.NewSource(521))
	for range 200000 {
		checkCoin(t, r.Intn(greatestSeed+1)>>r.Intn(32))
		checkCoin(t, int(r.Uint64()))
		checkCoin(t, greatestSeed-r.Intn(3)+r.Intn(5))
		checkCoin(t, r.Intn(5)-2)
	}
	for _, seed := range strayNumbers {
		checkCoin(t, seed)
	}
	// No two seeds lead to one: all small ones, and all next to the greatest, lead to as many.
	met := map[int]int{}
	for seed := range 50000 {
		low, _ := impl.NextCoin(seed)
		high, _ := impl.NextCoin(greatestSeed - seed)
		met[low]++
		met[high]++
	}
	if len(met) != 100000 {
		t.Error(len(met), "seeds behind 100000")
	}
}
