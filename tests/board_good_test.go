package tests

import (
	"math/rand"
	"slices"
	"strings"
	"testing"

	"loop.example/g00047/impl"
)

func checkBoard(t *testing.T, b impl.Board) bool {
	t.Helper()
	got := impl.GoodBoard(b)
	if want := isBoard(b); got != want {
		t.Fatalf("GoodBoard of %+v: %v", b, got)
	}
	return got
}

func TestGoodBoardByHand(t *testing.T) {
	for _, c := range []struct {
		board string
		want  bool
	}{
		// One place, with and without a name, mine and theirs, leading nowhere and to itself.
		{"+>", true},
		{"->", true},
		{"+a>0", true},
		{"-a>0", true},
		{"", false},
		// Two and more; names may stand at several places; the words are names.
		{"+>1 ->0", true},
		{"+a>0,1 -a>0,1", true},
		{"+reach>1 -avoid>", true},
		{"+>1,2,3 +pit> +Tür> ->1,2", true},
		{"+é>2 -€>0,2 +😀>", true},
		// Names.
		{"+aaaaaaaaaaaa>", true},
		{"+aaaaaaaaaaaaa>", false},
		{"+éééééééééééé>", true},
		{"+ééééééééééééé>", false},
		{"+a1>", false},
		{"+a> -_> +b>", false},
		{"+a> -b> +\xff>", false},
		{"+a> -b> +\ufffd>", true},
		// Next: rising, no number twice, none below 0, none beyond.
		{"+>0,1,2 +> +>", true},
		{"+>0,2,1 +> +>", false},
		{"+>1,0 +>", false},
		{"+>2,0 +> +>", false},
		{"+>1,1 +>", false},
		{"+>0,0", false},
		{"+>0,1,1 +>", false},
		{"+>-1", false},
		{"+>-1,0", false},
		{"+> +> +>-1,1", false},
		{"+>1", false},
		{"+>0,1", false},
		{"+> +> +>0,3", false},
		{"+> +> +>3", false},
		{"+> +> +>2", true},
		{"+> +>3 +>", false},
	} {
		b := boardOf(c.board)
		if got := checkBoard(t, b); got != c.want {
			t.Errorf("GoodBoard of %q: %v", c.board, got)
		}
	}
}

// No place, MaxPlaces of them and one more, each next to all or to none.
func TestGoodBoardSizes(t *testing.T) {
	for n := range 20 {
		for _, b := range []impl.Board{roundBoard(n, n%2 == 0), lineBoard(max(n, 1), true), {Names: make([]string, n), Mine: make([]bool, n), Next: make([][]int, n)}} {
			if got, want := checkBoard(t, b), len(b.Names) >= 1 && len(b.Names) <= 14; got != want {
				t.Errorf("GoodBoard of %d places: %v", len(b.Names), got)
			}
		}
	}
	big := 100000
	checkBoard(t, impl.Board{Names: make([]string, big), Mine: make([]bool, big), Next: make([][]int, big)})
	checkBoard(t, impl.Board{})
	checkBoard(t, impl.Board{Names: []string{}, Mine: []bool{}, Next: [][]int{}})
}

// Lists of different lengths.
func TestGoodBoardLengths(t *testing.T) {
	for names := range 16 {
		for mine := range 16 {
			for next := range 16 {
				b := impl.Board{Names: make([]string, names), Mine: make([]bool, mine), Next: make([][]int, next)}
				if got, want := checkBoard(t, b), names == mine && mine == next && names > 0 && names < 15; got != want {
					t.Errorf("GoodBoard of %d names, %d Mine and %d Next: %v", names, mine, next, got)
				}
			}
		}
	}
}

// Each name at each place.
func TestGoodBoardNames(t *testing.T) {
	for n := 1; n <= 14; n++ {
		for at := range n {
			b := roundBoard(n, true)
			for _, name := range goodNames {
				if b.Names[at] = name; !checkBoard(t, b) {
					t.Errorf("GoodBoard with %q at %d of %d", name, at, n)
				}
			}
			for _, name := range badNames {
				if b.Names[at] = name; checkBoard(t, b) != (name == "") {
					t.Errorf("GoodBoard with %q at %d of %d", name, at, n)
				}
			}
		}
	}
	b := boardOf("+>")
	b.Names[0] = strings.Repeat("a", 100000)
	checkBoard(t, b)
}

// All lists of up to four numbers from -1 on, one more than there are, as Next.
func TestGoodBoardNext(t *testing.T) {
	good := 0
	for _, next := range listsUpTo(4, -1, 0, 1, 2, 3) {
		for at := range 3 {
			b := boardOf("+> -a> +>")
			b.Next[at] = next
			if checkBoard(t, b) {
				good++
			}
		}
	}
	if good != 3*8 {
		t.Errorf("%d boards are good, not 24", good)
	}
	// More numbers than places can't be rising.
	b := roundBoard(14, false)
	b.Next[7] = append(slices.Clone(b.Next[7]), 13)
	if checkBoard(t, b) {
		t.Error("15 numbers are good")
	}
	b.Next[7] = slices.Repeat([]int{0}, 15)
	if checkBoard(t, b) {
		t.Error("15 numbers are good")
	}
}

// Drawn boards of any size, and one number of them changed.
func TestGoodBoardDrawn(t *testing.T) {
	r := rand.New(rand.NewSource(374))
	good := 0
	for range 20000 {
		b := drawnBoard(r, drawnBetween(r, 1, 14), goodNames, drawnBetween(r, 1, 8))
		if !checkBoard(t, b) {
			t.Fatalf("GoodBoard of %+v is false", b)
		}
		next := b.Next[r.Intn(len(b.Next))]
		if len(next) > 0 {
			next[r.Intn(len(next))] += drawnBetween(r, -2, 2)
		}
		if checkBoard(t, b) {
			good++
		}
	}
	if good < 1000 || good > 19000 {
		t.Errorf("%d are good", good)
	}
}
