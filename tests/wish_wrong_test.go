package tests

import (
	"math/rand"
	"slices"
	"strings"
	"sync"
	"testing"
	"unsafe"

	"loop.example/g00047/impl"
)

// checkNoWish: a wish that is not good has no answer anywhere, not even on a board of one place.
func checkNoWish(t *testing.T, w impl.Wish) {
	t.Helper()
	if got, ok := impl.WriteWish(w); ok || got != "" {
		t.Errorf("WriteWish of %q: %q %v", w, got, ok)
	}
	for _, s := range []string{"+>", "+p>0", "+>1,2 +p> -q>0", "-reach>0,1 +avoid>0"} {
		b := boardOf(s)
		if got, ok := impl.WinningPlaces(b, w); ok || len(got) != 0 {
			t.Errorf("WinningPlaces of %s, %q: %v %v", s, w, got, ok)
		}
		if got, ok := impl.Strategy(b, w); ok || len(got) != 0 {
			t.Errorf("Strategy of %s, %q: %v %v", s, w, got, ok)
		}
		if met, ok := impl.WishMet(b, w, []int{0}); ok || met {
			t.Errorf("WishMet of %s, %q: %v %v", s, w, met, ok)
		}
	}
}

// Wishes that are not good in each way that the chapter names.
func TestWishesThatAreNotGood(t *testing.T) {
	for _, plain := range []impl.Wish{wishOf("p|"), wishOf("|p"), wishOf("p|p"), wishOf("p q r|s t"), wishOf("p q r s t u|p q r s t u")} {
		for i := range len(plain.Reach) + len(plain.Avoid) {
			for _, name := range badNames {
				checkNoWish(t, withName(plain, i, name))
			}
		}
		for _, l := range [][]string{{"p", "p"}, {"a", "b", "c", "d", "e", "e"}, {"a", "b", "c", "d", "e", "f", "g"}, make([]string, 1), make([]string, 7), slices.Repeat([]string{"a"}, 1000)} {
			checkNoWish(t, impl.Wish{Reach: l, Avoid: plain.Avoid})
			checkNoWish(t, impl.Wish{Reach: plain.Reach, Avoid: l})
		}
	}
}

// The words are names of a wish that has no text: boards answer of it.
func TestWordsAsNames(t *testing.T) {
	b := boardOf("+>1,2 +reach> +avoid>")
	for _, s := range []string{"reach|", "|reach", "avoid|reach", "reach avoid|avoid", "reach|avoid"} {
		w := wishOf(s)
		if text, ok := impl.WriteWish(w); ok || text != "" {
			t.Errorf("WriteWish of %q: %q %v", w, text, ok)
		}
		if places, _ := checkMatch(t, b, w); len(places) == 0 {
			t.Errorf("WinningPlaces of %q: %v", w, places)
		}
		checkMet(t, b, w, []int{0, 1})
	}
}

// Texts of any bytes and of any length.
func TestReadWishWrongTexts(t *testing.T) {
	r := rand.New(rand.NewSource(381))
	for range 20000 {
		bytes := make([]byte, []int{r.Intn(8), r.Intn(30), r.Intn(210)}[r.Intn(3)])
		for i := range bytes {
			bytes[i] = byte(r.Intn(256))
			if r.Intn(2) == 0 {
				bytes[i] = "  ab\xc3\xa9\xe2\x82\xac"[r.Intn(9)]
			}
		}
		checkHeard(t, string(bytes))
		checkHeard(t, "reach "+string(bytes))
		checkHeard(t, "reach a avoid "+string(bytes))
	}
	for _, text := range []string{strings.Repeat("\x00", 200), strings.Repeat("\xff", 200), strings.Repeat("reach ", 33), strings.Repeat("é", 100), strings.Repeat("\xff", 1<<20), strings.Repeat(" ", 1<<20)} {
		checkHeard(t, text)
	}
}

// Nil lists and empty ones are the same wish.
func TestEmptyWishes(t *testing.T) {
	for _, w := range []impl.Wish{{}, {Reach: []string{}}, {Avoid: []string{}}, {Reach: []string{}, Avoid: []string{}}} {
		if got, ok := impl.WriteWish(w); !ok || got != "" {
			t.Errorf("WriteWish of %q: %q %v", w, got, ok)
		}
		if got, ok := impl.WinningPlaces(boardOf("+>"), w); !ok || !slices.Equal(got, []int{0}) {
			t.Errorf("WinningPlaces of %q: %v %v", w, got, ok)
		}
		if met, ok := impl.WishMet(boardOf("+>"), w, []int{0}); !ok || !met {
			t.Errorf("WishMet of %q: %v %v", w, met, ok)
		}
	}
}

// What lies behind the lists counts for nothing and stays, as the lists do.
func TestWhatLiesBehindWishes(t *testing.T) {
	r := rand.New(rand.NewSource(382))
	for range 300 {
		w := drawnWish(r, 3, 2)
		for _, more := range [][]string{{"a"}, {"", "1"}, {"x", "x", "y", "reach", "\xff", "z", "w"}, append(slices.Clone(w.Reach), w.Avoid...)} {
			in := impl.Wish{Reach: behind(w.Reach, more...), Avoid: behind(w.Avoid, more...)}
			checkWritten(t, in)
			checkMatch(t, boardOf("+>1,2 +x> -a>0,1 +y>"), in)
			checkMet(t, boardOf("+a>1 +x>0"), in, []int{0, 1, 0})
			if !kept(in.Reach, w.Reach, sameText, more...) || !kept(in.Avoid, w.Avoid, sameText, more...) {
				t.Fatalf("a list was changed: %q, before %q", in, w)
			}
		}
	}
	if got, ok := impl.WriteWish(impl.Wish{Reach: behind([]string{"a"}, "b"), Avoid: behind([]string{}, "1")}); !ok || got != "reach a" {
		t.Errorf("WriteWish reads behind a list: %q %v", got, ok)
	}
	full := []string{"a", "b", "c", "d", "e", "f"}
	if got, ok := impl.WriteWish(impl.Wish{Reach: behind(full, "g")}); !ok || got != "reach a b c d e f" {
		t.Errorf("WriteWish reads behind a list: %q %v", got, ok)
	}
}

// liesIn says whether a text lies in the memory of another one.
func liesIn(s string, text string) bool {
	at, from := uintptr(unsafe.Pointer(unsafe.StringData(s))), uintptr(unsafe.Pointer(unsafe.StringData(text)))
	return at >= from && at < from+uintptr(len(text))
}

// Whoever writes into a wish that was read changes nothing else; neither it nor a text that was written lies in what was handed in.
func TestWishAnswersAreNewMemory(t *testing.T) {
	r := rand.New(rand.NewSource(383))
	for range 500 {
		w := drawnWish(r, 6, 2)
		before := cloneWish(w)
		text, ok := impl.WriteWish(w)
		again, _ := impl.WriteWish(w)
		if !ok || text != again || !sameWish(w, before) {
			t.Fatalf("WriteWish of %q: %q and %q, %v", w, text, again, ok)
		}
		for _, name := range append(slices.Clone(w.Reach), w.Avoid...) {
			if liesIn(text, name) {
				t.Fatalf("what is written lies in the name %q", name)
			}
		}
		for range 2 {
			read := impl.ReadWish(text)
			for _, name := range append(slices.Clone(read.Wish.Reach), read.Wish.Avoid...) {
				if liesIn(name, text) {
					t.Fatalf("the name %q lies in the text", name)
				}
			}
			spoilBeside(t, [][]string{read.Wish.Reach}, read.Wish.Avoid)
			checkHeard(t, text)
		}
	}
}

// One list as what is to be reached and what is to be avoided, and as the names of the board: told like any others.
func TestWishArgumentsThatShareMemory(t *testing.T) {
	l := []string{"a", "b", "c"}
	w := impl.Wish{Reach: l, Avoid: l[1:]}
	if got, ok := impl.WriteWish(w); !ok || got != "reach a b c avoid b c" {
		t.Errorf("WriteWish of %q: %q %v", w, got, ok)
	}
	b := impl.Board{Names: l, Mine: []bool{true, true, true}, Next: [][]int{{1}, {0, 2}, {0}}}
	checkMatch(t, b, w)
	checkMet(t, b, w, []int{1, 0})
	if !slices.Equal(l, []string{"a", "b", "c"}) {
		t.Errorf("the list was changed: %q", l)
	}
}

// The same call has the same answer every time, many at once too.
func TestWishesAreTheSameEveryTime(t *testing.T) {
	texts := []string{"reach a b avoid c", "reach é\xff", "reach a a", "avoid", "x", strings.Repeat(" ", 201), " avoid Tür  pit"}
	wish := wishOf("a b c|é €")
	want, _ := exactWritten(wish)
	var all sync.WaitGroup
	for range 8 {
		all.Go(func() {
			for range 50 {
				for _, text := range texts {
					if got := impl.ReadWish(text); !sameRead(got, exactHeard(text)) {
						t.Errorf("ReadWish of %q: %+v", text, got)
					}
				}
				if got, ok := impl.WriteWish(wish); !ok || got != want {
					t.Errorf("WriteWish: %q %v", got, ok)
				}
			}
		})
	}
	all.Wait()
}

// FuzzWishes asks ReadWish of any text, and WriteWish of any names: those between the blanks of two texts.
func FuzzWishes(f *testing.F) {
	for _, s := range []string{"", " reach Tür  avoid pit", "reach a1", "reach a avoid a", "reach a a", "reach", "avoid reach", "x", "reach \xe2\x82 b", "reach \ufffd avoid \xef\xbf", "reach abcdefghijklm", "reach a b c d e f g", strings.Repeat(" ", 201)} {
		f.Add(s, s)
	}
	f.Add("a b c", "d é €")
	f.Add("reach", "avoid")
	f.Fuzz(func(t *testing.T, text string, other string) {
		checkHeard(t, text)
		checkHeard(t, "reach "+text+" avoid "+other)
		w := impl.Wish{Reach: strings.Split(text, " "), Avoid: strings.Split(other, " ")}
		before := cloneWish(w)
		checkWritten(t, w)
		checkMatch(t, boardOf("+a>1,2 -b>0,2 +c>"), w)
		checkMet(t, boardOf("+a>1,2 -b>0,2 +c>"), w, []int{0, 1, 2})
		if !sameWish(w, before) {
			t.Fatalf("an argument was changed: %q, before %q", w, before)
		}
	})
}
