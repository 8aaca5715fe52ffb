package tests

import (
	"math/rand"
	"strings"
	"testing"

	"loop.example/g00047/impl"
)

func TestWriteWishByHand(t *testing.T) {
	for _, c := range []struct {
		wish, want string
	}{
		{"|", ""},
		{"a|", "reach a"},
		{"|a", "avoid a"},
		{"a|b", "reach a avoid b"},
		{"b a|", "reach b a"},
		{"Tür|pit hole", "reach Tür avoid pit hole"},
		{"a b c d e f|f e d c b a", "reach a b c d e f avoid f e d c b a"},
		{"Reach Avoid|reachh avoidd", "reach Reach Avoid avoid reachh avoidd"},
		{"é € 😀|\ufffd", "reach é € 😀 avoid \ufffd"},
	} {
		w := wishOf(c.wish)
		if got, ok := impl.WriteWish(w); !ok || got != c.want {
			t.Errorf("WriteWish of %q: %q %v, want %q", w, got, ok, c.want)
		}
		checkWritten(t, w)
	}
	if got, ok := impl.WriteWish(impl.Wish{}); !ok || got != "" {
		t.Errorf("WriteWish of no wish: %q %v", got, ok)
	}
}

// badNames are none: empty, too long, with blanks, with other bytes that are no letters, with bytes that belong to no rune.
var badNames = []string{
	"", strings.Repeat("a", 13), strings.Repeat("é", 13), strings.Repeat("€", 13), strings.Repeat("😀", 13), strings.Repeat("a", 1000),
	" ", "a b", " a", "a ", "1", "a1", "1a", "a-b", "_", "a.", "\x00", "a\x00", "a\t", "\n", "\x7f", "@", "[", "`", "{",
	"\x80", "\xff", "a\xff", "\xc3", "a\xe2\x82", "\xf0\x9f\x98", "\xc0\x80", "\xc1\xa1", "\xe0\x81\xa1", "\xed\xa0\x80", "\xed\xbf\xbf", "\xf4\x90\x80\x80", "é\xa9", "\xef\xbf", "\ufffd\xbd",
}

// goodNames are the least and the greatest, of runes of each kind.
var goodNames = []string{
	"a", "z", "A", "Z", "é", "€", "😀", "\u0080", "\ufffd", "\U0010ffff", "\u2003",
	strings.Repeat("a", 12), strings.Repeat("Z", 12), strings.Repeat("é", 12), strings.Repeat("€", 12), strings.Repeat("😀", 12), "reach", "avoid", "Tür",
}

// withName has the name in the place of the i-th of both lists.
func withName(w impl.Wish, i int, name string) impl.Wish {
	w = cloneWish(w)
	if i < len(w.Reach) {
		w.Reach[i] = name
	} else {
		w.Avoid[i-len(w.Reach)] = name
	}
	return w
}

// Names of 0, 1, 12 and 13 runes, and such with bytes that no name has, at each place of a wish.
func TestWriteWishNames(t *testing.T) {
	for _, plain := range []impl.Wish{wishOf("p|"), wishOf("|p"), wishOf("p q r|s t u"), wishOf("p q r s t u|p q r s t u"), wishOf("p|p")} {
		for i := range len(plain.Reach) + len(plain.Avoid) {
			for _, name := range badNames {
				if checkWritten(t, withName(plain, i, name)) {
					t.Errorf("WriteWish of %q with %q at %d", plain, name, i)
				}
			}
			for _, name := range goodNames {
				if checkWritten(t, withName(plain, i, name)) == (name == "reach" || name == "avoid") {
					t.Errorf("WriteWish of %q with %q at %d", plain, name, i)
				}
			}
		}
	}
}

// A name twice, in one list and in both; six names and seven.
func TestWriteWishLists(t *testing.T) {
	for _, c := range []struct {
		wish string
		want bool
	}{
		{"a|a", true},
		{"a a|", false},
		{"|a a", false},
		{"a b a|", false},
		{"a b c d e a|", false},
		{"a|b c b", false},
		{"|a b c d e e", false},
		{"é é|", false},
		{"a A|", true},
		{"a b c d e f|", true},
		{"|a b c d e f", true},
		{"a b c d e f|a b c d e f", true},
		{"a b c d e f g|", false},
		{"|a b c d e f g", false},
		{"a b c d e f|a b c d e f g", false},
		{"a b c d e f g|a b c d e f", false},
		{"reach|", false},
		{"avoid|", false},
		{"|reach", false},
		{"|avoid", false},
		{"a b|c reach", false},
		{"a avoid|c", false},
		{"reach avoid|reach avoid", false},
	} {
		if got := checkWritten(t, wishOf(c.wish)); got != c.want {
			t.Errorf("WriteWish of %q: %v", c.wish, got)
		}
	}
	checkWritten(t, impl.Wish{Reach: make([]string, 1000)})
	checkWritten(t, impl.Wish{Avoid: drawnNames(rand.New(rand.NewSource(372)), 500, 12, 4)})
}

// A text of MaxWish bytes, and of one more.
func TestWriteWishLongTexts(t *testing.T) {
	five := []string{}
	for i := range 5 {
		five = append(five, strings.Repeat("€", 11)+string(rune(0x4e00+i)))
	}
	for _, c := range []struct {
		more string
		want int
	}{{"abcdefgh", 199}, {"abcdefghi", 200}, {"abcdefghij", 201}, {"éééé", 199}, {"ééééx", 200}, {"ééééé", 201}} {
		for _, w := range []impl.Wish{{Reach: append([]string{c.more}, five...)}, {Avoid: append(five[:5:5], c.more)}} {
			got, ok := impl.WriteWish(w)
			if ok != (c.want <= 200) || ok && len(got) != c.want || !ok && got != "" {
				t.Errorf("WriteWish of %q: %d bytes, %v", w, len(got), ok)
			}
			checkWritten(t, w)
		}
	}
	// The blank and the word between count as well.
	for _, c := range []struct {
		more string
		want int
	}{{"ab", 199}, {"abc", 200}, {"abcd", 201}} {
		w := impl.Wish{Reach: five, Avoid: []string{c.more}}
		if got, ok := impl.WriteWish(w); ok != (c.want <= 200) || ok && len(got) != c.want {
			t.Errorf("WriteWish of %q: %d bytes, %v", w, len(got), ok)
		}
		checkWritten(t, w)
	}
	// 6 and 6 names of 12 runes: letters have room, others have not.
	for _, first := range []rune{'a', 'A', 'é', '€', '😀'} {
		names := []string{}
		for i := range 6 {
			names = append(names, strings.Repeat(string(first+rune(i)), 12))
		}
		w := impl.Wish{Reach: names, Avoid: names}
		if got, ok := impl.WriteWish(w); ok != (first < 128) || ok && len(got) != 167 {
			t.Errorf("WriteWish of %q: %q %v", w, got, ok)
		}
		checkWritten(t, w)
	}
}

// Drawn wishes: what is written is read as the wish.
func TestWriteWishDrawn(t *testing.T) {
	r := rand.New(rand.NewSource(373))
	written := 0
	for range 20000 {
		w := drawnWish(r, drawnBetween(r, 1, 13), drawnBetween(r, 1, 4))
		if checkWritten(t, w) {
			written++
		}
		for _, l := range [][]string{w.Reach, w.Avoid} {
			if len(l) > 1 && r.Intn(4) == 0 {
				l[r.Intn(len(l))] = l[r.Intn(len(l))]
			}
			if len(l) > 0 && r.Intn(4) == 0 {
				l[r.Intn(len(l))] = badNames[r.Intn(len(badNames))]
			}
		}
		checkWritten(t, w)
	}
	if written < 2000 {
		t.Errorf("only %d were written", written)
	}
}
