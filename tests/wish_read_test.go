package tests

import (
	"math/rand"
	"slices"
	"strings"
	"testing"

	"loop.example/g00047/impl"
)

func TestWishNumbers(t *testing.T) {
	if impl.MaxWish != mostWishBytes || impl.MaxPlaces != mostPlaces {
		t.Error(impl.MaxWish, impl.MaxPlaces)
	}
	if got := []int{impl.WishWord, impl.WishName, impl.WishRune, impl.WishTwice, impl.WishLong}; !slices.Equal(got, []int{1, 2, 3, 4, 5}) {
		t.Error(got)
	}
}

func TestReadWishByHand(t *testing.T) {
	for _, c := range []struct {
		text string
		want string
	}{
		// Neither, one of them, both.
		{"", "|"},
		{" ", "|"},
		{"     ", "|"},
		{"reach a", "a|"},
		{"avoid a", "|a"},
		{"reach a avoid b", "a|b"},
		{"reach a b c avoid d e", "a b c|d e"},
		{"avoid z y x", "|z y x"},
		// Blanks at the ends, and several between.
		{" reach Tür  avoid pit", "Tür|pit"},
		{"   reach    a   ", "a|"},
		{"  reach  a   b    avoid     c      ", "a b|c"},
		{" avoid a ", "|a"},
		// A name once in each list; big letters and little ones are different names, and so are the words with others.
		{"reach a avoid a", "a|a"},
		{"reach a b avoid b a", "a b|b a"},
		{"reach a A", "a A|"},
		{"reach Reach REACH reac reachh eachr", "Reach REACH reac reachh eachr|"},
		{"avoid Avoid AVOID avoi avoidd reachavoid", "|Avoid AVOID avoi avoidd reachavoid"},
		{"reach reachavoid avoid avoidreach", "reachavoid|avoidreach"},
		// Six names each.
		{"reach a b c d e f", "a b c d e f|"},
		{"avoid a b c d e f", "|a b c d e f"},
		{"reach a b c d e f avoid a b c d e f", "a b c d e f|a b c d e f"},
		// Runes of two, three and four bytes, those at the edges among them; the one that stands for what is none, by its own bytes.
		{"reach é € 😀", "é € 😀|"},
		{"reach \u0080 \u07ff \u0800 \ud7ff \ue000 \uffff", "\xc2\x80 \xdf\xbf \xe0\xa0\x80 \xed\x9f\xbf \xee\x80\x80 \xef\xbf\xbf|"},
		{"avoid \U00010000 \U0010ffff", "|\xf0\x90\x80\x80 \xf4\x8f\xbf\xbf"},
		{"reach \xef\xbf\xbd", "\ufffd|"},
		{"reach a\ufffdb\ufffd avoid \ufffd\ufffd\ufffd", "a\ufffdb\ufffd|\ufffd\ufffd\ufffd"},
		// Other blanks are runes as any.
		{"reach \u2003 avoid \u3000x", ""},
	} {
		want := wishOf(c.want)
		if c.want == "" {
			want = impl.Wish{Reach: []string{"\u2003"}, Avoid: []string{"\u3000x"}}
		}
		if got := impl.ReadWish(c.text); !sameRead(got, impl.WishRead{Wish: want}) {
			t.Errorf("ReadWish of %q: %+v, want %q", c.text, got, want)
		}
		checkHeard(t, c.text)
	}
}

func TestReadWishFaultsByHand(t *testing.T) {
	long := strings.Repeat("a", 13)
	for _, c := range []struct {
		text     string
		code, at int
	}{
		// A name ahead of any word.
		{"a", impl.WishWord, 0},
		{"  a", impl.WishWord, 2},
		{"a reach b", impl.WishWord, 0},
		{" Reach b", impl.WishWord, 1},
		{"reachavoid", impl.WishWord, 0},
		// Words twice, in the wrong order, right behind one another, in the place of names.
		{"reach a reach b", impl.WishWord, 8},
		{"reach a reach", impl.WishWord, 8},
		{"avoid a avoid b", impl.WishWord, 8},
		{"reach a avoid b avoid c", impl.WishWord, 16},
		{"reach a avoid b reach c", impl.WishWord, 16},
		{"reach a avoid b reach", impl.WishWord, 16},
		{"avoid a reach b", impl.WishWord, 8},
		{"avoid a reach", impl.WishWord, 8},
		{"reach avoid", impl.WishWord, 6},
		{"reach avoid a", impl.WishWord, 6},
		{"reach   avoid a", impl.WishWord, 8},
		{"reach reach", impl.WishWord, 6},
		{"reach reach a", impl.WishWord, 6},
		{"avoid reach a", impl.WishWord, 6},
		{"avoid avoid a", impl.WishWord, 6},
		{"reach a avoid avoid", impl.WishWord, 14},
		{"reach a avoid reach", impl.WishWord, 14},
		// A word with no name behind it: At is the text's length.
		{"reach", impl.WishName, 5},
		{"avoid", impl.WishName, 5},
		{" reach", impl.WishName, 6},
		{"reach ", impl.WishName, 6},
		{"  avoid   ", impl.WishName, 10},
		{"reach a avoid", impl.WishName, 13},
		{"reach a avoid ", impl.WishName, 14},
		{"reach é avoid  ", impl.WishName, 16},
		// Names that are too long, and a seventh one.
		{"reach " + long, impl.WishName, 6},
		{"reach a  avoid " + long, impl.WishName, 15},
		{"reach a b c d e f g", impl.WishName, 18},
		{"avoid a b c d e f g", impl.WishName, 18},
		{"reach a b c d e f avoid a b c d e f g", impl.WishName, 36},
		{"reach a b c d e f g avoid a", impl.WishName, 18},
		// Twice in one list.
		{"reach a a", impl.WishTwice, 8},
		{"reach a b a", impl.WishTwice, 10},
		{"avoid a a", impl.WishTwice, 8},
		{"reach a avoid b c b", impl.WishTwice, 18},
		{"reach a b c d e e", impl.WishTwice, 16},
		{"reach é é", impl.WishTwice, 9},
		// Bytes below 128 that are no letters.
		{"reach a1", impl.WishRune, 7},
		{"1", impl.WishRune, 0},
		{"reach\ta", impl.WishRune, 5},
		{"\treach a", impl.WishRune, 0},
		{"reach a\n", impl.WishRune, 7},
		{"reach a\tb", impl.WishRune, 7},
		{"reach \x00", impl.WishRune, 6},
		{"reach a\x7f", impl.WishRune, 7},
		{"reach @ ", impl.WishRune, 6},
		{"reach [", impl.WishRune, 6},
		{"reach `", impl.WishRune, 6},
		{"reach {", impl.WishRune, 6},
		{"reach é-", impl.WishRune, 8},
		{"reach, a", impl.WishRune, 5},
		// Runes cut off, at the end of a token and of the text.
		{"reach \xc3", impl.WishRune, 6},
		{"reach \xc3 b", impl.WishRune, 6},
		{"reach a\xe2\x82", impl.WishRune, 7},
		{"reach a\xe2\x82 b", impl.WishRune, 7},
		{"reach \xe2 \x82\xac", impl.WishRune, 6},
		{"reach é\xf0\x9f\x98", impl.WishRune, 8},
		{"reach é\xf0\x9f\x98 b", impl.WishRune, 8},
		{"reach\xf0", impl.WishRune, 5},
		{"reach \xe2\x82a", impl.WishRune, 6},
		{"reach \xe2\x82é", impl.WishRune, 6},
		// Bytes that begin no rune, more bytes than a rune wants, halves of a pair, runes beyond the last one.
		{"reach a\x80", impl.WishRune, 7},
		{"reach é\xbf", impl.WishRune, 8},
		{"reach \xc0\x80", impl.WishRune, 6},
		{"reach \xc1\xa1", impl.WishRune, 6},
		{"reach \xe0\x81\xa1", impl.WishRune, 6},
		{"reach \xe0\x9f\xbf", impl.WishRune, 6},
		{"reach \xf0\x80\x81\xa1", impl.WishRune, 6},
		{"reach \xf0\x8f\xbf\xbf", impl.WishRune, 6},
		{"reach a\xed\xa0\x80", impl.WishRune, 7},
		{"reach a\xed\xbf\xbf", impl.WishRune, 7},
		{"reach \xed\xa0\xbd\xed\xb8\x80", impl.WishRune, 6},
		{"reach \xf4\x90\x80\x80", impl.WishRune, 6},
		{"reach \xf5\x80\x80\x80", impl.WishRune, 6},
		{"reach \xff", impl.WishRune, 6},
		{"reach \xfe\xff", impl.WishRune, 6},
		// The rune that stands for what is none is one, but not a part of its bytes.
		{"reach \xef\xbf", impl.WishRune, 6},
		{"reach \ufffd\xef\xbf", impl.WishRune, 9},
		{"reach \ufffd\x80\ufffd", impl.WishRune, 9},
		{"reach \xbf\xbd", impl.WishRune, 6},
		// Several faults: the first token that has any counts, and of one token the first code in the order told.
		{"a1", impl.WishRune, 1},
		{"a 1", impl.WishWord, 0},
		{"a reach reach", impl.WishWord, 0},
		{long, impl.WishWord, 0},
		{long + "1", impl.WishRune, 13},
		{"reach " + long + "\x80", impl.WishRune, 19},
		{"reach " + long + " 1", impl.WishName, 6},
		{"reach a a 1", impl.WishTwice, 8},
		{"reach 1 a a", impl.WishRune, 6},
		{"reach a b c d e f a", impl.WishName, 18},
		{"reach a b c d e a " + long, impl.WishTwice, 16},
		{"reach a b c d e f g1", impl.WishRune, 19},
		{"reach reach1", impl.WishRune, 11},
		{"reach avoid " + long, impl.WishWord, 6},
		{"reach a reach \xff", impl.WishWord, 8},
		{"reach a\xff reach", impl.WishRune, 7},
		{"reach a a avoid", impl.WishTwice, 8},
		{"reach a b c d e f avoid", impl.WishName, 23},
		{"reach a b c d e f reach", impl.WishWord, 18},
		{"avoid \xff\x80", impl.WishRune, 6},
	} {
		if got := impl.ReadWish(c.text); !sameRead(got, impl.WishRead{Code: c.code, At: c.at}) {
			t.Errorf("ReadWish of %q: %+v, want %d at %d", c.text, got, c.code, c.at)
		}
		checkHeard(t, c.text)
	}
}

// Each byte below 128 at each end of a token, within it, and between tokens.
func TestReadWishEachByte(t *testing.T) {
	for b := range 256 {
		s := string([]byte{byte(b)})
		letter := 'a' <= b && b <= 'z' || 'A' <= b && b <= 'Z'
		for _, c := range []struct {
			text string
			at   int
		}{{"reach " + s, 6}, {"reach " + s + "q", 6}, {"reach q" + s, 7}, {"reach q" + s + "q", 7}, {"avoid é" + s + " z", 8}, {"reach x avoid " + s + "€", 14}, {"reach\x20q" + s, 7}} {
			got := checkHeard(t, c.text)
			if b != ' ' && letter != (got.Code == 0) || b != ' ' && !letter && (got.Code != impl.WishRune || got.At != c.at) {
				t.Errorf("ReadWish of %q: %+v", c.text, got)
			}
		}
		checkHeard(t, s)
		checkHeard(t, s+"reach a")
		checkHeard(t, "reach"+s+"a")
		checkHeard(t, "reach a"+s)
	}
}

// Each rune that there is, by itself and within a name.
func TestReadWishEachRune(t *testing.T) {
	for r := rune(0); r <= 0x10ffff; r++ {
		if r >= 0xd800 && r < 0xe000 || r == ' ' {
			continue
		}
		s := string(r)
		got := impl.ReadWish("reach " + s + "a avoid b" + s)
		want := impl.WishRead{Code: impl.WishRune, At: 6}
		if r >= 128 || 'a' <= r && r <= 'z' || 'A' <= r && r <= 'Z' {
			want = impl.WishRead{Wish: impl.Wish{Reach: []string{s + "a"}, Avoid: []string{"b" + s}}}
		}
		if !sameRead(got, want) {
			t.Fatalf("ReadWish with the rune %x: %+v, want %+v", r, got, want)
		}
	}
}

// Two bytes of any kind, and three and four of those at the edges of Unicode's table.
func TestReadWishAnyBytes(t *testing.T) {
	for two := range 1 << 16 {
		checkHeard(t, "reach x"+string([]byte{byte(two >> 8), byte(two)}))
	}
	edges := []string{" ", "a", "1", "\x7f", "\x80", "\x8f", "\x90", "\x9f", "\xa0", "\xbf", "\xc1", "\xc2", "\xdf", "\xe0", "\xe1", "\xec", "\xed", "\xee", "\xef", "\xf0", "\xf1", "\xf3", "\xf4", "\xf5", "\xff", "\xbd"}
	for _, n := range []int{1, 2, 3} {
		eachTexts(edges, n, func(l []string) { checkHeard(t, "avoid é"+strings.Join(l, "")) })
	}
	for _, first := range []string{"\xf0", "\xf1", "\xf4", "\xe0", "\xed", "\xef"} {
		eachTexts(edges, 3, func(l []string) { checkHeard(t, "reach "+first+strings.Join(l, "")+" avoid z") })
	}
}

// Texts of up to five tokens, good ones and such with each fault, and more blanks.
func TestReadWishAllOrders(t *testing.T) {
	codes := map[int]int{}
	for n := range 6 {
		eachTexts([]string{"reach", "avoid", "a", "b", "é", "1", "a\xc3", "thirteenrunes", ""}, n, func(l []string) {
			codes[checkHeard(t, strings.Join(l, " ")).Code]++
		})
	}
	for code := range 5 {
		if codes[code] < 20 {
			t.Errorf("only %d texts with the code %d", codes[code], code)
		}
	}
}

// Texts of seven and more names in all orders of three.
func TestReadWishManyNames(t *testing.T) {
	r := rand.New(rand.NewSource(370))
	codes := map[int]int{}
	for range 40000 {
		l := []string{}
		for range drawnBetween(r, 5, 16) {
			l = append(l, strings.Split("a b c d e f g h i a b c reach avoid", " ")[r.Intn(14)])
		}
		if r.Intn(3) > 0 {
			l[0] = []string{"reach", "avoid"}[r.Intn(2)]
		}
		codes[checkHeard(t, strings.Join(l, " ")).Code]++
	}
	for many := range 8 {
		for other := range 8 {
			text := strings.Repeat(" ", many)
			if many > 0 {
				text += "reach " + strings.Join(strings.Split("a b c d e f g", " ")[:many], " ")
			}
			if other > 0 {
				text += " avoid " + strings.Join(strings.Split("g f e d c b a", " ")[:other], " ")
			}
			got := checkHeard(t, text)
			if most := max(many, other); (got.Code == 0) != (most <= 6) || got.Code == 0 && (len(got.Wish.Reach) != many || len(got.Wish.Avoid) != other) {
				t.Errorf("ReadWish of %q: %+v", text, got)
			}
		}
	}
	if codes[0] < 100 || codes[impl.WishName] < 100 || codes[impl.WishTwice] < 100 || codes[impl.WishWord] < 100 {
		t.Error("too few of a kind:", codes)
	}
}

// Names of 12 and of 13 runes, of one, two, three and four bytes.
func TestReadWishLongNames(t *testing.T) {
	for _, one := range []string{"x", "é", "€", "\ufffd", "😀"} {
		for many := 1; many <= 30; many++ {
			name := strings.Repeat(one, many)
			want := impl.WishRead{Wish: impl.Wish{Reach: []string{name}}}
			if many > 12 {
				want = impl.WishRead{Code: impl.WishName, At: 6}
			}
			if got := checkHeard(t, "reach "+name); !sameRead(got, want) {
				t.Errorf("ReadWish with %d of %q: %+v", many, one, got)
			}
			want = impl.WishRead{Wish: impl.Wish{Reach: []string{"a"}, Avoid: []string{"b", name}}}
			if many > 12 {
				want = impl.WishRead{Code: impl.WishName, At: 17}
			}
			if got := checkHeard(t, "reach a avoid b  "+name+" "); !sameRead(got, want) {
				t.Errorf("ReadWish with %d of %q: %+v", many, one, got)
			}
		}
	}
	// Twelve runes of all kinds.
	checkHeard(t, "reach xé€😀xé€😀xé€😀")
	if got := impl.ReadWish("reach xé€😀xé€😀xé€😀x"); got.Code != impl.WishName || got.At != 6 {
		t.Error(got)
	}
}

// MaxWish bytes, and one more: then nothing else counts.
func TestReadWishLongTexts(t *testing.T) {
	for _, text := range []string{"", "reach a", "reach a avoid b", "avoid é", "x", "reach", "reach a a", "reach \xff", "reach 1", "reach a b c d e f g"} {
		full := text + strings.Repeat(" ", 200-len(text))
		got := checkHeard(t, full)
		if short := impl.ReadWish(text); got.Code == impl.WishLong || got.Code != short.Code || !sameWish(got.Wish, short.Wish) {
			t.Errorf("ReadWish of %q: %+v", full, got)
		}
		if text == "reach" && (got.Code != impl.WishName || got.At != 200) {
			t.Errorf("ReadWish of %q: %+v", full, got)
		}
		for _, longer := range []string{full + " ", " " + full, full + "\xff", strings.Repeat(full, 1000)} {
			if got := checkHeard(t, longer); !sameRead(got, impl.WishRead{Code: impl.WishLong}) {
				t.Errorf("ReadWish of %d bytes: %+v", len(longer), got)
			}
		}
	}
	// Blanks ahead, and the last byte counts.
	for _, c := range []struct {
		tail     string
		code, at int
	}{{"reach a", 0, 0}, {"reach", impl.WishName, 200}, {"reach a1", impl.WishRune, 199}, {"avoid \xc3", impl.WishRune, 199}, {"x", impl.WishWord, 199}, {"reach a a", impl.WishTwice, 199}, {"reach a avoid", impl.WishName, 200}} {
		if got := checkHeard(t, strings.Repeat(" ", 200-len(c.tail))+c.tail); got.Code != c.code || got.At != c.at {
			t.Errorf("ReadWish with %q at the end: %+v", c.tail, got)
		}
	}
	// 6 and 6 names of 12 runes.
	names := []string{}
	for i := range 6 {
		names = append(names, strings.Repeat(string(rune('a'+i)), 12))
	}
	all := "reach " + strings.Join(names, " ") + " avoid " + strings.Join(names, " ")
	if got := checkHeard(t, all); !sameRead(got, impl.WishRead{Wish: impl.Wish{Reach: names, Avoid: names}}) {
		t.Errorf("ReadWish of %q: %+v", all, got)
	}
}

// Drawn texts, nearly good.
func TestReadWishDrawn(t *testing.T) {
	r := rand.New(rand.NewSource(371))
	codes := map[int]int{}
	for range 20000 {
		text, ok := impl.WriteWish(drawnWish(r, drawnBetween(r, 1, 13), drawnBetween(r, 1, 4)))
		if !ok {
			continue
		}
		bytes := []byte(text)
		for range r.Intn(3) {
			at := r.Intn(len(bytes) + 1)
			switch r.Intn(3) {
			case 0:
				bytes = slices.Insert(bytes, at, byte(r.Intn(256)))
			case 1:
				bytes = slices.Insert(bytes, at, ' ')
			default:
				bytes = slices.Delete(bytes, at, min(at+1, len(bytes)))
			}
		}
		codes[checkHeard(t, string(bytes)).Code]++
	}
	for code := range 5 {
		if codes[code] < 10 {
			t.Errorf("only %d texts with the code %d", codes[code], code)
		}
	}
}
