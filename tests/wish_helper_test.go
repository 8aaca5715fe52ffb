package tests

import (
	"math/rand"
	"slices"
	"strings"
	"testing"

	"loop.example/g00047/impl"
)

const (
	mostWishBytes = 200
	mostNamed     = 6
	mostRunes     = 12
)

// wishOf has a bar between what is to be reached and what is to be avoided, and spaces between the names.
func wishOf(s string) impl.Wish {
	reach, avoid, _ := strings.Cut(s, "|")
	return impl.Wish{Reach: strings.Fields(reach), Avoid: strings.Fields(avoid)}
}

func cloneWish(w impl.Wish) impl.Wish {
	return impl.Wish{Reach: slices.Clone(w.Reach), Avoid: slices.Clone(w.Avoid)}
}

func sameWish(a impl.Wish, b impl.Wish) bool {
	return slices.Equal(a.Reach, b.Reach) && slices.Equal(a.Avoid, b.Avoid)
}

func sameRead(a impl.WishRead, b impl.WishRead) bool {
	return sameWish(a.Wish, b.Wish) && a.Code == b.Code && a.At == b.At
}

// runeForms are the bytes that runes from 128 on are told by, by Unicode's table: each two numbers are the least and the greatest of a byte.
var runeForms = [][]int{
	{0xc2, 0xdf, 0x80, 0xbf},
	{0xe0, 0xe0, 0xa0, 0xbf, 0x80, 0xbf}, {0xe1, 0xec, 0x80, 0xbf, 0x80, 0xbf}, {0xed, 0xed, 0x80, 0x9f, 0x80, 0xbf}, {0xee, 0xef, 0x80, 0xbf, 0x80, 0xbf},
	{0xf0, 0xf0, 0x90, 0xbf, 0x80, 0xbf, 0x80, 0xbf}, {0xf1, 0xf3, 0x80, 0xbf, 0x80, 0xbf, 0x80, 0xbf}, {0xf4, 0xf4, 0x80, 0x8f, 0x80, 0xbf, 0x80, 0xbf},
}

// namedBytes is how many bytes of s are its first letter, or its first rune from 128 on; 0 where neither is there.
func namedBytes(s string) int {
	if strings.IndexByte("abcdefghijklmnopqrstuvwxyzABCDEFGHIJKLMNOPQRSTUVWXYZ", s[0]) >= 0 {
		return 1
	}
	for _, form := range runeForms {
		fits := len(s) >= len(form)/2
		for i := 0; fits && i < len(form)/2; i++ {
			fits = form[2*i] <= int(s[i]) && int(s[i]) <= form[2*i+1]
		}
		if fits {
			return len(form) / 2
		}
	}
	return 0
}

// runesIn counts the runes of names, and tells at which byte they end.
func runesIn(s string) (int, int) {
	many, at := 0, 0
	for at < len(s) {
		n := namedBytes(s[at:])
		if n == 0 {
			break
		}
		many, at = many+1, at+n
	}
	return many, at
}

// isCalled says by the test's own word whether s is a name.
func isCalled(s string) bool {
	many, end := runesIn(s)
	return end == len(s) && many >= 1 && many <= mostRunes
}

func areCalled(l []string) bool {
	sorted := slices.Sorted(slices.Values(l))
	return len(l) <= mostNamed && len(slices.Compact(sorted)) == len(l) && !slices.ContainsFunc(l, func(s string) bool { return !isCalled(s) })
}

func isWish(w impl.Wish) bool { return areCalled(w.Reach) && areCalled(w.Avoid) }

func exactWritten(w impl.Wish) (string, bool) {
	if !isWish(w) {
		return "", false
	}
	text := ""
	for i, names := range [][]string{w.Reach, w.Avoid} {
		word := []string{"reach", "avoid"}[i]
		for k, name := range names {
			if name == "reach" || name == "avoid" {
				return "", false
			}
			if k == 0 && text != "" {
				text += " "
			}
			if k == 0 {
				text += word
			}
			text += " " + name
		}
	}
	if len(text) > mostWishBytes {
		return "", false
	}
	return text, true
}

// heard is a token, and its first byte.
type heard struct {
	at int
	s  string
}

func (h heard) isWord() bool { return h.s == "reach" || h.s == "avoid" }

func heardIn(text string) []heard {
	l, at := []heard{}, 0
	for s := range strings.SplitSeq(text, " ") {
		if s != "" {
			l = append(l, heard{at, s})
		}
		at += len(s) + 1
	}
	return l
}

// namesAhead are the names between a token and the last word ahead of it, and that word.
func namesAhead(l []heard) ([]string, string) {
	names := []string{}
	for _, h := range slices.Backward(l) {
		if h.isWord() {
			return names, h.s
		}
		names = append(names, h.s)
	}
	return names, ""
}

// faultOf looks from the last token of a list to those ahead of it, which have none.
func faultOf(l []heard) (int, int) {
	last, ahead := l[len(l)-1], l[:len(l)-1]
	many, end := runesIn(last.s)
	names, word := namesAhead(ahead)
	switch {
	case end < len(last.s):
		return 3, last.at + end
	case last.isWord() && word != "" && (len(names) == 0 || last.s == "reach"):
		return 1, last.at
	case last.isWord() && slices.ContainsFunc(ahead, func(h heard) bool { return h.s == last.s }):
		return 1, last.at
	case last.isWord():
		return 0, 0
	case word == "":
		return 1, last.at
	case many > mostRunes || len(names) >= mostNamed:
		return 2, last.at
	case slices.Contains(names, last.s):
		return 4, last.at
	}
	return 0, 0
}

// exactHeard is what ReadWish is to answer of any text.
func exactHeard(text string) impl.WishRead {
	if len(text) > mostWishBytes {
		return impl.WishRead{Code: 5}
	}
	l := heardIn(text)
	for i := range l {
		if code, at := faultOf(l[:i+1]); code != 0 {
			return impl.WishRead{Code: code, At: at}
		}
	}
	w := impl.Wish{}
	for i, h := range l {
		_, word := namesAhead(l[:i])
		switch {
		case h.isWord() && i == len(l)-1:
			return impl.WishRead{Code: 2, At: len(text)}
		case !h.isWord() && word == "reach":
			w.Reach = append(w.Reach, h.s)
		case !h.isWord():
			w.Avoid = append(w.Avoid, h.s)
		}
	}
	return impl.WishRead{Wish: w}
}

// checkHeard asks ReadWish of anything; what is read is to be written, and read again as the same.
func checkHeard(t *testing.T, text string) impl.WishRead {
	t.Helper()
	got, want := impl.ReadWish(text), exactHeard(text)
	if !sameRead(got, want) {
		t.Fatalf("ReadWish of %q: %+v, want %+v", text, got, want)
	}
	if got.Code != 0 {
		return got
	}
	written, ok := impl.WriteWish(got.Wish)
	if !ok || written != strings.Join(slices.DeleteFunc(strings.Split(text, " "), func(s string) bool { return s == "" }), " ") {
		t.Fatalf("WriteWish of %q: %q %v", got.Wish, written, ok)
	}
	if again := impl.ReadWish(written); !sameRead(again, got) {
		t.Fatalf("ReadWish of %q: %+v, want %+v", written, again, got)
	}
	return got
}

// checkWritten asks WriteWish of anything; what is written is to be read as the wish.
func checkWritten(t *testing.T, w impl.Wish) bool {
	t.Helper()
	got, ok := impl.WriteWish(w)
	want, good := exactWritten(w)
	if got != want || ok != good {
		t.Fatalf("WriteWish of %q: %q %v, want %q %v", w, got, ok, want, good)
	}
	if read := impl.ReadWish(got); ok && !sameRead(read, impl.WishRead{Wish: w}) {
		t.Fatalf("ReadWish of %q: %+v, want %q", got, read, w)
	}
	return ok
}

// drawnCalled is a name of so many runes, each of up to so many bytes.
func drawnCalled(r *rand.Rand, runes int, bytes int) string {
	s := []rune{}
	for range runes {
		s = append(s, []rune{'a' + rune(r.Intn(26)), 'A' + rune(r.Intn(26)), 0x80 + rune(r.Intn(0x780)), 0x800 + rune(r.Intn(0xd000)), 0x10000 + rune(r.Intn(0x100000))}[r.Intn(bytes+1)])
	}
	return string(s)
}

// drawnNames are so many, no two alike.
func drawnNames(r *rand.Rand, many int, runes int, bytes int) []string {
	names := []string{}
	for len(names) < many {
		if s := drawnCalled(r, drawnBetween(r, 1, runes), bytes); !slices.Contains(names, s) {
			names = append(names, s)
		}
	}
	return names
}

func drawnWish(r *rand.Rand, runes int, bytes int) impl.Wish {
	return impl.Wish{Reach: drawnNames(r, r.Intn(mostNamed+1), runes, bytes), Avoid: drawnNames(r, r.Intn(mostNamed+1), runes, bytes)}
}
