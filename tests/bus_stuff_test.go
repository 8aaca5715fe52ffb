package tests

import (
	"math/rand"
	"strings"
	"testing"

	"loop.example/g00047/impl"
)

func TestStuffBitsByHand(t *testing.T) {
	for _, c := range []struct{ bits, want string }{
		{"", ""}, {"0", "0"}, {"1", "1"}, {"0000", "0000"}, {"1111", "1111"}, {"0101010101", "0101010101"}, {"0000111100001111", "0000111100001111"},
		// At the start, in the middle, at the end.
		{"00000", "000001"}, {"11111", "111110"}, {"0000010", "00000110"}, {"1111101", "11111001"}, {"1000001", "10000011"}, {"0111110", "01111100"}, {"1000000", "10000010"},
		{"01111100000", "0111110000010"}, {"100000111", "1000001111"}, {"000000000", "0000010000"}, {"0100000", "01000001"}, {"1011111", "10111110"},
		// The bit that was put in counts in the next run.
		{"000001111", "00000111110"}, {"00000111", "000001111"}, {"0000011110000", "0000011111000001"}, {"111110000", "11111000001"}, {"000001111100000", "000001111101000001"}, {"111110000011111", "111110000010111110"},
		// All alike.
		{"000000", "0000010"}, {"00000000", "000001000"}, {"111111", "1111101"}, {"0000000000", "000001000001"}, {"1111111111", "111110111110"}, {"000000000000000", "000001000001000001"},
	} {
		if got, ok := impl.StuffBits(c.bits); got != c.want || !ok {
			t.Errorf("StuffBits of %q: %q %v, want %q", c.bits, got, ok, c.want)
		}
		if got, ok := impl.UnstuffBits(c.want); got != c.bits || !ok {
			t.Errorf("UnstuffBits of %q: %q %v, want %q", c.want, got, ok, c.bits)
		}
		checkStuff(t, c.bits)
		checkStuff(t, c.want)
	}
}

// No bits are these of which others are stuffed: six alike, five alike with nothing behind them.
func TestUnstuffBitsOfNone(t *testing.T) {
	for _, s := range []string{
		"00000", "11111", "100000", "011111", "0101011111", "0000011111", "1111100000", "01111100000", "10000011111",
		"000000", "111111", "0000001", "1111110", "1000000", "0111111", "10000001", "01111110", "0000010000001", "000001111110", "111110000001", "00000111111", "0000000000", "1111111111",
	} {
		if got, ok := impl.UnstuffBits(s); ok || got != "" {
			t.Errorf("UnstuffBits of %q: %q %v", s, got, ok)
		}
		checkStuff(t, s)
	}
}

// For every text of a few bits there is an answer just where another one is stuffed so.
func TestUnstuffBitsOfAllShortTexts(t *testing.T) {
	const most = 15
	from := map[string]string{}
	for n := range most + 1 {
		eachWire(n, func(s string) {
			stuffed, _ := checkStuff(t, s)
			if was, some := from[stuffed]; some {
				t.Fatalf("StuffBits of %q and %q: %q", s, was, stuffed)
			}
			from[stuffed] = s
		})
	}
	for n := range most + 1 {
		eachWire(n, func(s string) {
			want, good := from[s]
			if got, ok := impl.UnstuffBits(s); got != want || ok != good {
				t.Fatalf("UnstuffBits of %q: %q %v, want %q %v", s, got, ok, want, good)
			}
		})
	}
}

// What is stuffed never has six alike, and none of its runs of five is the end.
func TestStuffedBitsHaveNoSixAlike(t *testing.T) {
	r := rand.New(rand.NewSource(396))
	for range 20000 {
		s := drawnWire(r, r.Intn(301), 1+r.Intn(14))
		stuffed, _ := checkStuff(t, s)
		if strings.Contains(stuffed, "000000") || strings.Contains(stuffed, "111111") || strings.HasSuffix(stuffed, "00000") || strings.HasSuffix(stuffed, "11111") {
			t.Fatalf("StuffBits of %q: %q", s, stuffed)
		}
		if strings.Count(stuffed, "00000")+strings.Count(stuffed, "11111") != len(stuffed)-len(s) {
			t.Fatalf("StuffBits of %q has put in %d bits", s, len(stuffed)-len(s))
		}
	}
}

// As many bits as there may be, which become more, and one more.
func TestStuffCounts(t *testing.T) {
	turns := strings.Repeat("11110000", 40)
	for _, c := range []struct {
		bits string
		want int
	}{
		{strings.Repeat("0", 300), 360}, {strings.Repeat("1", 300), 360}, {strings.Repeat("01", 150), 300}, {strings.Repeat("000001", 50), 350},
		{("00000" + turns)[:300], 374}, {("11111" + turns[4:])[:300], 374}, {("0" + turns)[:300], 300}, {strings.Repeat("0", 299), 358}, {"", 0},
		{strings.Repeat("0", 301), 0}, {strings.Repeat("1", 301), 0}, {strings.Repeat("01", 151), 0}, {("00000" + turns)[:301], 0}, {strings.Repeat("0", 1<<20), 0},
	} {
		got, ok := impl.StuffBits(c.bits)
		if ok != (len(c.bits) <= 300) || len(got) != c.want {
			t.Errorf("StuffBits of %q: %d bits, %v, want %d", c.bits, len(got), ok, c.want)
		}
		checkStuff(t, c.bits)
		checkStuff(t, got)
	}
	for _, c := range []struct {
		bits string
		want int
	}{
		{strings.Repeat("01", 150), 300}, {strings.Repeat("000001", 50), 250}, {strings.Repeat("111110", 50), 250}, {"0" + strings.Repeat("000010", 50)[:299], 250},
		{strings.Repeat("01", 150) + "0", 0}, {strings.Repeat("000001", 50) + "0", 0}, {strings.Repeat("01", 1000), 0}, {strings.Repeat("0", 300), 0}, {strings.Repeat("0", 301), 0},
	} {
		if got, ok := impl.UnstuffBits(c.bits); ok != (c.want > 0) || len(got) != c.want {
			t.Errorf("UnstuffBits of %q: %q %v, want %d bits", c.bits, got, ok, c.want)
		}
		checkStuff(t, c.bits)
	}
}

// What is stuffed to more bits than may be given is not unstuffed.
func TestUnstuffBitsBeyondTheLimit(t *testing.T) {
	for n := 240; n <= 300; n++ {
		for _, bit := range []string{"0", "1"} {
			s := strings.Repeat(bit, n)
			stuffed, _ := impl.StuffBits(s)
			got, ok := impl.UnstuffBits(stuffed)
			if ok != (n <= 250) || ok && got != s || !ok && got != "" {
				t.Errorf("UnstuffBits of %d bits: %q %v", len(stuffed), got, ok)
			}
		}
	}
}

// A byte that is neither 0 nor 1, at the start, in the middle, where one is put in, and at the end.
func TestStuffOfOtherBytes(t *testing.T) {
	for _, plain := range []string{"0", "01", "00000", "000001", "0101010101", "1111101111101", strings.Repeat("01", 150)} {
		for other := range 256 {
			if other == '0' || other == '1' {
				continue
			}
			for _, at := range []int{0, len(plain) / 2, min(5, len(plain)-1), len(plain) - 1} {
				s := []byte(plain)
				s[at] = byte(other)
				if got, ok := impl.StuffBits(string(s)); ok || got != "" {
					t.Errorf("StuffBits of %q: %q %v", s, got, ok)
				}
				if got, ok := impl.UnstuffBits(string(s)); ok || got != "" {
					t.Errorf("UnstuffBits of %q: %q %v", s, got, ok)
				}
			}
		}
	}
}

// Whatever bits there are, unstuffed they are what they were, or were not stuffed.
func TestUnstuffDrawnBits(t *testing.T) {
	r := rand.New(rand.NewSource(397))
	some := 0
	for range 30000 {
		s := drawnWire(r, r.Intn([]int{20, 60, 302}[r.Intn(3)]), 1+r.Intn(6))
		checkStuff(t, s)
		if plain, ok := impl.UnstuffBits(s); ok {
			some++
			if again, _ := impl.StuffBits(plain); again != s {
				t.Fatalf("StuffBits of %q: %q, unstuffed from %q", plain, again, s)
			}
		}
	}
	if some < 1000 {
		t.Errorf("only %d of the drawn bits are stuffed", some)
	}
}
