package tests

import (
	"fmt"
	"math/rand"
	"strings"
	"testing"

	"loop.example/g00047/impl"
)

func TestSumOfBitsByHand(t *testing.T) {
	for _, c := range []struct {
		bits string
		want int
	}{
		{"", 0}, {"0", 0}, {"1", 17817}, {"00", 0}, {"01", 17817}, {"10", 20139}, {"11", 2866}, {"101", 7510},
		{"00001", 17817}, {"10000", 11671}, {"11111", 2669}, {"111111111111111", 26630}, {"100000000000000", 7173}, {"1000000000000000", 14346}, {"1111111111111111", 20492},
		// The sum's own sixteen bits leave nothing.
		{"1100010110011001", 0},
		{strings.Repeat("0", 300), 0}, {strings.Repeat("1", 300), 10017}, {strings.Repeat("10", 150), 31049}, {strings.Repeat("01", 150), 24168}, {"1" + strings.Repeat("0", 299), 5757},
		// The text by which sums of this kind are known.
		{bytesBits([]byte("123456789")), 0x59e},
	} {
		if got, ok := impl.Crc15(c.bits); got != c.want || !ok {
			t.Errorf("Crc15 of %q: %d %v, want %d", c.bits, got, ok, c.want)
		}
		checkRest(t, c.bits)
	}
}

// Every text of a few bits, those that are no whole number of steps among them.
func TestSumOfAllShortTexts(t *testing.T) {
	for n := range 13 {
		eachWire(n, func(s string) { checkRest(t, s) })
	}
}

// A single bit at each place of texts of any length.
func TestSumOfSingleBits(t *testing.T) {
	for _, n := range []int{1, 2, 3, 4, 5, 14, 15, 16, 17, 80, 299, 300} {
		for at := range n {
			s := strings.Repeat("0", at) + "1" + strings.Repeat("0", n-1-at)
			if checkRest(t, s) == 0 {
				t.Errorf("Crc15 of %q: 0", s)
			}
		}
	}
}

// As many bits as there may be, and more.
func TestSumCounts(t *testing.T) {
	r := rand.New(rand.NewSource(390))
	for _, n := range []int{0, 1, 2, 298, 299, 300, 301, 302, 303, 304, 600, 1000, 1 << 20} {
		for _, s := range []string{strings.Repeat("0", n), strings.Repeat("1", n), drawnWire(r, n, 3)} {
			if got, ok := impl.Crc15(s); ok != (n <= 300) || !ok && got != 0 {
				t.Errorf("Crc15 of %d bits: %d %v", n, got, ok)
			}
			checkRest(t, s)
		}
	}
	for n := range 305 {
		checkRest(t, drawnWire(r, n, 1+n%9))
	}
}

// A byte that is neither 0 nor 1, at the start, in the middle and at the end.
func TestSumOfOtherBytes(t *testing.T) {
	r := rand.New(rand.NewSource(391))
	for _, n := range []int{1, 2, 3, 4, 5, 9, 16, 150, 299, 300} {
		for other := range 256 {
			if other == '0' || other == '1' {
				continue
			}
			for _, at := range []int{0, 1 % n, n / 2, n - 1} {
				s := []byte(drawnWire(r, n, 4))
				s[at] = byte(other)
				if got, ok := impl.Crc15(string(s)); ok || got != 0 {
					t.Errorf("Crc15 of %q: %d %v", s, got, ok)
				}
			}
		}
	}
}

// turnedBy turns those bits of a text, from a place on, where the other text has a 1.
func turnedBy(s string, at int, by string) string {
	bits := []byte(s)
	for i := range len(by) {
		bits[at+i] ^= by[i] - '0'
	}
	return string(bits)
}

// Bits that are turned within fifteen side by side, in every way: the sums differ.
func TestSumsTellBursts(t *testing.T) {
	r := rand.New(rand.NewSource(392))
	for _, n := range []int{15, 16, 31, 47, 300} {
		s := drawnWire(r, n, 4)
		sum, _ := impl.Crc15(s)
		for _, at := range []int{0, 1, n/2 - 7, n - 16, n - 15} {
			if !isAmong(at, n-14) {
				continue
			}
			eachWire(15, func(by string) {
				got, ok := impl.Crc15(turnedBy(s, at, by))
				if !ok || (got == sum) != (bitNumber(by) == 0) {
					t.Fatalf("Crc15 of %q, turned by %q from %d on: %d %v, was %d", s, by, at, got, ok, sum)
				}
			})
		}
	}
	for range 20000 {
		n := drawnBetween(r, 15, 300)
		s, by := drawnWire(r, n, 6), fmt.Sprintf("%015b", 1+r.Intn(1<<15-1))
		if other := turnedBy(s, r.Intn(n-14), by); checkRest(t, s) == checkRest(t, other) {
			t.Fatalf("Crc15 of %q and %q are the same", s, other)
		}
	}
}

// Sixteen side by side are turned in one way alone without being told: by the sum's own bits.
func TestSumsOfSixteenTurned(t *testing.T) {
	s := drawnWire(rand.New(rand.NewSource(393)), 40, 4)
	sum, _ := impl.Crc15(s)
	alike := []string{}
	eachWire(16, func(by string) {
		if got, _ := impl.Crc15(turnedBy(s, 9, by)); got == sum && bitNumber(by) != 0 {
			alike = append(alike, by)
		}
	})
	if len(alike) != 1 || alike[0] != "1100010110011001" {
		t.Errorf("turned by %q the sum is the same", alike)
	}
}

// Of texts with as many bits sums add up by exclusive or.
func TestSumsAddUp(t *testing.T) {
	r := rand.New(rand.NewSource(394))
	for range 5000 {
		n := r.Intn(301)
		a, b := drawnWire(r, n, 5), drawnWire(r, n, 5)
		if both := turnedBy(a, 0, b); checkRest(t, both) != checkRest(t, a)^checkRest(t, b) {
			t.Fatalf("Crc15 of %q, %q and %q do not add up", a, b, both)
		}
	}
}

// Noughts ahead change nothing, and a text with its own sum behind it has the sum 0.
func TestSumsBesideOtherBits(t *testing.T) {
	r := rand.New(rand.NewSource(395))
	for n := range 286 {
		s := drawnWire(r, n, 5)
		sum := checkRest(t, s)
		for ahead := range min(9, 301-n) {
			if got, ok := impl.Crc15(strings.Repeat("0", ahead) + s); !ok || got != sum {
				t.Errorf("Crc15 of %q with %d noughts ahead: %d %v, want %d", s, ahead, got, ok, sum)
			}
		}
		if got, ok := impl.Crc15(s + fmt.Sprintf("%015b", sum)); !ok || got != 0 {
			t.Errorf("Crc15 of %q with its sum: %d %v", s, got, ok)
		}
	}
}
