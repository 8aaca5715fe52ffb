package tests

import (
	"math/big"
	"math/rand"
	"regexp"
	"strings"
	"testing"

	"loop.example/g00047/impl"
)

// shape is how the document writes a fraction, but for the common divisor and the length.
var shape = regexp.MustCompile(`^(0|-?[1-9][0-9]*|(-?[1-9][0-9]*)/([2-9]|[1-9][0-9]+))$`)

// isFrac says by other means than the program's whether s is a good fraction.
func isFrac(s string) bool {
	if !shape.MatchString(s) {
		return false
	}
	above, below, parted := strings.Cut(strings.TrimPrefix(s, "-"), "/")
	if len(above) > 400 || len(below) > 400 {
		return false
	}
	if !parted {
		return true
	}
	n, _ := new(big.Int).SetString(above, 10)
	d, _ := new(big.Int).SetString(below, 10)
	return new(big.Int).GCD(nil, nil, n, d).Cmp(big.NewInt(1)) == 0
}

// rat is the number that a good fraction tells.
func rat(t *testing.T, s string) *big.Rat {
	t.Helper()
	if !isFrac(s) {
		t.Fatalf("no good fraction: %.60q", s)
	}
	r, ok := new(big.Rat).SetString(s)
	if !ok {
		t.Fatalf("no number: %.60q", s)
	}
	return r
}

// textOf is the document's text of r, the empty one where a number is too long.
func textOf(r *big.Rat) string {
	s := r.RatString()
	above, below, _ := strings.Cut(strings.TrimPrefix(s, "-"), "/")
	if len(above) > 400 || len(below) > 400 {
		return ""
	}
	return s
}

func nines(n int) string { return strings.Repeat("9", n) }

// tenTo is 10 to the n: a number of n + 1 digits.
func tenTo(n int) string { return "1" + strings.Repeat("0", n) }

func randomDigits(r *rand.Rand, n int) string {
	b := make([]byte, n)
	for i := range b {
		b[i] = byte('0' + r.Intn(10))
	}
	b[0] = byte('1' + r.Intn(9))
	return string(b)
}

// randomFrac is a good fraction of at most so many digits above and below.
func randomFrac(r *rand.Rand, most int) string {
	n, _ := new(big.Int).SetString(randomDigits(r, 1+r.Intn(most)), 10)
	d, _ := new(big.Int).SetString(randomDigits(r, 1+r.Intn(most)), 10)
	switch r.Intn(8) {
	case 0:
		n.SetInt64(0)
	case 1:
		d.SetInt64(1)
	}
	if r.Intn(2) == 0 {
		n.Neg(n)
	}
	return new(big.Rat).SetFrac(n, d).RatString()
}

// ordinary are fractions of all kinds, short and long.
func ordinary() []string {
	l := []string{"0", "1", "-1", "2", "-2", "1/2", "-1/2", "2/3", "-2/3", "7/5", "-22/7", "355/113", "10", "-10", "1/10",
		"9223372036854775807", "-9223372036854775808", "1/9223372036854775808", "-18446744073709551616/3",
		"30031/53", "-53/3481", "2809", "1/2809", nines(199), "1/" + nines(199), "-" + tenTo(150) + "/" + nines(150)}
	r := rand.New(rand.NewSource(1))
	for range 40 {
		l = append(l, randomFrac(r, 3), randomFrac(r, 30), randomFrac(r, 190))
	}
	return l
}

// checkFrac holds an answer against the exact number.
func checkFrac(t *testing.T, what string, got string, want *big.Rat) {
	t.Helper()
	if got != textOf(want) {
		t.Errorf("%.200s: got %.80q, want %.80q", what, got, textOf(want))
	}
	if got != "" && !impl.GoodFrac(got) {
		t.Errorf("%.200s: the answer %.80q is no good fraction", what, got)
	}
}
