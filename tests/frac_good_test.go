package tests

import (
	"testing"

	"loop.example/g00047/impl"
)

// goodTexts are good, by the document's words.
func goodTexts() []string {
	return []string{"0", "1", "-1", "7", "10", "-10", "100", "1/2", "-1/2", "3/2", "-3/2", "10/3", "1/10", "9/10", "2/9",
		"-100/101", "53/59", "1/2809",
		nines(400), "-" + nines(400), "1/" + nines(400), "-1/" + nines(400),
		tenTo(399) + "/" + nines(400), "-" + nines(400) + "/" + tenTo(399), nines(400) + "/2", "2/" + nines(400)}
}

// wrongTexts are no good fractions, each for a reason of its own.
func wrongTexts() []string {
	l := []string{"", "-", "-0", "+1", "+0", "00", "01", "-01", "007", "0/5", "-0/5", "0/1", "0/0", "3/1", "-3/1", "1/1", "1/0", "-1/0",
		"2/4", "-2/4", "3/3", "6/4", "10/5", "53/106", "2809/53", "3127/3481", "1/-2", "-1/-2", "1/+2", "+1/2", "1/", "-/2", "-1/", "/2", "/", "-/", "//",
		"1//2", "1/2/3", "1/2/", "/1/2", "1/02", "01/2", "1/00", "1/01", "--1", "1-", "1-2", "1/2-",
		" ", " 1", "1 ", "- 1", "1 /2", "1/ 2", " 1/2", "1/2 ", "1 2", "\t1", "1\n", "\n", "1\r", "1/2\n",
		"a", "x1", "1x", "1a/2", "1/2a", "0x1", "1e3", "1.5", ".5", "1.", "1,5", "1_000", "1/2_0", "\x00", "1\x00", "\x001", "1/2\x00", "\xff", "1\xff",
		"\u0661", "\uff11", "\u22121", "1\u20442", "\u00bd", "NaN", "Inf", "-Inf", "inf", "1:2", "1/2:", "/0", "0/", "0-", "-00", "0/00",
		"1;", ":", "9:", "1/:", "1/;"}
	return append(l, longWrongTexts()...)
}

func longWrongTexts() []string {
	return []string{nines(401), "-" + nines(401), tenTo(400), "1/" + nines(401), "-1/" + nines(401), "1/" + tenTo(400),
		nines(401) + "/2", "2/" + nines(401), nines(401) + "/" + tenTo(401),
		"0" + nines(399), "0" + nines(400), "1/0" + nines(399), nines(400) + "/" + nines(400), tenTo(399) + "/10",
		tenTo(399) + "/" + tenTo(399), "-" + nines(400) + "/9", nines(400) + " ", nines(400) + "/",
		nines(100000), "-" + nines(100000), nines(100000) + "/" + nines(100000), "1/" + nines(100000), "/" + nines(100000), nines(100000) + "/"}
}

func TestGoodFracOfGoodTexts(t *testing.T) {
	for _, s := range append(goodTexts(), ordinary()...) {
		if !impl.GoodFrac(s) {
			t.Errorf("good: %.60q", s)
		}
	}
}

func TestGoodFracOfWrongTexts(t *testing.T) {
	for _, s := range wrongTexts() {
		if impl.GoodFrac(s) {
			t.Errorf("not good: %.60q", s)
		}
	}
}

// shortTexts hands each text of at most most bytes of the letters to see.
func shortTexts(letters string, most int, see func(string)) {
	see("")
	if most == 0 {
		return
	}
	for i := range len(letters) {
		first := letters[i : i+1]
		shortTexts(letters, most-1, func(rest string) { see(first + rest) })
	}
}

func TestGoodFracOfAllShortTexts(t *testing.T) {
	shortTexts("-/012369+ :", 5, func(s string) {
		if impl.GoodFrac(s) != isFrac(s) {
			t.Errorf("%q: %v", s, impl.GoodFrac(s))
		}
	})
}

func TestGoodFracOfAllBytes(t *testing.T) {
	for b := range 256 {
		c := string([]byte{byte(b)})
		for _, s := range []string{c, c + "7", "7" + c, "7" + c + "9", "7/" + c, "7/" + c + "9", "7/9" + c, "-" + c} {
			if impl.GoodFrac(s) != isFrac(s) {
				t.Errorf("%q: %v", s, impl.GoodFrac(s))
			}
		}
	}
}

// Every common divisor tells against a fraction: one small prime, several, a great one.
func TestGoodFracOfCommonDivisors(t *testing.T) {
	for n := 1; n <= 120; n++ {
		for d := 2; d <= 120; d++ {
			s := plainText(n, d)
			if impl.GoodFrac(s) != isFrac(s) || impl.GoodFrac("-"+s) != isFrac("-"+s) {
				t.Errorf("%q: %v", s, impl.GoodFrac(s))
			}
		}
	}
	for _, s := range []string{"1000000007/2000000014", "10000000150000000561/1000000007", "2147483647/4611686014132420609"} {
		if impl.GoodFrac(s) != isFrac(s) {
			t.Errorf("%q: %v", s, impl.GoodFrac(s))
		}
	}
}
