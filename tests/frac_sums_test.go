package tests

import (
	"math"
	"math/big"
	"math/rand"
	"strconv"
	"strings"
	"testing"

	"loop.example/g00047/impl"
)

// plainText writes n / d as they stand, with whatever they have in common.
func plainText(n int, d int) string { return strconv.Itoa(n) + "/" + strconv.Itoa(d) }

func TestFracOf(t *testing.T) {
	for _, c := range []struct {
		num, den int
		want     string
	}{
		{6, -4, "-3/2"}, {-6, -4, "3/2"}, {0, 7, "0"}, {0, -7, "0"}, {7, 1, "7"}, {7, -1, "-7"}, {8, 4, "2"}, {4, 8, "1/2"},
		{106, 159, "2/3"}, {2809, 53, "53"}, {3481, 3127, "59/53"}, {1, 0, ""}, {0, 0, ""}, {-1, 0, ""},
		{math.MinInt, 0, ""}, {math.MaxInt, 0, ""},
		{math.MinInt, 1, "-9223372036854775808"}, {math.MinInt, -1, "9223372036854775808"},
		{math.MaxInt, 1, "9223372036854775807"}, {math.MaxInt, -1, "-9223372036854775807"},
		{1, math.MinInt, "-1/9223372036854775808"}, {-1, math.MinInt, "1/9223372036854775808"},
		{1, math.MaxInt, "1/9223372036854775807"}, {-1, math.MaxInt, "-1/9223372036854775807"},
		{0, math.MinInt, "0"}, {0, math.MaxInt, "0"},
		{math.MinInt, math.MinInt, "1"}, {math.MaxInt, math.MaxInt, "1"},
		{math.MinInt, math.MaxInt, "-9223372036854775808/9223372036854775807"},
		{math.MaxInt, math.MinInt, "-9223372036854775807/9223372036854775808"},
		{math.MinInt, 6, "-4611686018427387904/3"}, {6, math.MinInt, "-3/4611686018427387904"},
		{math.MinInt, -2, "4611686018427387904"}, {-2, math.MinInt, "1/4611686018427387904"},
	} {
		if got := impl.FracOf(c.num, c.den); got != c.want {
			t.Errorf("FracOf(%d, %d): got %q, want %q", c.num, c.den, got, c.want)
		}
	}
	for n := -60; n <= 60; n++ {
		for d := -60; d <= 60; d++ {
			if d != 0 {
				checkFrac(t, plainText(n, d), impl.FracOf(n, d), big.NewRat(int64(n), int64(d)))
			}
		}
	}
}

func TestSumsByHand(t *testing.T) {
	for _, c := range []struct {
		got, want string
	}{
		{impl.AddFrac("1/2", "1/3"), "5/6"}, {impl.AddFrac("1/2", "1/2"), "1"}, {impl.AddFrac("1/2", "-1/2"), "0"},
		{impl.AddFrac("1/6", "1/3"), "1/2"}, {impl.AddFrac("-3", "1/2"), "-5/2"}, {impl.AddFrac("0", "0"), "0"},
		{impl.SubFrac("1/2", "1/3"), "1/6"}, {impl.SubFrac("1/3", "1/2"), "-1/6"}, {impl.SubFrac("0", "7/2"), "-7/2"}, {impl.SubFrac("5", "5"), "0"},
		{impl.MulFrac("2/3", "3/2"), "1"}, {impl.MulFrac("-2/3", "3/4"), "-1/2"}, {impl.MulFrac("0", "-7"), "0"}, {impl.MulFrac("-1/2", "-4"), "2"},
		{impl.MulFrac("59/53", "53/59"), "1"}, {impl.MulFrac("3127/61", "61/59"), "53"},
		{impl.DivFrac("1", "3"), "1/3"}, {impl.DivFrac("-1", "-3"), "1/3"}, {impl.DivFrac("1", "-3"), "-1/3"}, {impl.DivFrac("0", "-3"), "0"},
		{impl.DivFrac("4/9", "2/3"), "2/3"}, {impl.DivFrac("1", "0"), ""}, {impl.DivFrac("0", "0"), ""}, {impl.DivFrac("-1/2", "0"), ""},
	} {
		if c.got != c.want {
			t.Errorf("got %q, want %q", c.got, c.want)
		}
	}
}

// checkFour holds all four kinds of reckoning against the exact numbers.
func checkFour(t *testing.T, a string, b string) {
	t.Helper()
	x, y := rat(t, a), rat(t, b)
	checkFrac(t, a+" + "+b, impl.AddFrac(a, b), new(big.Rat).Add(x, y))
	checkFrac(t, a+" - "+b, impl.SubFrac(a, b), new(big.Rat).Sub(x, y))
	checkFrac(t, a+" * "+b, impl.MulFrac(a, b), new(big.Rat).Mul(x, y))
	if y.Sign() != 0 {
		checkFrac(t, a+" : "+b, impl.DivFrac(a, b), new(big.Rat).Quo(x, y))
	} else if impl.DivFrac(a, b) != "" {
		t.Errorf("%.60q by 0", a)
	}
	if c, ok := impl.CmpFrac(a, b); c != x.Cmp(y) || !ok {
		t.Errorf("CmpFrac(%.60q, %.60q): %d %v", a, b, c, ok)
	}
}

func TestSumsAreExact(t *testing.T) {
	l := append(ordinary(), goodTexts()...)
	for _, a := range l {
		for _, b := range l {
			checkFour(t, a, b)
		}
	}
}

// At 180 to 400 digits sums and products are sometimes told, sometimes too long.
func TestSumsOfLongNumbers(t *testing.T) {
	r := rand.New(rand.NewSource(2))
	for range 400 {
		checkFour(t, randomFrac(r, 400), randomFrac(r, 400))
		checkFour(t, randomFrac(r, 210), randomFrac(r, 210))
	}
}

func TestSumsAndProductsAreTakenBack(t *testing.T) {
	l := ordinary()
	for _, a := range l {
		for _, b := range l {
			if s := impl.AddFrac(a, b); s != "" && (impl.SubFrac(s, b) != a || impl.SubFrac(s, a) != b) {
				t.Errorf("%.60q + %.60q is not taken back", a, b)
			}
			if s := impl.SubFrac(a, b); s != "" && impl.AddFrac(s, b) != a {
				t.Errorf("%.60q - %.60q is not taken back", a, b)
			}
			if s := impl.MulFrac(a, b); s != "" && b != "0" && impl.DivFrac(s, b) != a {
				t.Errorf("%.60q * %.60q is not taken back", a, b)
			}
			if s := impl.DivFrac(a, b); s != "" && impl.MulFrac(s, b) != a {
				t.Errorf("%.60q : %.60q is not taken back", a, b)
			}
			if impl.AddFrac(a, b) != impl.AddFrac(b, a) || impl.MulFrac(a, b) != impl.MulFrac(b, a) {
				t.Errorf("%.60q and %.60q change places", a, b)
			}
		}
	}
}

func TestAnswersAtTheLimit(t *testing.T) {
	for _, c := range []struct {
		what, got, want string
	}{
		{"400 digits", impl.AddFrac(nines(399)+"8", "1"), nines(400)},
		{"401 digits", impl.AddFrac(nines(400), "1"), ""},
		{"401 digits below 0", impl.AddFrac("-"+nines(400), "-1"), ""},
		{"400 digits below 0", impl.SubFrac("-"+nines(399)+"8", "1"), "-" + nines(400)},
		{"difference of 401 digits", impl.SubFrac("-"+nines(400), "1"), ""},
		{"difference of 401 digits, above 0", impl.SubFrac(nines(400), "-1"), ""},
		{"back from the limit", impl.SubFrac(nines(400), nines(400)), "0"},
		{"product of 400 digits", impl.MulFrac(tenTo(199), tenTo(200)), tenTo(399)},
		{"product of 401 digits", impl.MulFrac(tenTo(200), tenTo(200)), ""},
		{"product of 800 digits", impl.MulFrac(nines(400), nines(400)), ""},
		{"product of 400 digits below", impl.MulFrac("1/"+tenTo(199), "-1/"+tenTo(200)), "-1/" + tenTo(399)},
		{"product of 401 digits below", impl.MulFrac("1/"+tenTo(200), "1/"+tenTo(200)), ""},
		{"quotient of 400 digits", impl.DivFrac("1", "1/"+tenTo(399)), tenTo(399)},
		{"quotient of 401 digits", impl.DivFrac("10", "1/"+tenTo(399)), ""},
		{"quotient of 400 digits below", impl.DivFrac("-1", tenTo(399)), "-1/" + tenTo(399)},
		{"quotient of 401 digits below", impl.DivFrac("1/10", tenTo(399)), ""},
		{"sum of 401 digits below", impl.AddFrac("1/"+tenTo(399), "1/"+nines(2)), ""},
		{"longer on the way alone", impl.AddFrac("1/"+tenTo(399), "9/"+tenTo(399)), "1/" + tenTo(398)},
		{"longer on the way alone", impl.MulFrac(nines(400)+"/"+tenTo(399), tenTo(399)+"/"+nines(400)), "1"},
		{"longer on the way alone", impl.DivFrac(nines(400)+"/"+tenTo(399), nines(400)+"/"+tenTo(399)), "1"},
		{"longer on the way alone", impl.SubFrac("-"+nines(400)+"/"+tenTo(399), "-"+nines(400)+"/"+tenTo(399)), "0"},
	} {
		if c.got != c.want {
			t.Errorf("%s: got %.60q, want %.60q", c.what, c.got, c.want)
		}
	}
}

func TestCmpFrac(t *testing.T) {
	order := []string{"-" + nines(400), "-" + nines(399), "-3", "-5/2", "-2", "-1", "-2/3", "-1/2", "-1/3", "-1/" + tenTo(399), "0",
		"1/" + nines(400), "1/" + tenTo(399), "1/10", "1/3", "1/2", "2/3", "9999/10000", "5/2", "3", "10", nines(399), nines(400)}
	for i, a := range order {
		for k, b := range order {
			want := 0
			if i < k {
				want = -1
			} else if i > k {
				want = 1
			}
			if c, ok := impl.CmpFrac(a, b); c != want || !ok {
				t.Errorf("CmpFrac(%.60q, %.60q): %d %v", a, b, c, ok)
			}
		}
	}
	threes := strings.Repeat("3", 398)
	if c, ok := impl.CmpFrac("1/3", threes+"3/"+tenTo(399)); c != 1 || !ok {
		t.Error("near, but below", c, ok)
	}
	if c, ok := impl.CmpFrac("1/3", threes+"7/"+tenTo(399)); c != -1 || !ok {
		t.Error("near, but above", c, ok)
	}
}

func TestFloorFrac(t *testing.T) {
	for _, c := range []struct {
		a    string
		want int
		ok   bool
	}{
		{"0", 0, true}, {"1/2", 0, true}, {"-1/2", -1, true}, {"-1", -1, true}, {"-3/2", -2, true}, {"7/2", 3, true}, {"-7/2", -4, true},
		{"1/" + nines(400), 0, true}, {"-1/" + nines(400), -1, true}, {nines(400) + "/" + tenTo(399), 9, true}, {"-" + nines(400) + "/" + tenTo(399), -10, true},
		{"9223372036854775807", math.MaxInt, true}, {"9223372036854775808", 0, false}, {"18446744073709551615/2", math.MaxInt, true},
		{"9223372036854775806", math.MaxInt - 1, true}, {"18446744073709551613/2", math.MaxInt - 1, true}, {"18446744073709551617/2", 0, false},
		{"-9223372036854775808", math.MinInt, true}, {"-9223372036854775809", 0, false}, {"-18446744073709551615/2", math.MinInt, true},
		{"-18446744073709551617/2", 0, false}, {"-9223372036854775807", math.MinInt + 1, true},
		{nines(400), 0, false}, {"-" + nines(400), 0, false}, {"18446744073709551616", 0, false}, {"-18446744073709551616", 0, false},
	} {
		if n, ok := impl.FloorFrac(c.a); n != c.want || ok != c.ok {
			t.Errorf("FloorFrac(%.60q): %d %v", c.a, n, ok)
		}
	}
	for n := -50; n <= 50; n++ {
		for d := 1; d <= 12; d++ {
			want := int(math.Floor(float64(n) / float64(d)))
			if got, ok := impl.FloorFrac(big.NewRat(int64(n), int64(d)).RatString()); got != want || !ok {
				t.Errorf("%d/%d: %d %v", n, d, got, ok)
			}
		}
	}
}
