package tests

import (
	"testing"

	"loop.example/g00047/impl"
)

// checkWrongPair: a pair of which one at least is no good fraction has the zero answers alone.
func checkWrongPair(t *testing.T, a string, b string) {
	t.Helper()
	if impl.AddFrac(a, b) != "" || impl.SubFrac(a, b) != "" || impl.MulFrac(a, b) != "" || impl.DivFrac(a, b) != "" || impl.SimplestIn(a, b) != "" {
		t.Errorf("%.60q and %.60q have an answer", a, b)
	}
	if c, ok := impl.CmpFrac(a, b); c != 0 || ok {
		t.Errorf("CmpFrac(%.60q, %.60q): %d %v", a, b, c, ok)
	}
}

func checkWrongOne(t *testing.T, s string) {
	t.Helper()
	if impl.GoodFrac(s) {
		t.Errorf("GoodFrac(%.60q)", s)
	}
	if n, ok := impl.FloorFrac(s); n != 0 || ok {
		t.Errorf("FloorFrac(%.60q): %d %v", s, n, ok)
	}
	if r, ok := impl.RootFrac(s); r != "" || ok {
		t.Errorf("RootFrac(%.60q): %.60q %v", s, r, ok)
	}
}

func TestWrongTextsHaveTheZeroAnswer(t *testing.T) {
	for _, s := range wrongTexts() {
		checkWrongOne(t, s)
		for _, good := range []string{"0", "1", "-1/2", nines(400), "2/" + nines(400)} {
			checkWrongPair(t, s, good)
			checkWrongPair(t, good, s)
		}
	}
}

func TestTwoWrongTexts(t *testing.T) {
	l := wrongTexts()
	for i, a := range l {
		checkWrongPair(t, a, a)
		checkWrongPair(t, a, l[(i+1)%len(l)])
	}
}

func TestAllShortWrongTexts(t *testing.T) {
	shortTexts("-/0124 +", 4, func(s string) {
		if isFrac(s) {
			return
		}
		checkWrongOne(t, s)
		checkWrongPair(t, s, "1/2")
		checkWrongPair(t, "1/2", s)
	})
}

// FuzzFracs asks every function of any two texts: it must answer, and with good fractions.
func FuzzFracs(f *testing.F) {
	for _, s := range append(goodTexts(), "", "-0", "1/0", "2/4") {
		f.Add(s, "-1/3")
		f.Add("5/2", s)
	}
	f.Fuzz(func(t *testing.T, a string, b string) {
		if impl.GoodFrac(a) != isFrac(a) {
			t.Errorf("GoodFrac(%.60q)", a)
		}
		if !isFrac(a) {
			checkWrongOne(t, a)
		}
		if !isFrac(a) || !isFrac(b) {
			checkWrongPair(t, a, b)
			return
		}
		checkFour(t, a, b)
		if s := impl.SimplestIn(a, b); (s != "") != (rat(t, a).Cmp(rat(t, b)) <= 0) {
			t.Errorf("SimplestIn(%.60q, %.60q): %.60q", a, b, s)
		}
	})
}
