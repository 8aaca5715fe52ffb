package tests

import (
	"math/big"
	"math/rand"
	"strings"
	"testing"

	"loop.example/g00047/impl"
)

func TestRootFracByHand(t *testing.T) {
	for _, c := range []struct {
		a, want string
		ok      bool
	}{
		{"0", "0", true}, {"1", "1", true}, {"4", "2", true}, {"9/4", "3/2", true}, {"1/4", "1/2", true}, {"49/100", "7/10", true},
		{"2", "", false}, {"3", "", false}, {"1/2", "", false}, {"4/3", "", false}, {"3/4", "", false}, {"8/9", "", false}, {"2/3", "", false},
		{"-1", "", false}, {"-4", "", false}, {"-9/4", "", false}, {"-1/4", "", false}, {"-2", "", false},
		{tenTo(398), tenTo(199), true}, {tenTo(399), "", false}, {"1/" + tenTo(398), "1/" + tenTo(199), true}, {"1/" + tenTo(399), "", false},
		{"-" + tenTo(398), "", false}, {nines(400), "", false},
		// (10^200 - 1)^2 has 400 digits; its neighbours have no root.
		{nines(199) + "8" + strings.Repeat("0", 199) + "1", nines(200), true},
		{nines(199) + "8" + strings.Repeat("0", 199) + "2", "", false}, {nines(199) + "8" + strings.Repeat("0", 199) + "0", "", false},
	} {
		if r, ok := impl.RootFrac(c.a); r != c.want || ok != c.ok {
			t.Errorf("RootFrac(%.60q): %.60q %v", c.a, r, ok)
		}
	}
}

func TestRootFracOfSquares(t *testing.T) {
	r := rand.New(rand.NewSource(3))
	for range 300 {
		a := strings.TrimPrefix(randomFrac(r, 200), "-")
		s := impl.MulFrac(a, a)
		if got, ok := impl.RootFrac(s); got != a || !ok {
			t.Errorf("the root of the square of %.60q: %.60q %v", a, got, ok)
		}
	}
}

// A root that is told is one; where none is told neither number's root is whole.
func TestRootFracOfAllSmall(t *testing.T) {
	for n := range 120 {
		for d := 1; d <= 120; d++ {
			q := big.NewRat(int64(n), int64(d))
			root, ok := impl.RootFrac(q.RatString())
			if ok != (isSquare(q.Num().Int64()) && isSquare(q.Denom().Int64())) {
				t.Errorf("RootFrac(%s): %q %v", q.RatString(), root, ok)
			}
			if ok && (impl.MulFrac(root, root) != q.RatString() || root[0] == '-') || !ok && root != "" {
				t.Errorf("RootFrac(%s): %q", q.RatString(), root)
			}
		}
	}
}

func isSquare(n int64) bool {
	for i := int64(0); i*i <= n; i++ {
		if i*i == n {
			return true
		}
	}
	return false
}
