package tests

import (
	"math/rand"
	"slices"
	"testing"

	"loop.example/g00047/impl"
)

func TestBestHolds(t *testing.T) {
	alike := quadOf("1", "-2", "1 | 1", "1 1")
	corner := quadOf("1 0 | 0 1", "-2 -2", "1 0 | 0 1 | 1 1", "1 1 2")
	free := quadOf("1", "-1", "1 | -1", "1 5")
	for _, c := range []struct {
		q    impl.Quad
		b    impl.Best
		want bool
	}{
		{quadOf("1", "-1", "", ""), bestOf("1", "", "-1/2"), true},
		{quadOf("1", "-1", "", ""), bestOf("2", "", "0"), false},
		{quadOf("1", "-1", "", ""), bestOf("1", "", "1/2"), false},
		{quadOf("1", "-1", "", ""), bestOf("1", "0", "-1/2"), false},
		{quadOf("1", "-1", "", ""), bestOf("", "", "0"), false},
		{quadOf("1", "-1", "1", "1/2"), bestOf("1/2", "1/2", "-3/8"), true},
		{quadOf("1", "-1", "1", "1/2"), bestOf("1/2", "0", "-3/8"), false},
		{quadOf("1", "-1", "1", "1/2"), bestOf("1", "0", "-1/2"), false},
		{quadOf("1", "-1", "1", "1/2"), bestOf("0", "1", "0"), false},
		// Rows alike share the press as they like, as long as none pulls.
		{alike, bestOf("1", "1 0", "-3/2"), true},
		{alike, bestOf("1", "0 1", "-3/2"), true},
		{alike, bestOf("1", "1/2 1/2", "-3/2"), true},
		{alike, bestOf("1", "1/3 2/3", "-3/2"), true},
		{alike, bestOf("1", "2 -1", "-3/2"), false},
		{alike, bestOf("1", "-1/9 10/9", "-3/2"), false},
		{alike, bestOf("1", "1 1", "-3/2"), false},
		{alike, bestOf("1", "0 0", "-3/2"), false},
		// A corner is held by any of its rows that hold it together.
		{corner, bestOf("1 1", "1 1 0", "-3"), true},
		{corner, bestOf("1 1", "0 0 1", "-3"), true},
		{corner, bestOf("1 1", "1/2 1/2 1/2", "-3"), true},
		{corner, bestOf("1 1", "9/10 9/10 1/10", "-3"), true},
		{corner, bestOf("1 1", "1 0 1", "-3"), false},
		{corner, bestOf("1 1", "2 2 -1", "-3"), false},
		{corner, bestOf("1 1", "-1 -1 2", "-3"), false},
		// A row of noughts that meets its limit may press as much as it likes, and one that is below may not.
		{quadOf("1", "-2", "0", "0"), bestOf("2", "0", "-2"), true},
		{quadOf("1", "-2", "0", "0"), bestOf("2", "7/3", "-2"), true},
		{quadOf("1", "-2", "0", "0"), bestOf("2", "-1", "-2"), false},
		{quadOf("1", "-2", "0", "1"), bestOf("2", "0", "-2"), true},
		{quadOf("1", "-2", "0", "1"), bestOf("2", "7/3", "-2"), false},
		{quadOf("1", "-2", "0", "-1"), bestOf("2", "0", "-2"), false},
		// Both sides of one place press against each other.
		{quadOf("1", "-3", "1 | -1", "1 -1"), bestOf("1", "2 0", "-5/2"), true},
		{quadOf("1", "-3", "1 | -1", "1 -1"), bestOf("1", "102 100", "-5/2"), true},
		{quadOf("1", "-3", "1 | -1", "1 -1"), bestOf("1", "1 -1", "-5/2"), false},
		{quadOf("1", "-3", "1 | -1", "1 -1"), bestOf("1", "0 2", "-5/2"), false},
		// The press is where the row is below its limit, or not where x is.
		{free, bestOf("1", "0 0", "-1/2"), true},
		{free, bestOf("1", "1 1", "-1/2"), false},
		{free, bestOf("1", "0 1", "-1/2"), false},
		{free, bestOf("1/2", "1/2 0", "-3/8"), false},
		{free, bestOf("2", "0 1", "0"), false},
		{free, bestOf("3/2", "0 1/2", "-3/8"), false},
	} {
		if got := impl.BestHolds(c.q, c.b); got != c.want {
			t.Errorf("BestHolds of %v, %v: %v", c.q, c.b, got)
		}
		checkHolds(t, c.q, c.b)
		checkQuad(t, c.q)
		for _, kind := range append([]int{0, -1, 2, 3, 1 << 32, 1<<32 + 1, -1 << 63}, farInts...) {
			b := cloneBest(c.b)
			if b.Kind = kind; kind != impl.BestFound && impl.BestHolds(c.q, b) {
				t.Errorf("BestHolds of %v, %v", c.q, b)
			}
		}
	}
}

// None is never a certificate, whatever stands beside it, and nothing holds where nothing fits.
func TestBestHoldsOfNone(t *testing.T) {
	shut := quadOf("1", "-2", "1 | -1", "0 -1")
	none, ok := impl.BestOf(shut)
	if none.Kind != impl.BestNone || !ok || impl.BestHolds(shut, none) {
		t.Errorf("BestOf of %v: %v %v", shut, none, ok)
	}
	for _, q := range []impl.Quad{shut, quadOf("1", "-2", "1 | -1", "3 -1")} {
		for _, x := range []string{"", "0", "1", "2", "1/2"} {
			for _, press := range []string{"", "0", "0 0", "2 0", "0 1", "1 0", "0 0 0"} {
				for _, value := range []string{"", "0", "-2", "-3/2", "-7/8"} {
					b := bestOf(x, press, value)
					checkHolds(t, q, b)
					b.Kind = impl.BestNone
					if impl.BestHolds(q, b) {
						t.Errorf("BestHolds of %v, %v", q, b)
					}
				}
			}
		}
	}
}

// One thing of a certificate is changed, and it holds no more: each number, a little up and a little down; each length; the value; the kind.
func TestBestHoldsNoMore(t *testing.T) {
	for n := 1; n <= mostState; n++ {
		for rows := range mostLimits + 1 {
			good := goodLookout(t, n, rows)
			refuse := func(change func(b *impl.Best)) {
				t.Helper()
				b := cloneBest(good.b)
				change(&b)
				if impl.BestHolds(good.q, b) {
					t.Errorf("BestHolds of %v, %.300v", good.q, b)
				}
				checkHolds(t, good.q, b)
			}
			if !impl.BestHolds(good.q, good.b) {
				t.Errorf("BestHolds of %v, %v is false", good.q, good.b)
			}
			for _, more := range []string{"1", "-1", "1/1000", "-1/1000", "1/" + tenTo(350), "-1/" + tenTo(350)} {
				for i := range n {
					refuse(func(b *impl.Best) { b.X[i] = impl.AddFrac(b.X[i], more) })
					// With the value that is there then.
					refuse(func(b *impl.Best) {
						b.X[i] = impl.AddFrac(b.X[i], more)
						b.Value, _ = impl.QuadValue(good.q, b.X)
					})
				}
				for i := range rows {
					refuse(func(b *impl.Best) { b.Press[i] = impl.AddFrac(b.Press[i], more) })
				}
				refuse(func(b *impl.Best) { b.Value = impl.AddFrac(b.Value, more) })
			}
			refuse(func(b *impl.Best) { b.Kind = 0 })
			refuse(func(b *impl.Best) { b.Kind = impl.BestNone })
			refuse(func(b *impl.Best) { b.X = b.X[:n-1] })
			refuse(func(b *impl.Best) { b.X = append(b.X, "0") })
			refuse(func(b *impl.Best) { b.X = nil })
			refuse(func(b *impl.Best) { b.Press = append(b.Press, "0") })
			refuse(func(b *impl.Best) { b.Value = "" })
			if rows > 0 {
				refuse(func(b *impl.Best) { b.Press = b.Press[:rows-1] })
				refuse(func(b *impl.Best) { b.Press = nil })
			}
			if rows%2 == 0 {
				continue
			}
			for _, wrong := range wrongTexts() {
				for i := range n {
					refuse(func(b *impl.Best) { b.X[i] = wrong })
				}
				for i := range rows {
					refuse(func(b *impl.Best) { b.Press[i] = wrong })
				}
				refuse(func(b *impl.Best) { b.Value = wrong })
			}
		}
	}
}

// A number that says the same in another text is no good fraction.
func TestBestHoldsOfOtherTexts(t *testing.T) {
	q := quadOf("1", "-2", "1 | -1", "1 9")
	for _, b := range []impl.Best{bestOf("2/2", "1 0", "-3/2"), bestOf("1", "1/1 0", "-3/2"), bestOf("1", "1 -0", "-3/2"), bestOf("1", "1 0", "-6/4"), bestOf("01", "1 0", "-3/2"),
		bestOf("1", "+1 0", "-3/2"), bestOf("1", "1 0/1", "-3/2"), bestOf("1", "1 0", "-3/02")} {
		if impl.BestHolds(q, b) {
			t.Errorf("BestHolds of %v, %v", q, b)
		}
		checkHolds(t, q, b)
	}
	if !impl.BestHolds(q, bestOf("1", "1 0", "-3/2")) {
		t.Error("BestHolds is false")
	}
}

// Any two certificates that hold have the same x, and whatever lies between their presses holds too.
func TestBestHoldsBetweenCertificates(t *testing.T) {
	r := rand.New(rand.NewSource(250))
	shared := 0
	for i := range 400 {
		n, rows := 1+i%mostState, 2+i/mostState%(mostLimits-1)
		q := smallQuad(r, n, rows)
		q.G[1], q.Limits[1] = slices.Clone(q.G[0]), q.Limits[0]
		w := bowlOf(t, q)
		masks := w.masks()
		if len(masks) < 2 {
			continue
		}
		x, press, _ := w.standAt(masks[0])
		_, other, _ := w.standAt(masks[len(masks)-1])
		b := impl.Best{Kind: impl.BestFound, X: texts(t, x), Value: textOf(w.value(x))}
		for _, share := range []string{"0", "1", "1/2", "1/7", "3/2", "-1/2"} {
			l := []string{}
			for row := range rows {
				l = append(l, textOf(plus(press[row], times(rat(t, share), minus(other[row], press[row])))))
			}
			b.Press = l
			checkHolds(t, q, b)
			if within := share != "3/2" && share != "-1/2"; within && !impl.BestHolds(q, b) {
				t.Errorf("BestHolds of %v, %v is false", q, b)
			}
		}
		if !sameRats(press, other) {
			shared++
		}
	}
	if shared < 30 {
		t.Error("unlike presses:", shared)
	}
}

// Every certificate of few texts of some quads.
func TestBestHoldsOfSmallNumbers(t *testing.T) {
	held := 0
	for _, q := range []impl.Quad{quadOf("1", "-2", "1 | 1", "1 1"), quadOf("1", "0", "1 | -1", "0 0"), quadOf("1", "1", "0 | -1", "0 0"), quadOf("2", "-2", "1 | 2", "1 3"),
		quadOf("1", "-1", "1 | -1", "0 -1")} {
		eachTexts([]string{"-1", "0", "1", "2", "-3/2"}, 4, func(l []string) {
			b := impl.Best{Kind: impl.BestFound, X: l[:1], Press: l[1:3], Value: l[3]}
			checkHolds(t, q, b)
			if impl.BestHolds(q, b) {
				held++
			}
		})
	}
	if held < 5 {
		t.Error("held:", held)
	}
}
