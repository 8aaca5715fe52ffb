package tests

import (
	"fmt"
	"math/rand"
	"slices"
	"strings"
	"testing"

	"loop.example/g00047/impl"
)

// pressed are touches: "1 0 / 0 2" has W 1 and 0, Z 0 and 2; bars stand between several.
func pressed(s string) []impl.Touch {
	l := []impl.Touch{}
	for one := range strings.SplitSeq(s, "|") {
		if w, z, some := strings.Cut(one, " / "); some {
			l = append(l, impl.Touch{W: strings.Fields(w), Z: strings.Fields(z)})
		}
	}
	return l
}

type touchCase struct {
	m, q, want string
}

// touchCases are worked out by hand.
func touchCases() []touchCase {
	return []touchCase{
		// One contact: it presses, it parts, it does neither; below 0 both may be.
		{"2", "-1", "0 / 1/2"},
		{"2", "1", "1 / 0"},
		{"2", "0", "0 / 0"},
		{"-1", "1", "1 / 0 | 0 / 1"},
		{"-3", "2", "2 / 0 | 0 / 2/3"},
		{"-1", "-1", ""},
		{"-1", "0", "0 / 0"},
		// A matrix of noughts: its equations have no answer or many, but those of the mask 0.
		{"0", "1", "1 / 0"},
		{"0", "0", "0 / 0"},
		{"0", "-1", ""},
		{"0 0 | 0 0", "1 2", "1 2 / 0 0"},
		{"0 0 | 0 0", "0 0", "0 0 / 0 0"},
		{"0 0 | 0 0", "1 -1", ""},
		{"0 0 0 | 0 0 0 | 0 0 0", "0 1/2 3", "0 1/2 3 / 0 0 0"},
		{"0 0 0 0 | 0 0 0 0 | 0 0 0 0 | 0 0 0 0", "1 0 0 2", "1 0 0 2 / 0 0 0 0"},
		{"0 0 0 0 | 0 0 0 0 | 0 0 0 0 | 0 0 0 0", "1 0 0 -2", ""},
		// Contacts that have nothing to do with each other.
		{"1 0 | 0 1", "-1 -2", "0 0 / 1 2"},
		{"1 0 | 0 1", "-1 2", "0 2 / 1 0"},
		{"1 0 | 0 1", "1 -2", "1 0 / 0 2"},
		// Several masks find them: W and Z are both 0 at a contact.
		{"1 0 | 0 1", "0 0", "0 0 / 0 0"},
		{"1 0 | 0 1", "0 -1", "0 0 / 0 1"},
		{"1 0 | 0 1", "-1 0", "0 0 / 1 0"},
		{"1 0 0 | 0 1 0 | 0 0 1", "0 -1 0", "0 0 0 / 0 1 0"},
		{"1 1 | 1 2", "-1 -1", "0 0 / 1 0"},
		{"2 1 | 1 1", "-1 -1", "0 0 / 0 1"},
		// Three touches, told in the order of the masks.
		{"1 2 | 2 1", "-1 -1", "0 1 / 1 0 | 1 0 / 0 1 | 0 0 / 1/3 1/3"},
		{"1 2 | 3 1", "-1 -1", "0 2 / 1 0 | 1 0 / 0 1 | 0 0 / 1/5 2/5"},
		{"-1 0 | 0 -1", "1 2", "1 2 / 0 0 | 0 2 / 1 0 | 1 0 / 0 2 | 0 0 / 1 2"},
		{"-1 0 | 0 -1", "0 2", "0 2 / 0 0 | 0 0 / 0 2"},
		{"-1 0 | 0 1", "1 -2", "1 0 / 0 2 | 0 0 / 1 2"},
		// Two rows alike: many answers, or none.
		{"1 1 | 1 1", "-1 -1", "0 0 / 1 0 | 0 0 / 0 1"},
		{"1 1 | 1 1", "-1 -2", "1 0 / 0 2"},
		{"1 1 | 1 1", "-2 -1", "0 1 / 2 0"},
		{"1 1 | 1 1", "0 -2", "2 0 / 0 2"},
		{"1 2 | 1 2", "-2 -2", "0 0 / 2 0 | 0 0 / 0 1"},
		{"1 -1 | -1 1", "-1 -1", ""},
		{"1 -1 | -1 1", "-1 1", "0 0 / 1 0"},
		{"1 1 0 | 1 1 0 | 0 0 1", "-1 -1 -3", "0 0 0 / 1 0 3 | 0 0 0 / 0 1 3"},
		// Two rows are to be changed with one another, and masks ahead have no answer or many.
		{"0 1 | 1 0", "-1 -1", "0 0 / 1 1"},
		{"0 1 | 1 0", "-2 -3", "0 0 / 3 2"},
		{"0 1 | 1 0", "1 1", "1 1 / 0 0"},
		{"0 1 | 1 0", "-1 0", "0 0 / 0 1"},
		{"0 1 | 1 0", "0 -1", "0 0 / 1 0"},
		{"0 1 | 1 0", "0 0", "0 0 / 0 0"},
		{"0 1 | -1 0", "1 -1", ""},
		{"0 1 | -1 0", "-1 1", "0 0 / 1 1"},
		{"0 2 | 4 1", "-1 -1", "1 0 / 0 1 | 0 0 / 1/8 1/2"},
		{"0 1 0 | 0 0 1 | 1 0 0", "-1 -2 -3", "0 0 0 / 3 1 2"},
		{"0 0 1 | 1 0 0 | 0 1 0", "-1 -2 -3", "0 0 0 / 2 3 1"},
		{"0 0 0 1 | 0 0 1 0 | 0 1 0 0 | 1 0 0 0", "-1 -2 -3 -4", "0 0 0 0 / 4 3 2 1"},
		{"1 1 0 | 1 1 1 | 0 1 1", "-1 -2 -1", "1 0 1 / 0 2 0 | 0 0 0 / 1 0 1"},
		// A column becomes 0 only when another is cleared: rows are changed then.
		{"1 1 1 | 1 1 2 | 1 2 1", "-3 -4 -4", "1 0 4 / 0 4 0 | 1 4 0 / 0 0 4 | 0 0 0 / 1 1 1"},
		// Not firm, and not mirrored.
		{"0 1 | 0 0", "-1 0", ""},
		{"1 -1 | 0 1", "-1 -1", "0 0 / 2 1"},
		{"1 -2 | -2 1", "-1 -1", ""},
		{"1 -2 | -2 1", "1 1", "1 1 / 0 0 | 0 0 / 1 1"},
		{"1 -5 | 3 1", "-1 -1", "0 2 / 1 0"},
		{"1/2 1/3 | 1/3 1/2", "-1 -1/7", "0 11/21 / 2 0"},
		{"2 1 0 0 | 1 2 1 0 | 0 1 2 1 | 0 0 1 2", "-3 -4 -4 -3", "0 0 0 0 / 1 1 1 1"},
	}
}

func TestTouchesByHand(t *testing.T) {
	for _, c := range touchCases() {
		m, q, want := square(c.m), strings.Fields(c.q), pressed(c.want)
		got, ok := impl.AllTouches(m, q)
		if !sameTouches(got, want) || !ok || !impl.GoodTouch(m, q) {
			t.Errorf("AllTouches of %s, %s: got %q %v, want %q", c.m, c.q, got, ok, want)
		}
		for _, touch := range want {
			if !impl.Touches(m, q, touch) {
				t.Errorf("Touches of %s, %s is false of %q", c.m, c.q, touch)
			}
		}
		checkTouching(t, m, q)
	}
}

// Each of the 16 masks has a touch of its own: Z is 1 at its contacts, W is 1 at the others.
func TestTouchesStandInTheOrderOfTheirMasks(t *testing.T) {
	for n := 1; n <= mostTouch; n++ {
		m, q := identity(n, "-1"), slices.Repeat([]string{"1"}, n)
		got, ok := impl.AllTouches(m, q)
		if len(got) != 1<<n || !ok {
			t.Fatalf("%d contacts: %d touches, %v", n, len(got), ok)
		}
		for mask, touch := range got {
			for i := range n {
				press, part := fmt.Sprint(mask>>i&1), fmt.Sprint(1-mask>>i&1)
				if touch.Z[i] != press || touch.W[i] != part {
					t.Errorf("%d contacts, the mask %d: %q", n, mask, touch)
				}
			}
		}
		checkTouching(t, m, q)
	}
}

// identity has s from corner to corner, and 0 elsewhere.
func identity(n int, s string) [][]string {
	m := make([][]string, n)
	for i := range m {
		m[i] = slices.Repeat([]string{"0"}, n)
		m[i][i] = s
	}
	return m
}

// Where q is 0 both W and Z are, and masks with that contact and without it find the same touch.
func TestTouchesOfSeveralMasksAreToldOnce(t *testing.T) {
	part, press := map[string]string{"1": "1", "0": "0", "-1": "0"}, map[string]string{"1": "0", "0": "0", "-1": "1"}
	for n := 1; n <= mostTouch; n++ {
		eachTexts([]string{"0", "1", "-1"}, n, func(q []string) {
			want := impl.Touch{}
			for _, s := range q {
				want.W, want.Z = append(want.W, part[s]), append(want.Z, press[s])
			}
			if got, ok := impl.AllTouches(identity(n, "1"), q); !sameTouches(got, []impl.Touch{want}) || !ok {
				t.Errorf("%q: got %q %v, want %q", q, got, ok, want)
			}
		})
	}
}

func TestTouchesOfSmallNumbers(t *testing.T) {
	eachTexts([]string{"0", "1", "-1", "1/2", "-3"}, 2, func(l []string) {
		checkTouching(t, [][]string{l[:1]}, l[1:])
	})
	eachTexts([]string{"0", "1", "-1", "2"}, 6, func(l []string) {
		checkTouching(t, [][]string{l[:2], l[2:4]}, l[4:])
	})
	r := rand.New(rand.NewSource(101))
	for n := 3; n <= mostTouch; n++ {
		for range 700 / n {
			checkTouching(t, smallSquare(r, n, -1, 1), smallTexts(r, n, -2, 1))
			checkTouching(t, smallSquare(r, n, -2, 3), smallTexts(r, n, -3, 1))
			checkTouching(t, smallSquare(r, n, 0, 1), smallTexts(r, n, -2, 0))
		}
	}
}

// Rows alike, rows of noughts, and rows that are sums of others.
func TestTouchesOfDependentRows(t *testing.T) {
	r := rand.New(rand.NewSource(102))
	for n := 2; n <= mostTouch; n++ {
		for range 60 {
			m, q := smallSquare(r, n, -2, 2), smallTexts(r, n, -2, 1)
			at := r.Intn(n)
			other := (at + 1 + r.Intn(n-1)) % n
			m[at] = slices.Clone(m[other])
			checkTouching(t, m, q)
			q[at] = q[other]
			checkTouching(t, m, q)
			m[at] = slices.Repeat([]string{"0"}, n)
			checkTouching(t, m, q)
			for c := range n {
				m[at][c] = impl.AddFrac(m[other][c], m[(other+1)%n][c])
			}
			checkTouching(t, m, q)
		}
	}
}

func TestTouchesOfDrawnNumbers(t *testing.T) {
	r := rand.New(rand.NewSource(103))
	for n := 1; n <= mostTouch; n++ {
		for _, digits := range []int{1, 2, 5, 20} {
			for range 12 {
				checkTouching(t, drawnSquare(r, n, digits), drawnTexts(r, n, digits))
			}
		}
	}
}

// Matrices that are made to have a touch at drawn contacts: it is told where their equations have no other answer.
func TestTouchesThatAreMade(t *testing.T) {
	r := rand.New(rand.NewSource(104))
	for n := 1; n <= mostTouch; n++ {
		for range 40 {
			m, touch, mask := drawnSquare(r, n, 4), impl.Touch{}, r.Intn(1<<n)
			for i := range n {
				pair := []string{drawnLength(r, 3), "0"}
				touch.W, touch.Z = append(touch.W, pair[mask>>i&1]), append(touch.Z, pair[1-mask>>i&1])
			}
			q := make([]string, n)
			for i, part := range partsOf(ratRows(t, m), rats(make([]int64, n)...), ratList(t, touch.Z)) {
				q[i] = minus(rat(t, touch.W[i]), part).RatString()
			}
			if !impl.Touches(m, q, touch) {
				t.Errorf("Touches of %q, %q, %q is false", m, q, touch)
			}
			only := expanded(chosen(ratRows(t, m), among(mask))).Sign() != 0
			got, ok := impl.AllTouches(m, q)
			if slices.ContainsFunc(got, func(a impl.Touch) bool { return sameTouch(a, touch) }) != only || !ok {
				t.Errorf("AllTouches of %q, %q, and %q: %q %v", m, q, touch, got, ok)
			}
			checkTouching(t, m, q)
			checkSpoilt(t, m, q, touch)
		}
	}
}

// checkSpoilt asks Touches of a touch with other numbers at each place.
func checkSpoilt(t *testing.T, m [][]string, q []string, touch impl.Touch) {
	t.Helper()
	for i := range q {
		for _, s := range []string{"0", "1", "-1", "1/2", touch.W[i], touch.Z[i], "-" + touch.W[i], "-" + touch.Z[i]} {
			w, z := slices.Clone(touch.W), slices.Clone(touch.Z)
			w[i], z[i] = s, s
			checkOneTouch(t, m, q, impl.Touch{W: w, Z: touch.Z})
			checkOneTouch(t, m, q, impl.Touch{W: touch.W, Z: z})
			checkOneTouch(t, m, q, impl.Touch{W: w, Z: z})
			other := slices.Clone(q)
			other[i] = s
			checkOneTouch(t, m, other, touch)
		}
	}
	checkOneTouch(t, m, q, impl.Touch{W: touch.Z, Z: touch.W})
}

func TestWhatTouches(t *testing.T) {
	for _, c := range []struct {
		m, q, touch string
		want        bool
	}{
		{"2", "-1", "0 / 1/2", true},
		// W is not m Z + q.
		{"2", "-1", "0 / 1", false},
		{"2", "-1", "0 / 0", false},
		{"2", "-1", "1 / 0", false},
		{"2", "1", "0 / 0", false},
		{"2", "1", "2 / 0", false},
		{"1 1 | 0 1", "1 -1", "1 0 / 0 1", false},
		{"1 1 | 0 1", "1 -1", "2 0 / 0 1", true},
		// The columns are not the rows.
		{"1 0 | 1 1", "1 -1", "1 0 / 0 1", true},
		{"1 0 | 1 1", "1 -1", "2 0 / 0 1", false},
		// Z below 0, W below 0, though W is m Z + q.
		{"2", "1", "0 / -1/2", false},
		{"-1", "-1", "0 / -1", false},
		{"2", "-1", "-1 / 0", false},
		{"1 0 | 0 1", "-1 1", "0 0 / 1 -1", false},
		{"1 0 | 0 1", "-1 -1", "0 -1 / 1 0", false},
		{"1", "-2", "-1 / 1", false},
		// Both above 0 at one contact; both below.
		{"2", "1", "3 / 1", false},
		{"2", "-1", "1 / 1", false},
		{"1 0 | 0 1", "-1 0", "0 1 / 1 1", false},
		{"-1 0 | 0 1", "1 -1", "1/2 0 / 1/2 1", false},
		{"1", "0", "-1 / -1", false},
		// Both 0.
		{"5", "0", "0 / 0", true},
		{"0 0 | 0 0", "0 0", "0 0 / 0 0", true},
		// Touches that no mask finds, as its equations have many answers.
		{"0", "0", "0 / 5", true},
		{"0", "0", "0 / 1/7", true},
		{"0", "0", "0 / -5", false},
		{"1 1 | 1 1", "-1 -1", "0 0 / 1/2 1/2", true},
		{"1 1 | 1 1", "-1 -1", "0 0 / 1/3 2/3", true},
		{"1 1 | 1 1", "-1 -1", "0 0 / 1/3 1/3", false},
		{"1 1 | 1 1", "-1 -1", "0 0 / 2 -1", false},
	} {
		m, q, touch := square(c.m), strings.Fields(c.q), pressed(c.touch)[0]
		if got := impl.Touches(m, q, touch); got != c.want {
			t.Errorf("Touches of %s, %s, %s: %v", c.m, c.q, c.touch, got)
		}
		checkOneTouch(t, m, q, touch)
	}
}

func TestWhatTouchesOfSmallNumbers(t *testing.T) {
	eachTexts([]string{"0", "1", "-1", "2", "1/2"}, 4, func(l []string) {
		checkOneTouch(t, [][]string{l[:1]}, l[1:2], impl.Touch{W: l[2:3], Z: l[3:]})
	})
	r := rand.New(rand.NewSource(105))
	for n := 2; n <= mostTouch; n++ {
		for range 300 {
			checkOneTouch(t, smallSquare(r, n, 0, 1), smallTexts(r, n, -1, 0), impl.Touch{W: smallTexts(r, n, 0, 1), Z: smallTexts(r, n, 0, 1)})
		}
	}
}
