package tests

import (
	"math/big"
	"math/rand"
	"slices"
	"testing"

	"loop.example/g00047/impl"
)

type longCase struct {
	m    [][]string
	q    []string
	want []impl.Touch
	ok   bool
}

func checkLong(t *testing.T, what string, c longCase) {
	t.Helper()
	got, ok := impl.AllTouches(c.m, c.q)
	if !sameTouches(got, c.want) || ok != c.ok {
		t.Errorf("%s: got %.300q %v, want %.300q %v", what, got, ok, c.want, c.ok)
	}
	checkTouching(t, c.m, c.q)
}

// Numbers of 400 digits are told, of 401 not.
func TestTouchesOfLongNumbers(t *testing.T) {
	long := nines(400)
	for _, c := range []longCase{
		{[][]string{{"1"}}, []string{"-" + long}, []impl.Touch{{W: []string{"0"}, Z: []string{long}}}, true},
		{[][]string{{"1"}}, []string{long}, []impl.Touch{{W: []string{long}, Z: []string{"0"}}}, true},
		{[][]string{{long}}, []string{"-1"}, []impl.Touch{{W: []string{"0"}, Z: []string{"1/" + long}}}, true},
		{[][]string{{long}}, []string{"-" + tenTo(399)}, []impl.Touch{{W: []string{"0"}, Z: []string{tenTo(399) + "/" + long}}}, true},
		{[][]string{{"1/10"}}, []string{"-" + tenTo(398)}, []impl.Touch{{W: []string{"0"}, Z: []string{tenTo(399)}}}, true},
		{[][]string{{"1/10"}}, []string{"-" + tenTo(399)}, nil, false},
		{[][]string{{"10"}}, []string{"-1/" + tenTo(398)}, []impl.Touch{{W: []string{"0"}, Z: []string{"1/" + tenTo(399)}}}, true},
		{[][]string{{"10"}}, []string{"-1/" + tenTo(399)}, nil, false},
		{[][]string{{"1/" + long}}, []string{"-" + long}, nil, false},
		{[][]string{{long}}, []string{"-1/" + long}, nil, false},
		// W is too long, Z is not.
		{[][]string{{"1", "0"}, {"10", "1"}}, []string{"-" + tenTo(398), "0"}, []impl.Touch{{W: []string{"0", tenTo(399)}, Z: []string{tenTo(398), "0"}}}, true},
		{[][]string{{"1", "0"}, {"10", "1"}}, []string{"-" + tenTo(399), "0"}, nil, false},
		{[][]string{{"1", "0"}, {"1/2", "1"}}, []string{"-1/" + long, "0"}, nil, false},
		// Too long, but no touch, as it is below 0: Z, and W.
		{[][]string{{"1/10"}}, []string{tenTo(399)}, []impl.Touch{{W: []string{tenTo(399)}, Z: []string{"0"}}}, true},
		{[][]string{{"1/" + long}}, []string{long}, []impl.Touch{{W: []string{long}, Z: []string{"0"}}}, true},
		{[][]string{{"1", "0"}, {"-" + long, "1"}}, []string{long, "1"}, []impl.Touch{{W: []string{long, "1"}, Z: []string{"0", "0"}}}, true},
		{[][]string{{"1", "0"}, {"-10", "-1"}}, []string{"-" + tenTo(399), "0"}, nil, true},
		// Of two touches one is too long: neither is told. It stands first, or second.
		{[][]string{{"-1/10"}}, []string{tenTo(398)}, []impl.Touch{{W: []string{tenTo(398)}, Z: []string{"0"}}, {W: []string{"0"}, Z: []string{tenTo(399)}}}, true},
		{[][]string{{"-1/10"}}, []string{tenTo(399)}, nil, false},
		{[][]string{{"1/10", "1"}, {"1", "2"}}, []string{"-" + tenTo(399), "-" + tenTo(399)}, nil, false},
		{[][]string{{"2", "1"}, {"1", "1/10"}}, []string{"-" + tenTo(399), "-" + tenTo(399)}, nil, false},
	} {
		checkLong(t, "a long touch", c)
	}
}

// The determinants are far beyond 400 digits, what is told is not: the presses stay, as both sides are so many times as great.
func TestTouchesThatAreLongOnTheWay(t *testing.T) {
	for _, by := range []string{nines(398), "1/" + nines(398), tenTo(390) + "/" + nines(390), tenTo(395) + "/7"} {
		for _, c := range touchCases() {
			m, q := scaled(t, square(c.m), by), scaled(t, square(c.q), by)[0]
			got, ok := impl.AllTouches(m, q)
			want := pressed(c.want)
			for i := range want {
				want[i].W = scaled(t, [][]string{want[i].W}, by)[0]
			}
			if !sameTouches(got, want) || !ok {
				t.Errorf("%s and %s, scaled: %.300q %v", c.m, c.q, got, ok)
			}
			checkTouching(t, m, q)
			checkPresses(t, m, q, slices.Repeat([]string{"1"}, len(m)))
		}
	}
}

// scaled has each number so many times as great; it is a fault of the test if one is too long.
func scaled(t *testing.T, m [][]string, by string) [][]string {
	t.Helper()
	out := make([][]string, len(m))
	for i := range m {
		for _, n := range ratList(t, m[i]) {
			out[i] = append(out[i], texts(t, []*big.Rat{times(n, rat(t, by))})...)
		}
	}
	return out
}

func TestPressesOfLongNumbers(t *testing.T) {
	long, tiny := nines(400), "1/"+nines(400)
	for _, c := range []struct {
		m         [][]string
		q, mu     []string
		want      []string
		alsoTouch bool
	}{
		{[][]string{{"1"}}, []string{"-" + long}, []string{long}, []string{long}, true},
		{[][]string{{"1"}}, []string{"-" + long}, []string{tiny}, []string{tiny}, true},
		{[][]string{{long}}, []string{"-1"}, []string{tiny}, []string{tiny}, true},
		// Z is too long, but cut; mu is the greatest that can be.
		{[][]string{{"1/10"}}, []string{"-" + tenTo(399)}, []string{"5"}, []string{"5"}, false},
		{[][]string{{"1/10"}}, []string{"-" + tenTo(399)}, []string{long}, []string{long}, false},
		{[][]string{{tiny}}, []string{"-" + long}, []string{"0"}, []string{"0"}, false},
		{[][]string{{long}}, []string{"-" + tiny}, []string{"0"}, []string{"0"}, false},
		{[][]string{{"10"}}, []string{"-1/" + tenTo(399)}, []string{"0"}, []string{"0"}, false},
		// Z is too long, and told.
		{[][]string{{long}}, []string{"-" + tiny}, []string{tiny}, nil, false},
		{[][]string{{"10"}}, []string{"-1/" + tenTo(399)}, []string{"1"}, nil, false},
		{[][]string{{"10"}}, []string{"-1/" + tenTo(398)}, []string{"1"}, []string{"1/" + tenTo(399)}, true},
		{[][]string{{"1", "0"}, {"0", "10"}}, []string{"-1", "-1/" + tenTo(399)}, []string{"2", "1"}, nil, false},
		{[][]string{{"1", "0"}, {"0", "10"}}, []string{"-1", "-1/" + tenTo(399)}, []string{"2", "0"}, []string{"1", "0"}, false},
		// W is too long, and not told.
		{[][]string{{"1", "0"}, {"10", "1"}}, []string{"-" + tenTo(399), "0"}, []string{long, "1"}, []string{tenTo(399), "0"}, false},
		{[][]string{{"1", "0"}, {"1/2", "1"}}, []string{"-" + tiny, "0"}, []string{"1", "1"}, []string{tiny, "0"}, false},
		// It comes up on the way alone.
		{[][]string{{long, "0"}, {"0", long}}, []string{"-" + long, "-" + long}, []string{"3", "1/2"}, []string{"1", "1/2"}, true},
	} {
		got, ok := impl.Presses(c.m, c.q, c.mu)
		if !slices.Equal(got, c.want) || ok != (c.want != nil) {
			t.Errorf("Presses of %.200q, %.200q, %.200q: got %.200q %v, want %.200q", c.m, c.q, c.mu, got, ok, c.want)
		}
		if _, also := impl.AllTouches(c.m, c.q); also != c.alsoTouch {
			t.Errorf("AllTouches of %.200q, %.200q: %v", c.m, c.q, also)
		}
		checkPresses(t, c.m, c.q, c.mu)
	}
}

// All numbers as long as they may be.
func TestTouchesOfTheLongestNumbers(t *testing.T) {
	r := rand.New(rand.NewSource(108))
	for n := 1; n <= mostTouch; n++ {
		m, q := make([][]string, n), make([]string, n)
		for i := range m {
			for range n {
				m[i] = append(m[i], longFrac(r))
			}
			q[i] = longFrac(r)
		}
		checkTouching(t, m, q)
		checkPresses(t, m, q, slices.Repeat([]string{"1"}, n))
		for i := range m {
			m[i][i] = nines(400)
		}
		checkTouching(t, m, q)
		checkPresses(t, m, q, slices.Repeat([]string{"1/" + nines(400)}, n))
		checkPresses(t, m, q, slices.Repeat([]string{"1"}, n))
	}
}

// Touches reads long numbers, and holds them against longer ones that come up.
func TestWhatTouchesOfLongNumbers(t *testing.T) {
	long := nines(400)
	for _, c := range []struct {
		m    [][]string
		q    []string
		w, z string
		want bool
	}{
		{[][]string{{"1"}}, []string{"-" + long}, "0", long, true},
		{[][]string{{"1"}}, []string{"-" + long}, "0", nines(399) + "8", false},
		{[][]string{{long}}, []string{"-1"}, "0", "1/" + long, true},
		{[][]string{{"1"}}, []string{long}, long, "0", true},
		{[][]string{{"1/10"}}, []string{"-" + tenTo(399)}, "0", tenTo(400), false},
		{[][]string{{"1/10"}}, []string{"-" + tenTo(399)}, "0", tenTo(399), false},
		{[][]string{{long}}, []string{"-" + long}, "0", "1", true},
		{[][]string{{long}}, []string{"-1/" + long}, "0", "1", false},
		{[][]string{{long}}, []string{"1"}, "1", long, false},
	} {
		touch := impl.Touch{W: []string{c.w}, Z: []string{c.z}}
		if got := impl.Touches(c.m, c.q, touch); got != c.want {
			t.Errorf("Touches of %.60q, %.60q, %.60q: %v", c.m, c.q, touch, got)
		}
		checkOneTouch(t, c.m, c.q, touch)
	}
	// What comes of m and Z is too long, but falls away.
	m, q, none := [][]string{{long, "-" + long}, {"0", "0"}}, []string{"0", "0"}, []string{"0", "0"}
	if touch := (impl.Touch{W: none, Z: []string{long, long}}); !impl.Touches(m, q, touch) {
		t.Error("a touch whose products are too long on the way")
	}
	if touch := (impl.Touch{W: none, Z: []string{long, nines(399)}}); impl.Touches(m, q, touch) {
		t.Error("no touch: its products are too long, and do not fall away")
	}
}
