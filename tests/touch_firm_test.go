package tests

import (
	"math/rand"
	"slices"
	"strings"
	"testing"

	"loop.example/g00047/impl"
)

func TestFirmMatricesByHand(t *testing.T) {
	for _, c := range []struct {
		m    string
		want bool
	}{
		{"1", true}, {"1/2", true}, {"0", false}, {"-1", false}, {"-1/2", false},
		{"1 0 | 0 1", true}, {"2 1 | 1 2", true}, {"2 -1 | -1 2", true}, {"1 1 | 1 1", false}, {"1 2 | 2 1", false}, {"0 0 | 0 0", false},
		// Not mirrored.
		{"1 2 | 0 1", true}, {"1 0 | 2 1", true}, {"1 2 | 1 1", false}, {"1 -5 | 3 1", true}, {"1 5 | 3 1", false}, {"1 100 | 0 1", true}, {"1 -2 | 1 1", true},
		// The whole determinant is above 0, but that of one contact is 0 or below.
		{"0 -1 | 1 1", false}, {"1 -1 | 1 0", false}, {"-1 -2 | 1 1", false}, {"1 -2 | 1 -1", false}, {"-1 0 | 0 -1", false}, {"0 -1 | 1 0", false},
		{"0 1 | 1 0", false}, {"-2 1 | 1 -2", false},
		{"1/2 1/3 | 1/3 1/4", true}, {"1/2 1/3 | 1/3 2/9", false}, {"1/2 1/3 | 1/3 1/5", false},
		{"1 0 0 | 0 1 0 | 0 0 1", true}, {"2 -1 0 | -1 2 -1 | 0 -1 2", true}, {"1 2 3 | 0 1 4 | 0 0 1", true}, {"1 0 0 | 5 1 0 | 6 7 1", true},
		{"1 2 0 | 0 1 2 | 2 0 1", true}, {"1 -2 0 | 0 1 -2 | -2 0 1", false}, {"1 -1 0 | 0 1 -1 | -1 0 1", false},
		{"1 1 1 | 1 1 1 | 1 1 1", false}, {"1 2 3 | 4 5 6 | 7 8 9", false}, {"0 0 0 | 0 0 0 | 0 0 0", false},
		{"2 1 0 0 | 1 2 1 0 | 0 1 2 1 | 0 0 1 2", true}, {"1 9 9 9 | 0 1 9 9 | 0 0 1 9 | 0 0 0 1", true}, {"1 9 9 9 | 0 1 9 9 | 0 0 1 9 | 0 0 0 -1", false},
		{"1 9 9 9 | 0 1 9 9 | 0 0 0 9 | 0 0 0 1", false}, {"-1 0 0 0 | 0 -1 0 0 | 0 0 -1 0 | 0 0 0 -1", false},
	} {
		m := square(c.m)
		if got := impl.FirmMatrix(m); got != c.want {
			t.Errorf("FirmMatrix of %s: %v", c.m, got)
		}
		if want := len(lessFirm(ratRows(t, m))) == 0; want != c.want {
			t.Errorf("the test's own word of %s: %v", c.m, want)
		}
	}
}

// barely is a matrix in which all determinants are above 0 but that of the contacts of one mask, which is as great as more is: above 0, 0 or below. Among them 1 stands from corner to corner and one number elsewhere, and what is between them and the others has one sign in the rows and the other in the columns.
func barely(t *testing.T, n int, mask int, more string) [][]string {
	t.Helper()
	m, of := identity(n, "1"), among(mask)
	for _, r := range of {
		for c := range n {
			if !slices.Contains(of, c) {
				m[r][c], m[c][r] = "2", "-2"
			} else if c != r {
				m[r][c] = impl.AddFrac(impl.FracOf(-1, len(of)-1), more)
			}
		}
	}
	if len(of) == 1 {
		m[of[0]][of[0]] = more
	}
	return m
}

// Each set of contacts decides: its determinant alone is 0 or below 0, or just above.
func TestFirmMatricesBySetsOfContacts(t *testing.T) {
	for n := 1; n <= mostTouch; n++ {
		for mask := 1; mask < 1<<n; mask++ {
			for _, more := range []string{"1/5", "1/1000000", "1/" + tenTo(300), "0", "-1/" + tenTo(300), "-1/1000000", "-1/10"} {
				m := barely(t, n, mask, more)
				less, want := lessFirm(ratRows(t, m)), []int{mask}
				if more[0] == '1' {
					want = []int{}
				}
				if !slices.Equal(less, want) {
					t.Fatalf("the test has no such matrix: %q, %v", m, less)
				}
				if got := impl.FirmMatrix(m); got != (more[0] == '1') {
					t.Errorf("FirmMatrix of %.300q: %v", m, got)
				}
				limits := slices.Repeat([]string{"1"}, n)
				checkPresses(t, m, limits, limits)
			}
		}
	}
}

// firmSquare is a firm matrix: what is the same mirrored adds up from squares, what is the other way round mirrored changes no sign.
func firmSquare(t *testing.T, r *rand.Rand, n int, most int) [][]string {
	t.Helper()
	a, k := ratRows(t, smallSquare(r, n, -most, most)), ratRows(t, smallSquare(r, n, -most, most))
	m := identity(n, "1")
	for i := range n {
		for j := range n {
			sum := rat(t, m[i][j])
			for _, row := range a {
				sum = plus(sum, times(row[i], row[j]))
			}
			m[i][j] = textOf(plus(sum, minus(k[i][j], k[j][i])))
		}
	}
	return m
}

// A firm matrix has just one touch, whatever q is, and Presses is that one's Z, cut.
func TestFirmMatricesHaveOneTouch(t *testing.T) {
	r := rand.New(rand.NewSource(106))
	for n := 1; n <= mostTouch; n++ {
		for range 12 {
			m := firmSquare(t, r, n, 2)
			if !impl.FirmMatrix(m) {
				t.Fatalf("not firm: %q", m)
			}
			for range 12 {
				q := smallTexts(r, n, -2, 1)
				if l, ok := impl.AllTouches(m, q); len(l) != 1 || !ok {
					t.Errorf("%q is firm, but with %q it has %q %v", m, q, l, ok)
				}
				checkTouching(t, m, q)
				checkPresses(t, m, q, smallTexts(r, n, 0, 1))
				checkPresses(t, m, drawnTexts(r, n, 3), drawnLinks(r, n, 3))
			}
		}
	}
}

func TestPressesByHand(t *testing.T) {
	for _, c := range []struct {
		m, q, mu, want string
	}{
		{"2", "-1", "1/4", "1/4"},
		{"2", "-1", "1", "1/2"},
		// Met exactly; 0.
		{"2", "-1", "1/2", "1/2"},
		{"2", "-1", "0", "0"},
		{"2", "-1", "499/1000", "499/1000"},
		{"2", "-1", "501/1000", "1/2"},
		{"2", "1", "1", "0"},
		{"2", "1", "0", "0"},
		{"2", "0", "7", "0"},
		{"1 0 | 0 1", "-1 -2", "3 3", "1 2"},
		{"1 0 | 0 1", "-1 -2", "1 1", "1 1"},
		{"1 0 | 0 1", "-1 -2", "1/2 3", "1/2 2"},
		{"1 0 | 0 1", "-1 -2", "0 0", "0 0"},
		{"1 0 | 0 1", "-1 2", "3 3", "1 0"},
		{"1 0 | 0 1", "0 -1", "3 3", "0 1"},
		// One that is cut does not change the others.
		{"2 1 | 1 2", "-3 -3", "1/2 3", "1/2 1"},
		{"2 1 | 1 2", "-3 -3", "3 1/2", "1 1/2"},
		// Not mirrored: the second one presses, and takes the first one along.
		{"1 -1 | 0 1", "-1 -1", "5 5", "2 1"},
		{"1 -5 | 3 1", "-1 -1", "5 5", "1 0"},
		{"1 1 | -1 1", "1 -1", "5 5", "0 1"},
		{"1 2 | 0 1", "-1 -1", "9 9", "0 1"},
		{"2 1 0 0 | 1 2 1 0 | 0 1 2 1 | 0 0 1 2", "-3 -4 -4 -3", "1 1/2 2 0", "1 1/2 1 0"},
		{"2 1 0 0 | 1 2 1 0 | 0 1 2 1 | 0 0 1 2", "3 4 4 3", "1 1/2 2 0", "0 0 0 0"},
	} {
		m, q, mu := square(c.m), strings.Fields(c.q), strings.Fields(c.mu)
		if got, ok := impl.Presses(m, q, mu); !slices.Equal(got, strings.Fields(c.want)) || !ok {
			t.Errorf("Presses of %s, %s, %s: got %q %v, want %s", c.m, c.q, c.mu, got, ok, c.want)
		}
		checkPresses(t, m, q, mu)
	}
}

// Matrices that are not firm press nowhere, though they have one touch or several, and though mu is 0.
func TestPressesOfMatricesThatAreNotFirm(t *testing.T) {
	for _, c := range touchCases() {
		m, q := square(c.m), strings.Fields(c.q)
		for _, s := range []string{"0", "1/3", "1", "9"} {
			checkPresses(t, m, q, slices.Repeat([]string{s}, len(q)))
		}
	}
	for _, s := range []string{"0", "-1", "1 1 | 1 1", "1 2 | 2 1", "0 1 | 1 0", "0 -1 | 1 1", "1 -1 | 1 0", "1 2 3 | 4 5 6 | 7 8 9", "1 0 0 0 | 0 1 0 0 | 0 0 0 0 | 0 0 0 1"} {
		m := square(s)
		for _, q := range []string{"1", "0", "-1"} {
			for _, mu := range []string{"0", "1", "5"} {
				checkNoPresses(t, m, slices.Repeat([]string{q}, len(m)), slices.Repeat([]string{mu}, len(m)))
			}
		}
	}
}

func TestPressesOfSmallNumbers(t *testing.T) {
	eachTexts([]string{"0", "1", "-1", "2"}, 6, func(l []string) {
		checkPresses(t, [][]string{l[:2], l[2:4]}, l[4:], []string{"1/2", "2"})
	})
}
