package tests

import (
	"fmt"
	"math/big"
	"math/rand"
	"slices"
	"strings"
	"testing"

	"loop.example/g00047/impl"
)

const mostTouch = 4

// grip is a touch, exactly.
type grip struct {
	w []*big.Rat
	z []*big.Rat
}

// square are rows of texts: "1 2 | 3 4" has two of two.
func square(s string) [][]string {
	m := [][]string{}
	for r := range strings.SplitSeq(s, "|") {
		m = append(m, strings.Fields(r))
	}
	return m
}

func areFracs(l []string, n int) bool {
	return len(l) == n && !slices.ContainsFunc(l, func(s string) bool { return !isFrac(s) })
}

func isTouchSquare(m [][]string) bool {
	return len(m) >= 1 && len(m) <= mostTouch && !slices.ContainsFunc(m, func(l []string) bool { return !areFracs(l, len(m)) })
}

func isContacts(m [][]string, q []string) bool { return isTouchSquare(m) && areFracs(q, len(m)) }

// areLimits: as many good fractions from 0 on.
func areLimits(l []string, n int) bool {
	return areFracs(l, n) && !slices.ContainsFunc(l, func(s string) bool { return s[0] == '-' })
}

func ratRows(t *testing.T, m [][]string) [][]*big.Rat {
	t.Helper()
	rows := make([][]*big.Rat, len(m))
	for i := range m {
		rows[i] = ratList(t, m[i])
	}
	return rows
}

// expanded is the determinant of any number of rows, along the first one; of none it is 1.
func expanded(m [][]*big.Rat) *big.Rat {
	if len(m) == 0 {
		return whole(1)
	}
	sum := new(big.Rat)
	for c, n := range m[0] {
		rest := [][]*big.Rat{}
		for _, l := range m[1:] {
			rest = append(rest, slices.Delete(slices.Clone(l), c, c+1))
		}
		sum = plus(sum, times(whole(int64(1-c%2*2)), times(n, expanded(rest))))
	}
	return sum
}

// among are the numbers of the contacts whose bit is 1.
func among(mask int) []int {
	l := []int{}
	for i := range mostTouch {
		if mask&(1<<i) != 0 {
			l = append(l, i)
		}
	}
	return l
}

// chosen are the rows and the columns of those contacts.
func chosen(m [][]*big.Rat, of []int) [][]*big.Rat {
	rows := [][]*big.Rat{}
	for _, r := range of {
		l := []*big.Rat{}
		for _, c := range of {
			l = append(l, m[r][c])
		}
		rows = append(rows, l)
	}
	return rows
}

// partsOf is m z + q.
func partsOf(m [][]*big.Rat, q []*big.Rat, z []*big.Rat) []*big.Rat {
	w := make([]*big.Rat, len(q))
	for i := range q {
		w[i] = q[i]
		for k := range z {
			w[i] = plus(w[i], times(m[i][k], z[k]))
		}
	}
	return w
}

// gripAt is what a mask finds, by Cramer's rule: each number is the quotient of two determinants.
func gripAt(m [][]*big.Rat, q []*big.Rat, mask int) (grip, bool) {
	of := among(mask)
	rows := chosen(m, of)
	below := expanded(rows)
	if below.Sign() == 0 {
		return grip{}, false
	}
	z := rats(make([]int64, len(q))...)
	for c, at := range of {
		above := chosen(m, of)
		for r := range of {
			above[r][c] = negative(q[of[r]])
		}
		z[at] = quotient(expanded(above), below)
	}
	g := grip{partsOf(m, q, z), z}
	return g, g.holds()
}

// holds: nothing is below 0, and the product of both is 0 everywhere.
func (g grip) holds() bool {
	for i := range g.w {
		if g.w[i].Sign() < 0 || g.z[i].Sign() < 0 || times(g.w[i], g.z[i]).Sign() != 0 {
			return false
		}
	}
	return true
}

func sameRats(a []*big.Rat, b []*big.Rat) bool {
	return slices.EqualFunc(a, b, func(x *big.Rat, y *big.Rat) bool { return x.Cmp(y) == 0 })
}

// exactGrips are the touches of all masks in order, each once, however long their numbers are.
func exactGrips(m [][]*big.Rat, q []*big.Rat) []grip {
	all := []grip{}
	for mask := range 1 << len(q) {
		g, found := gripAt(m, q, mask)
		if found && !slices.ContainsFunc(all, func(h grip) bool { return sameRats(g.z, h.z) }) {
			all = append(all, g)
		}
	}
	return all
}

func tellRats(l []*big.Rat) ([]string, bool) {
	out := make([]string, len(l))
	for i := range l {
		out[i] = textOf(l[i])
	}
	return out, !slices.Contains(out, "")
}

// exactTouches is what AllTouches is to tell of what is good.
func exactTouches(m [][]*big.Rat, q []*big.Rat) ([]impl.Touch, bool) {
	all := []impl.Touch{}
	for _, g := range exactGrips(m, q) {
		w, fits := tellRats(g.w)
		z, fitsToo := tellRats(g.z)
		if !fits || !fitsToo {
			return nil, false
		}
		all = append(all, impl.Touch{W: w, Z: z})
	}
	return all, true
}

// lessFirm are the masks whose determinant is not above 0.
func lessFirm(m [][]*big.Rat) []int {
	l := []int{}
	for mask := 1; mask < 1<<len(m); mask++ {
		if expanded(chosen(m, among(mask))).Sign() <= 0 {
			l = append(l, mask)
		}
	}
	return l
}

func sameTouch(a impl.Touch, b impl.Touch) bool {
	return slices.Equal(a.W, b.W) && slices.Equal(a.Z, b.Z)
}

func sameTouches(a []impl.Touch, b []impl.Touch) bool { return slices.EqualFunc(a, b, sameTouch) }

// checkTouching asks GoodTouch, AllTouches and FirmMatrix of anything, and says what they are to answer.
func checkTouching(t *testing.T, m [][]string, q []string) {
	t.Helper()
	good, firm, fine := isContacts(m, q), false, false
	var want []impl.Touch
	if isTouchSquare(m) {
		firm = len(lessFirm(ratRows(t, m))) == 0
	}
	if good {
		want, fine = exactTouches(ratRows(t, m), ratList(t, q))
	}
	if impl.GoodTouch(m, q) != good {
		t.Errorf("GoodTouch of %.300q, %.200q: %v", m, q, !good)
	}
	if impl.FirmMatrix(m) != firm {
		t.Errorf("FirmMatrix of %.300q: %v", m, !firm)
	}
	got, ok := impl.AllTouches(m, q)
	if !sameTouches(got, want) || ok != fine {
		t.Errorf("AllTouches of %.300q, %.200q: got %.300q %v, want %.300q %v", m, q, got, ok, want, fine)
	}
	if ok {
		checkTold(t, m, q, got)
	}
}

// checkTold: what holds of all touches that are told, and how many a firm matrix has.
func checkTold(t *testing.T, m [][]string, q []string, told []impl.Touch) {
	t.Helper()
	for i, a := range told {
		if !impl.Touches(m, q, a) {
			t.Errorf("Touches of %.300q, %.200q is false of what was told: %.200q", m, q, a)
		}
		for _, b := range told[:i] {
			if sameTouch(a, b) {
				t.Errorf("AllTouches of %.300q, %.200q tells %.200q twice", m, q, a)
			}
		}
	}
	if impl.FirmMatrix(m) && len(told) != 1 {
		t.Errorf("%.300q is firm, but has %d touches with %.200q", m, len(told), q)
	}
}

// checkPresses asks Presses of anything, and says what it is to answer.
func checkPresses(t *testing.T, m [][]string, q []string, mu []string) {
	t.Helper()
	var want []string
	fine := false
	if isContacts(m, q) && areLimits(mu, len(q)) && len(lessFirm(ratRows(t, m))) == 0 {
		want, fine = exactPresses(t, m, q, mu)
	}
	got, ok := impl.Presses(m, q, mu)
	if !slices.Equal(got, want) || ok != fine {
		t.Errorf("Presses of %.300q, %.200q, %.200q: got %.200q %v, want %.200q %v", m, q, mu, got, ok, want, fine)
	}
	if told, all := impl.AllTouches(m, q); all && fine && !slices.Equal(got, cutTexts(t, told[0].Z, mu)) {
		t.Errorf("Presses of %.300q, %.200q, %.200q: %.200q, but AllTouches tells %.200q", m, q, mu, got, told)
	}
}

func exactPresses(t *testing.T, m [][]string, q []string, mu []string) ([]string, bool) {
	t.Helper()
	all := exactGrips(ratRows(t, m), ratList(t, q))
	if len(all) != 1 {
		t.Fatalf("%.300q is firm, but has %d touches with %.200q", m, len(all), q)
	}
	out := slices.Clone(mu)
	for i, z := range all[0].z {
		if z.Cmp(rat(t, mu[i])) < 0 {
			out[i] = textOf(z)
		}
	}
	if slices.Contains(out, "") {
		return nil, false
	}
	return out, true
}

func cutTexts(t *testing.T, z []string, mu []string) []string {
	t.Helper()
	out := slices.Clone(z)
	for i := range z {
		if rat(t, z[i]).Cmp(rat(t, mu[i])) > 0 {
			out[i] = mu[i]
		}
	}
	return out
}

// checkOneTouch asks Touches of anything, and says what it is to answer.
func checkOneTouch(t *testing.T, m [][]string, q []string, touch impl.Touch) {
	t.Helper()
	want := false
	if isContacts(m, q) && areFracs(touch.W, len(q)) && areFracs(touch.Z, len(q)) {
		g := grip{ratList(t, touch.W), ratList(t, touch.Z)}
		want = g.holds() && sameRats(g.w, partsOf(ratRows(t, m), ratList(t, q), g.z))
	}
	if impl.Touches(m, q, touch) != want {
		t.Errorf("Touches of %.300q, %.200q, %.200q: %v", m, q, touch, !want)
	}
}

// checkNoTouching: what is not good, by the test's own word.
func checkNoTouching(t *testing.T, m [][]string, q []string) {
	t.Helper()
	what := fmt.Sprintf("%.200q and %.100q", m, q)
	if impl.GoodTouch(m, q) {
		t.Errorf("GoodTouch of %s", what)
	}
	if l, ok := impl.AllTouches(m, q); len(l) != 0 || ok {
		t.Errorf("AllTouches of %s: %.100q %v", what, l, ok)
	}
	for n := range mostTouch + 2 {
		noughts := slices.Repeat([]string{"0"}, n)
		if impl.Touches(m, q, impl.Touch{W: noughts, Z: noughts}) || impl.Touches(m, q, impl.Touch{W: q, Z: noughts}) {
			t.Errorf("Touches of %s, %d noughts", what, n)
		}
		checkNoPresses(t, m, q, noughts)
	}
}

func checkNoPresses(t *testing.T, m [][]string, q []string, mu []string) {
	t.Helper()
	if l, ok := impl.Presses(m, q, mu); len(l) != 0 || ok {
		t.Errorf("Presses of %.200q, %.100q, %.100q: %.100q %v", m, q, mu, l, ok)
	}
}

// smallTexts are whole numbers from lo to hi.
func smallTexts(r *rand.Rand, n int, lo int, hi int) []string {
	l := make([]string, n)
	for i := range l {
		l[i] = fmt.Sprint(lo + r.Intn(hi-lo+1))
	}
	return l
}

func smallSquare(r *rand.Rand, n int, lo int, hi int) [][]string {
	m := make([][]string, n)
	for i := range m {
		m[i] = smallTexts(r, n, lo, hi)
	}
	return m
}

func drawnTexts(r *rand.Rand, n int, digits int) []string {
	l := make([]string, n)
	for i := range l {
		l[i] = randomFrac(r, digits)
	}
	return l
}

func drawnSquare(r *rand.Rand, n int, digits int) [][]string {
	m := make([][]string, n)
	for i := range m {
		m[i] = drawnTexts(r, n, digits)
	}
	return m
}

// eachTexts hands every list of n of the texts to see.
func eachTexts(of []string, n int, see func([]string)) {
	if n == 0 {
		see(nil)
		return
	}
	eachTexts(of, n-1, func(l []string) {
		for _, s := range of {
			see(append(slices.Clone(l), s))
		}
	})
}
