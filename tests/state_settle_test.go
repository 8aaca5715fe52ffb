package tests

import (
	"math"
	"math/big"
	"math/rand"
	"slices"
	"strings"
	"testing"

	"loop.example/g00047/impl"
)

// divisor is a polynomial and whether all its roots are inside.
type divisor struct {
	poly   string
	inside bool
}

// oneRoot are polynomials of one root, pairRoot of two that are not real.
var oneRoot = []divisor{
	{"0 1", true},
	{"1/2 1", true},
	{"-1/2 1", true},
	{"999999/1000000 1", true},
	{"-999999/1000000 1", true},
	{"1 1", false},
	{"-1 1", false},
	{"1000001/1000000 1", false},
	{"-1000001/1000000 1", false},
	{"5 1", false},
	{"-2 1", false},
}

var pairRoot = []divisor{
	// Of the size of the root of 1/4, 25/169, and just below 1.
	{"1/4 0 1", true},
	{"25/169 -6/13 1", true},
	{"999999/1000000 0 1", true},
	{"999999/1000000 -6/5 1", true},
	{"999999/1000000 199/100 1", true},
	// On the edge: i, 3/5 and 4/5 i, -5/13 and 12/13 i.
	{"1 0 1", false},
	{"1 -6/5 1", false},
	{"1 10/13 1", false},
	{"1 1 1", false},
	{"1 -1 1", false},
	// Outside.
	{"1000001/1000000 0 1", false},
	{"1000001/1000000 -6/5 1", false},
	{"1000001/1000000 199/100 1", false},
	{"5 2 1", false},
}

// madeOf is the product of divisors and a number.
func madeOf(t *testing.T, by string, l ...divisor) ([]string, bool) {
	t.Helper()
	poly, inside := []*big.Rat{rat(t, by)}, true
	for _, f := range l {
		poly, inside = polyProduct(poly, ratList(t, strings.Fields(f.poly))), inside && f.inside
	}
	return texts(t, poly), inside
}

func checkMade(t *testing.T, l ...divisor) {
	t.Helper()
	for _, by := range []string{"1", "-1", "7", "-3/5", "1/1000"} {
		poly, inside := madeOf(t, by, l...)
		if is, ok := impl.Settles(poly); is != inside || !ok {
			t.Errorf("Settles of %q, made of %v: %v %v, want %v", poly, l, is, ok, inside)
		}
		if want := exactSettles(ratList(t, poly)); want != inside {
			t.Errorf("%q, made of %v: %v by Hurwitz", poly, l, want)
		}
	}
}

func TestSettlesByRoots(t *testing.T) {
	checkMade(t)
	for _, one := range oneRoot {
		checkMade(t, one)
		for _, two := range oneRoot {
			checkMade(t, one, two)
			for _, three := range oneRoot {
				checkMade(t, one, two, three)
			}
		}
		for _, pair := range pairRoot {
			checkMade(t, one, pair)
			checkMade(t, pair, one, oneRoot[1])
			checkMade(t, pair, one, one)
			checkMade(t, one, oneRoot[3], pair)
		}
		for _, other := range oneRoot {
			checkMade(t, one, other, other, one)
			checkMade(t, one, one, one, other)
		}
	}
	for _, one := range pairRoot {
		checkMade(t, one)
		for _, two := range pairRoot {
			checkMade(t, one, two)
		}
	}
}

func TestSettles(t *testing.T) {
	for _, c := range []struct {
		poly string
		want bool
	}{
		// One number has no root, so none is outside.
		{"1", true},
		{"-1", true},
		{"1/7", true},
		{"1/4 0 1", true},
		{"1 0 1", false},
		{"0 1", true},
		{"0 -1/1000", true},
		{"0 0 1", true},
		{"0 0 0 1", true},
		{"0 0 0 0 1", true},
		{"0 0 0 0 -7/3", true},
		{"1 2", true},
		{"2 1", false},
		{"-1 2", true},
		{"1 -2", true},
		{"-2 1", false},
		{"1 1", false},
		{"-1 1", false},
		// Roots more than once.
		{"1/4 1 1", true},
		{"1/8 3/4 3/2 1", true},
		{"1/16 1/2 3/2 2 1", true},
		{"1/16 0 1/2 0 1", true},
		{"1 -4 6 -4 1", false},
		{"1 0 2 0 1", false},
		// All roots of 1, and of numbers beside it.
		{"-1 0 0 1", false},
		{"1 0 0 0 1", false},
		{"-1 0 0 0 1", false},
		{"1 1 1 1 1", false},
		{"99/100 0 0 0 1", true},
		{"-99/100 0 0 1", true},
		{"101/100 0 0 0 1", false},
		// No quotient of whole numbers is a root of these.
		{"1/3 1/2 1/3 1/2 1", true},
		{"1 2 3 4 5", true},
		{"5 4 3 2 1", false},
		{"-1 -1 0 1", false},
		{"-1 0 1 1", false},
		{"-1/2 -1/2 0 1", false},
		{"-1/2 -49/100 0 1", true},
		// The product of all roots is small, but one is outside.
		{"0 2 1", false},
		{"0 0 2 1", false},
		{"0 0 0 2 1", false},
		{"0 1 0 1", false},
		{"0 0 1 0 1", false},
		{"1/1000 0 3 0 1", false},
		{"0 -1 1", false},
		{"0 0 1 1", false},
	} {
		poly := strings.Fields(c.poly)
		if is, ok := impl.Settles(poly); is != c.want || !ok {
			t.Errorf("Settles of %s: %v %v, want %v", c.poly, is, ok, c.want)
		}
		checkSettles(t, poly)
	}
}

// Every polynomial of few numbers, of all degrees, and drawn ones.
func TestSettlesOfMany(t *testing.T) {
	for n := range mostSettle + 2 {
		of := []string{"0", "1", "-1", "1/2", "2"}
		if n > 4 {
			of = []string{"0", "1", "-1/2", "3/2"}
		}
		eachTexts(of, n, func(l []string) { checkSettles(t, l) })
	}
	r := rand.New(rand.NewSource(207))
	settled := 0
	for i := range 3000 {
		poly := drawnTexts(r, i%(mostSettle+2), 1+i/6%20)
		// The last one ahead of the others, for more to be inside.
		if i%2 == 0 && len(poly) > 1 {
			poly = append(smallTexts(r, len(poly)-1, -3, 3), "4")
		}
		checkSettles(t, poly)
		if is, _ := impl.Settles(poly); is {
			settled++
		}
	}
	if settled < 300 || settled > 2700 {
		t.Errorf("%d of those that are drawn settle", settled)
	}
}

// What the disks of chapter 3 prove is so here.
func TestSettlesByDisks(t *testing.T) {
	r := rand.New(rand.NewSource(208))
	in, out := 0, 0
	for i := range 600 {
		n := 2 + i%(mostSettle-1)
		poly := append(drawnTexts(r, n, 1), "1")
		floats := []float64{}
		for _, s := range poly {
			x, _ := impl.RealOf(s)
			floats = append(floats, x)
		}
		roots, ok := impl.RootsOf(floats, 60)
		disks, okToo := impl.DisksOf(poly, roots)
		if !ok || !okToo || !impl.Apart(disks) {
			continue
		}
		// How far the disk that is outermost is inside; all are far smaller than what is asked of it.
		least := 1.0
		for _, d := range disks {
			least = min(least, 1-math.Hypot(d.Centre.Re, d.Centre.Im)-math.Sqrt(d.Square))
			if d.Square > 1e-12 {
				least = 0
				break
			}
		}
		is, _ := impl.Settles(poly)
		switch {
		case least > 1e-4:
			in++
			if !is {
				t.Errorf("Settles of %q: false, with the roots %v", poly, roots)
			}
		case least < -1e-4:
			out++
			if is {
				t.Errorf("Settles of %q: true, with the roots %v", poly, roots)
			}
		}
	}
	if in < 20 || out < 20 {
		t.Errorf("%d inside and %d outside were proved", in, out)
	}
}

// Just 40 bytes are as said, 41 not: above with its minus, below by itself.
func TestSettleBytes(t *testing.T) {
	for _, c := range []struct {
		s    string
		fine bool
	}{
		{nines(40), true},
		{nines(41), false},
		{tenTo(39), true},
		{tenTo(40), false},
		{"-" + nines(39), true},
		{"-" + nines(40), false},
		{"1/" + nines(40), true},
		{"1/" + nines(41), false},
		{"-1/" + nines(40), true},
		{"-1/" + nines(41), false},
		{nines(40) + "/" + tenTo(39), true},
		{nines(41) + "/" + tenTo(39), false},
		{nines(40) + "/" + tenTo(40), false},
		{"-" + nines(39) + "/" + tenTo(39), true},
		{"-" + nines(40) + "/" + tenTo(39), false},
		{"-" + nines(39) + "/" + tenTo(40), false},
		{nines(400), false},
		{"1/" + nines(400), false},
	} {
		for n := 1; n <= mostSettle+1; n++ {
			for at := range n {
				poly := slices.Repeat([]string{"1"}, n)
				poly[at] = c.s
				if _, ok := impl.Settles(poly); ok != c.fine {
					t.Errorf("Settles of %q: %v", poly, ok)
				}
				checkSettles(t, poly)
			}
		}
	}
}

// At the limit of bytes all is exact still: the last digit tells.
func TestSettlesExactly(t *testing.T) {
	almost, more := nines(40)+"/"+tenTo(39)+"0", tenTo(39)+"/"+nines(39)
	if _, ok := impl.Settles([]string{almost, "1"}); ok {
		t.Error("a number below of 41 bytes")
	}
	almost = nines(39) + "/" + tenTo(39)
	for _, c := range []struct {
		poly []string
		want bool
	}{
		{[]string{almost, "1"}, true},
		{[]string{"-" + almost, "1"}, true},
		{[]string{more, "1"}, false},
		{[]string{almost, "0", "1"}, true},
		{[]string{more, "0", "1"}, false},
		{[]string{"-" + almost, "0", "0", "0", "1"}, true},
		{[]string{"-" + more, "0", "0", "0", "1"}, false},
		{[]string{nines(39) + "8", nines(40)}, true},
		{[]string{nines(40), nines(40)}, false},
		{[]string{nines(40), nines(39) + "8"}, false},
		{[]string{nines(39) + "8", nines(39) + "8", nines(39) + "8", nines(39) + "8", nines(40)}, true},
		{[]string{nines(40), nines(39) + "8", nines(39) + "8", nines(39) + "8", nines(40)}, false},
		{[]string{"1/" + nines(40), "1/" + tenTo(39)}, true},
		{[]string{"1/" + tenTo(39), "1/" + nines(40)}, false},
		{[]string{"-" + nines(39), "-" + tenTo(38) + "1"}, false},
		{[]string{"-" + nines(39), tenTo(39)}, true},
	} {
		is, ok := impl.Settles(c.poly)
		if want := c.want && isSettled(c.poly); is != want || ok != isSettled(c.poly) {
			t.Errorf("Settles of %q: %v %v, want %v", c.poly, is, ok, want)
		}
		checkSettles(t, c.poly)
	}
	r := rand.New(rand.NewSource(209))
	for i := range 200 {
		poly := []string{}
		for range 1 + i%(mostSettle+1) {
			poly = append(poly, randomFrac(r, mostBytes-1))
		}
		checkSettles(t, poly)
	}
}

// Degrees up to 4, no nought at the end, and not the nought alone.
func TestNoSettling(t *testing.T) {
	for _, c := range []string{"", "0", "0 0", "1 0", "0 0 0", "1 1/2 0", "1/4 0 1 0", "1/4 0 1 0 0", "0 0 0 0 0", "0 0 0 0 0 1", "1 2 3 4 5 6",
		"1/4 0 1 0 0 0", "0 0 0 0 0 0", "1 1 1 1 1 0", "0 0 0 0 0 0 1"} {
		if is, ok := impl.Settles(strings.Fields(c)); is || ok {
			t.Errorf("Settles of %q: %v %v", c, is, ok)
		}
		checkSettles(t, strings.Fields(c))
	}
	for n := mostSettle + 2; n < 14; n++ {
		if is, ok := impl.Settles(append(slices.Repeat([]string{"0"}, n-1), "1")); is || ok {
			t.Errorf("Settles of the degree %d: %v %v", n-1, is, ok)
		}
	}
	if is, ok := impl.Settles(nil); is || ok {
		t.Errorf("Settles of nothing: %v %v", is, ok)
	}
}
