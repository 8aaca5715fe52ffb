package tests

import (
	"math/big"
	"math/rand"
	"slices"
	"testing"

	"loop.example/g00047/impl"
)

// checkCount holds a count against what is wanted.
func checkCount(t *testing.T, coefs []string, lo string, hi string, want int) {
	t.Helper()
	in := behind(coefs, "7", "")
	got, ok := impl.RealRoots(in, lo, hi)
	if got != want || !ok {
		t.Errorf("RealRoots(%.200q, %.60q, %.60q): got %d %v, want %d", coefs, lo, hi, got, ok, want)
	}
	if !kept(in, coefs, func(a, b string) bool { return a == b }, "7", "") {
		t.Errorf("RealRoots changed its argument: %.200q", in)
	}
}

func TestRealRootsByHand(t *testing.T) {
	six := []string{"-6", "11", "-6", "1"}
	twice := []string{"-2", "5", "-4", "1"}
	for _, c := range []struct {
		coefs  []string
		lo, hi string
		want   int
	}{
		{[]string{"-2", "0", "1"}, "0", "2", 1}, {[]string{"-2", "0", "1"}, "-2", "2", 2}, {[]string{"2", "0", "-1"}, "-2", "2", 2},
		{[]string{"2", "0", "1"}, "-2", "2", 0}, {[]string{"-2", "0", "1"}, "3/2", "2", 0}, {[]string{"-2", "0", "1"}, "7/5", "3/2", 1},
		// Roots 1, 2 and 3: above lo, and not above hi.
		{six, "0", "4", 3}, {six, "1", "3", 2}, {six, "1", "2", 1}, {six, "2", "2", 0}, {six, "0", "1", 1}, {six, "3", "9", 0}, {six, "1/2", "5/2", 2},
		{six, "-5", "99/100", 0}, {six, "99/100", "101/100", 1}, {six, "0", "0", 0}, {six, "3", "3", 0}, {six, "2", "3", 1}, {six, "-1000000", "1000000", 3},
		// Roots 1, 1 and 2.
		{twice, "0", "3", 2}, {twice, "1", "2", 1}, {twice, "0", "1", 1}, {twice, "1", "1", 0}, {twice, "0", "3/2", 1}, {twice, "1", "3/2", 0}, {twice, "2", "4", 0},
		// The root 0, ten times.
		{[]string{"0", "0", "0", "0", "0", "0", "0", "0", "0", "0", "-7/3"}, "-1", "1", 1}, {[]string{"0", "0", "0", "0", "0", "0", "0", "0", "0", "0", "1"}, "-1", "0", 1},
		{[]string{"0", "0", "0", "0", "0", "0", "0", "0", "0", "0", "1"}, "0", "1", 0}, {[]string{"0", "0", "0", "0", "0", "0", "0", "0", "0", "0", "1"}, "0", "0", 0},
		// (x^2 - 2)^2, and (x^2 - 2)^2 * (x^2 + 1)^2.
		{[]string{"4", "0", "-4", "0", "1"}, "-2", "2", 2}, {[]string{"4", "0", "-4", "0", "1"}, "0", "2", 1}, {[]string{"4", "0", "4", "0", "-3", "0", "-2", "0", "1"}, "-2", "2", 2},
		// The degree 0, and 1.
		{[]string{"5"}, "-1", "1", 0}, {[]string{"-1/2"}, "0", "0", 0}, {[]string{"0", "1"}, "-1", "1", 1}, {[]string{"-1/3", "1/3"}, "0", "1", 1}, {[]string{"-1/3", "1/3"}, "1", "2", 0},
		{[]string{"-1/3", "2/5"}, "5/6", "5/6", 0}, {[]string{"-1/3", "2/5"}, "2/3", "4/5", 0}, {[]string{"-1/3", "2/5"}, "3/4", "5/6", 1}, {[]string{"-1/3", "2/5"}, "5/6", "7/8", 0},
		// x^10 - 1 and x^9 - x leave out degrees between.
		{[]string{"-1", "0", "0", "0", "0", "0", "0", "0", "0", "0", "1"}, "-2", "2", 2}, {[]string{"0", "-1", "0", "0", "0", "0", "0", "0", "0", "1"}, "-2", "2", 3},
		{[]string{"0", "-1", "0", "0", "0", "0", "0", "0", "0", "1"}, "-1", "1", 2}, {[]string{"1", "1", "0", "0", "0", "0", "0", "0", "1"}, "-9", "9", 0},
	} {
		checkCount(t, c.coefs, c.lo, c.hi, c.want)
	}
}

// realRoot is a real root, known by which fractions it is above.
type realRoot struct {
	above func(*big.Rat) bool
}

// isAt: above lo and not above hi.
func (r realRoot) isAt(lo *big.Rat, hi *big.Rat) bool { return r.above(lo) && !r.above(hi) }

// A factor is a polynomial and its real roots, each once.
type factor struct {
	coefs []*big.Rat
	roots []realRoot
}

func fractionRoot(root *big.Rat) factor {
	return factor{[]*big.Rat{negative(root), big.NewRat(1, 1)}, []realRoot{{func(q *big.Rat) bool { return root.Cmp(q) > 0 }}}}
}

// squareRoots is x^2 - c: two roots that are no fractions where c is no square.
func squareRoots(c int64) factor {
	above := func(q *big.Rat) bool { return q.Sign() < 0 || times(q, q).Cmp(big.NewRat(c, 1)) < 0 }
	below := func(q *big.Rat) bool { return q.Sign() < 0 && times(q, q).Cmp(big.NewRat(c, 1)) > 0 }
	return factor{rats(-c, 0, 1), []realRoot{{above}, {below}}}
}

// cubeRoot is x^3 - c: one real root.
func cubeRoot(c int64) factor {
	return factor{rats(-c, 0, 0, 1), []realRoot{{func(q *big.Rat) bool { return times(q, times(q, q)).Cmp(big.NewRat(c, 1)) < 0 }}}}
}

// noRoot is (x - a)^2 + b with b above 0.
func noRoot(a *big.Rat, b *big.Rat) factor {
	return factor{[]*big.Rat{plus(times(a, a), b), times(big.NewRat(-2, 1), a), big.NewRat(1, 1)}, nil}
}

// factorPool are factors without a root in common, in a drawn order; known are the fractions among their roots.
func factorPool(r *rand.Rand) (pool []factor, known []*big.Rat) {
	pool = []factor{squareRoots(2), squareRoots(3), squareRoots(7), cubeRoot(2), cubeRoot(-3), noRoot(big.NewRat(1, 2), big.NewRat(1, 3)), noRoot(new(big.Rat), big.NewRat(r.Int63n(9)+1, 1))}
	for _, k := range r.Perm(25)[:7] {
		known = append(known, big.NewRat(int64(k-12), 2))
		pool = append(pool, fractionRoot(known[len(known)-1]))
	}
	r.Shuffle(len(pool), func(i, j int) { pool[i], pool[j] = pool[j], pool[i] })
	return pool, known
}

// drawnFactors multiplies factors, each to a drawn power, up to the degree 10.
func drawnFactors(r *rand.Rand) (coefs []*big.Rat, roots []realRoot, known []*big.Rat) {
	pool, known := factorPool(r)
	coefs = []*big.Rat{big.NewRat(r.Int63n(18)*2-17, r.Int63n(9)+1)}
	for _, f := range pool[:1+r.Intn(len(pool))] {
		often := 1 + r.Intn(3)*r.Intn(2)
		if len(coefs)-1+often*(len(f.coefs)-1) > 10 {
			continue
		}
		for range often {
			coefs = polyProduct(coefs, f.coefs)
		}
		roots = append(roots, f.roots...)
	}
	return coefs, roots, known
}

func countAt(roots []realRoot, lo *big.Rat, hi *big.Rat) int {
	n := 0
	for _, root := range roots {
		if root.isAt(lo, hi) {
			n++
		}
	}
	return n
}

// Promise 3: real roots are counted, and a range that is cut in two has the roots of both.
func TestRealRootsOfDrawnFactors(t *testing.T) {
	r := rand.New(rand.NewSource(40))
	for range 300 {
		coefs, roots, known := drawnFactors(r)
		ends := []*big.Rat{big.NewRat(-1000, 1), big.NewRat(1000, 1)}
		for range 4 {
			ends = append(ends, big.NewRat(r.Int63n(61)-30, r.Int63n(7)+1))
		}
		ends = append(ends, known...)
		slices.SortFunc(ends, (*big.Rat).Cmp)
		in := texts(t, coefs)
		for i := range ends {
			for j := i; j < len(ends); j++ {
				checkCount(t, in, textOf(ends[i]), textOf(ends[j]), countAt(roots, ends[i], ends[j]))
			}
		}
		middle := r.Intn(len(ends))
		checkCut(t, in, textOf(ends[0]), textOf(ends[middle]), textOf(ends[len(ends)-1]))
	}
}

// checkCut: what is counted in both parts of a range is what is counted in all of it.
func checkCut(t *testing.T, coefs []string, lo string, middle string, hi string) {
	t.Helper()
	all, ok := impl.RealRoots(coefs, lo, hi)
	low, okLow := impl.RealRoots(coefs, lo, middle)
	high, okHigh := impl.RealRoots(coefs, middle, hi)
	if !ok || !okLow || !okHigh || all != low+high {
		t.Errorf("RealRoots(%.200q) from %.60q by %.60q to %.60q: %d and %d, but %d in all", coefs, lo, middle, hi, low, high, all)
	}
}

// rootsByBisecting counts above lo and not above hi by Descartes' rule of signs alone. It is asked for polynomials whose roots are ones once.
func rootsByBisecting(coefs []*big.Rat, lo *big.Rat, hi *big.Rat) int {
	if lo.Cmp(hi) >= 0 {
		return 0
	}
	return rootsBetween(coefs, lo, hi) + rootsJustAt(coefs, hi)
}

// rootsBetween cuts a range of which the signs do not tell enough.
func rootsBetween(coefs []*big.Rat, lo *big.Rat, hi *big.Rat) int {
	changes := signsBetween(coefs, lo, hi)
	if changes < 2 {
		return changes
	}
	middle := half(plus(lo, hi))
	return rootsBetween(coefs, lo, middle) + rootsJustAt(coefs, middle) + rootsBetween(coefs, middle, hi)
}

func rootsJustAt(coefs []*big.Rat, q *big.Rat) int {
	if (spot{q, new(big.Rat)}).at(coefs).re.Sign() == 0 {
		return 1
	}
	return 0
}

// signsBetween counts the changes of sign of (1 + x)^n * p((lo + hi * x) / (1 + x)): where it is 0 or 1 there are so many roots strictly between lo and hi.
func signsBetween(coefs []*big.Rat, lo *big.Rat, hi *big.Rat) int {
	sum := rats(0)
	for i, c := range coefs {
		term := []*big.Rat{c}
		for j := range len(coefs) - 1 {
			if j < i {
				term = polyProduct(term, []*big.Rat{lo, hi})
			} else {
				term = polyProduct(term, rats(1, 1))
			}
		}
		for len(sum) < len(term) {
			sum = append(sum, new(big.Rat))
		}
		for j := range term {
			sum[j] = plus(sum[j], term[j])
		}
	}
	changes, last := 0, 0
	for _, c := range sum {
		if c.Sign() == -last && last != 0 {
			changes++
		}
		if c.Sign() != 0 {
			last = c.Sign()
		}
	}
	return changes
}

// polyDivide is what b goes into a, and what is left.
func polyDivide(a []*big.Rat, b []*big.Rat) (quotient []*big.Rat, rest []*big.Rat) {
	rest = slices.Clone(a)
	for len(rest) >= len(b) {
		share := new(big.Rat).Quo(rest[len(rest)-1], b[len(b)-1])
		quotient = append([]*big.Rat{share}, quotient...)
		for i := range b {
			at := len(rest) - len(b) + i
			rest[at] = minus(rest[at], times(share, b[i]))
		}
		rest = rest[:len(rest)-1]
	}
	for len(rest) > 0 && rest[len(rest)-1].Sign() == 0 {
		rest = rest[:len(rest)-1]
	}
	return quotient, rest
}

// eachOnce has the roots of a polynomial, each once: what the polynomial has in common with what it rises by is divided off.
func eachOnce(coefs []*big.Rat) []*big.Rat {
	a, b := coefs, make([]*big.Rat, len(coefs)-1)
	for i := range b {
		b[i] = times(big.NewRat(int64(i+1), 1), coefs[i+1])
	}
	for len(b) > 0 {
		_, rest := polyDivide(a, b)
		a, b = b, rest
	}
	quotient, _ := polyDivide(coefs, a)
	return quotient
}

// Polynomials with drawn coefficients, many of them 0, against another way to count.
func TestRealRootsAgainstBisecting(t *testing.T) {
	r := rand.New(rand.NewSource(41))
	for range 1500 {
		coefs := make([]*big.Rat, 2+r.Intn(10))
		for i := range coefs {
			coefs[i] = big.NewRat((r.Int63n(19)-9)*int64(r.Intn(2)), r.Int63n(3)+1)
		}
		coefs[len(coefs)-1] = big.NewRat(r.Int63n(9)*2-9, 1)
		lo, hi := big.NewRat(r.Int63n(9)-6, r.Int63n(3)+1), big.NewRat(r.Int63n(9)-2, r.Int63n(3)+1)
		if lo.Cmp(hi) > 0 {
			lo, hi = hi, lo
		}
		checkCount(t, texts(t, coefs), textOf(lo), textOf(hi), rootsByBisecting(eachOnce(coefs), lo, hi))
	}
}

// The rests of these leave out a degree and go on for a while from there; some of their roots are ones twice.
func TestRealRootsWhereRestsLeaveOutDegrees(t *testing.T) {
	for _, coefs := range [][]*big.Rat{
		rats(2, -1, -2, 0, 0, 3, -3, 0, 1), rats(0, -2, 0, 3, -3, -3, 2, 2, 3, 2), rats(-1, -1, -1, 1, 3, 0, 0, 2, 3, 2), rats(0, 2, 3, 0, 0, 0, -2, -1, 0, 1, 1),
		rats(2, -1, 0, -1, -1, 0, 0, 2, -3, 2), rats(2, 1, -2, 0, 0, -3, -3, 0, 1), rats(0, 0, 1, 2, 0, 0, 2, 2, 3, 2), rats(-2, -2, 0, 0, -1, -2, 0, 2, 3, 2),
		rats(1, 2, 0, 0, 0, 0, 0, 0, -3), rats(1, 0, 0, -2, 0, 0, 0, 1), rats(-1, 0, 0, 0, 3, 0, 0, 0, 0, 0, -2),
	} {
		for lo := int64(-6); lo <= 6; lo++ {
			for hi := lo; hi <= 6; hi++ {
				from, to := big.NewRat(lo, 3), big.NewRat(hi, 3)
				checkCount(t, texts(t, coefs), textOf(from), textOf(to), rootsByBisecting(eachOnce(coefs), from, to))
			}
		}
		checkCount(t, texts(t, coefs), "-20", "1/7", rootsByBisecting(eachOnce(coefs), big.NewRat(-20, 1), big.NewRat(1, 7)))
		checkCount(t, texts(t, coefs), "1/7", "20", rootsByBisecting(eachOnce(coefs), big.NewRat(1, 7), big.NewRat(20, 1)))
	}
}

// Two roots of x^10 - 2 * (a * x - 1)^2 lie beside 1/a, nearer to it than a^-6; a third is above 1, and one below 0.
func TestRealRootsThatAreVeryNear(t *testing.T) {
	for _, digits := range []int{1, 5, 50, 199} {
		a := rat(t, tenTo(digits))
		coefs := rats(-2, 0, 0, 0, 0, 0, 0, 0, 0, 0, 1)
		coefs[1] = times(big.NewRat(4, 1), a)
		coefs[2] = times(big.NewRat(-2, 1), times(a, a))
		in, inverse := texts(t, coefs), "1/"+tenTo(digits)
		checkCount(t, in, "0", inverse, 1)
		checkCount(t, in, inverse, "1/2", 1)
		checkCount(t, in, "0", "1", 2)
		checkCount(t, in, "1", tenTo(399), 1)
		checkCount(t, in, "-"+tenTo(399), "0", 1)
		checkCount(t, in, "-"+tenTo(399), tenTo(399), 4)
		checkCount(t, in, "0", inverse[:len(inverse)-1]+"1", 0)
	}
}

// Coefficients, and ends, of 400 digits.
func TestRealRootsOfLongCoefficients(t *testing.T) {
	r := rand.New(rand.NewSource(42))
	product, roots := rats(1), []*big.Rat{}
	for range 10 {
		root := rat(t, randomDigits(r, 39))
		roots = append(roots, root)
		product = polyProduct(product, fractionRoot(root).coefs)
	}
	slices.SortFunc(roots, (*big.Rat).Cmp)
	in := texts(t, product)
	for i := range roots {
		checkCount(t, in, "0", textOf(roots[i]), i+1)
		checkCount(t, in, textOf(roots[i]), nines(400), 9-i)
		checkCount(t, in, "-"+nines(400)+"/7", textOf(minus(roots[i], rat(t, "1/"+tenTo(300)))), i)
	}
	checkCount(t, []string{"-" + nines(400), "1"}, "0", nines(400), 1)
	checkCount(t, []string{"-" + nines(400), "1"}, "0", nines(399)+"8", 0)
	checkCount(t, []string{"-1/" + nines(400), nines(400)}, "0", "1/"+nines(400), 1)
	for range 2 {
		coefs := make([]string, 11)
		for i := range coefs {
			coefs[i] = longFrac(r)
		}
		checkCut(t, coefs, "-"+nines(400), longFrac(r), nines(400))
		checkParity(t, coefs)
	}
}

// longFrac is a good fraction of 400 digits above and below.
func longFrac(r *rand.Rand) string {
	for {
		if s := randomDigits(r, 400) + "/" + randomDigits(r, 400); isFrac(s) {
			return []string{"", "-"}[r.Intn(2)] + s
		}
	}
}

// checkParity: between ends of unlike signs there is an odd number of roots, otherwise an even one. No drawn root is one twice.
func checkParity(t *testing.T, coefs []string) {
	t.Helper()
	lo, hi := "-"+nines(400), nines(400)
	count, ok := impl.RealRoots(coefs, lo, hi)
	p := ratList(t, coefs)
	signs := (spot{rat(t, lo), new(big.Rat)}).at(p).re.Sign() * (spot{rat(t, hi), new(big.Rat)}).at(p).re.Sign()
	if !ok || (signs < 0) != (count%2 == 1) {
		t.Errorf("%d %v roots of %.100q between ends whose signs' product is %d", count, ok, coefs, signs)
	}
}
