package impl

import (
	"math/big"
	"strings"
)

const MaxDigits = 400

// The primes below primeEnd are the small ones. Their product fits into an
// int64, so that one division of a long number tells what all of them leave.
const (
	primeEnd   = 48
	primeCount = 15
)

// smallPrimes is filled by init and only read from then on.
var smallPrimes = [primeCount]int64{}

func init() {
	found := 0
	for n := range int64(primeEnd) {
		if n > 1 && smallestDivisor(n) == n {
			smallPrimes[found] = n
			found++
		}
	}
}

// smallestDivisor is asked for n from 2 on.
func smallestDivisor(n int64) int64 {
	for d := range n {
		if d > 1 && n%d == 0 {
			return d
		}
	}
	return n
}

// ratio is a fraction on the way, of any length: den is above 0 and has no
// divisor in common with num but 1. Nothing is written into its numbers once
// it is made, so that ratios may share them.
type ratio struct {
	num *big.Int
	den *big.Int
}

func GoodFrac(s string) bool {
	_, good := readFrac(s)
	return good
}

func FracOf(num int, den int) string {
	if den == 0 {
		return ""
	}
	return tellFrac(reduce(big.NewInt(int64(num)), big.NewInt(int64(den))))
}

func AddFrac(a string, b string) string {
	x, y, good := readTwo(a, b)
	if !good {
		return ""
	}
	return tellFrac(addRatio(x, y))
}

func SubFrac(a string, b string) string {
	x, y, good := readTwo(a, b)
	if !good {
		return ""
	}
	return tellFrac(subRatio(x, y))
}

func MulFrac(a string, b string) string {
	x, y, good := readTwo(a, b)
	if !good {
		return ""
	}
	return tellFrac(mulRatio(x, y))
}

func DivFrac(a string, b string) string {
	x, y, good := readTwo(a, b)
	if !good || y.num.Sign() == 0 {
		return ""
	}
	return tellFrac(divRatio(x, y))
}

func CmpFrac(a string, b string) (int, bool) {
	x, y, good := readTwo(a, b)
	if !good {
		return 0, false
	}
	return cmpRatio(x, y), true
}

func FloorFrac(a string) (int, bool) {
	x, good := readFrac(a)
	if !good {
		return 0, false
	}
	floor := floorRatio(x)
	if !floor.IsInt64() {
		return 0, false
	}
	return int(floor.Int64()), true
}

func RootFrac(a string) (string, bool) {
	x, good := readFrac(a)
	if !good {
		return "", false
	}
	root, exact := rootRatio(x)
	if !exact {
		return "", false
	}
	return tellFrac(root), true
}

func SimplestIn(lo string, hi string) string {
	x, y, good := readTwo(lo, hi)
	if !good || cmpRatio(x, y) > 0 {
		return ""
	}
	return tellFrac(simplestBetween(x, y))
}

// readFrac reads a good fraction; its second answer tells whether s is one.
func readFrac(s string) (ratio, bool) {
	above, below, parted := strings.Cut(s, "/")
	if !goodWhole(above) {
		return ratio{}, false
	}
	if !parted {
		return ratio{wholeOf(above), big.NewInt(1)}, true
	}
	if above == "0" || !goodDigits(below) || below == "0" || below == "1" {
		return ratio{}, false
	}
	num, den := wholeOf(above), wholeOf(below)
	if !coprime(num, den) {
		return ratio{}, false
	}
	return ratio{num, den}, true
}

func readFracs(l []string) ([]ratio, bool) {
	read := make([]ratio, 0, len(l))
	for _, s := range l {
		r, good := readFrac(s)
		if !good {
			return nil, false
		}
		read = append(read, r)
	}
	return read, true
}

func readTwo(a string, b string) (ratio, ratio, bool) {
	x, goodX := readFrac(a)
	y, goodY := readFrac(b)
	return x, y, goodX && goodY
}

// goodWhole allows one text for each number: a minus ahead of 0 is none.
func goodWhole(s string) bool {
	digits, below := strings.CutPrefix(s, "-")
	return goodDigits(digits) && !(below && digits == "0")
}

func goodDigits(s string) bool {
	if len(s) < 1 || len(s) > MaxDigits {
		return false
	}
	for i := range len(s) {
		if s[i] < '0' || s[i] > '9' {
			return false
		}
	}
	return s[0] != '0' || len(s) == 1
}

// wholeOf is asked of texts that goodWhole allows alone, so that there is
// always a number.
func wholeOf(s string) *big.Int {
	n := new(big.Int)
	n.SetString(s, 10)
	return n
}

// tellFrac is the empty text, which is no fraction, where r is beyond
// MaxDigits.
func tellFrac(r ratio) string {
	above, fits := tellWhole(r.num)
	below, fitsToo := tellWhole(r.den)
	if !fits || !fitsToo {
		return ""
	}
	if below == "1" {
		return above
	}
	return above + "/" + below
}

// tellFracs is the nil list and false where a number is beyond MaxDigits.
func tellFracs(l []ratio) ([]string, bool) {
	told := make([]string, 0, len(l))
	for _, r := range l {
		s := tellFrac(r)
		if s == "" {
			return nil, false
		}
		told = append(told, s)
	}
	return told, true
}

func tellWhole(n *big.Int) (string, bool) {
	// A digit needs less than four bits: what is far too long need not be
	// turned into digits to see that.
	if n.BitLen() > 4*MaxDigits {
		return "", false
	}
	s := n.String()
	digits := strings.TrimPrefix(s, "-")
	return s, len(digits) <= MaxDigits
}

// reduce is asked for a den that is not 0.
func reduce(num *big.Int, den *big.Int) ratio {
	if num.Sign() == 0 {
		return ratio{new(big.Int), big.NewInt(1)}
	}
	n, d := new(big.Int).Set(num), new(big.Int).Abs(den)
	if den.Sign() < 0 {
		n.Neg(n)
	}
	for common := smallCommon(n, d); common > 1; common = smallCommon(n, d) {
		divideBoth(n, d, big.NewInt(common))
		dropTwos(n, d)
	}
	// Short lower numbers are often 1 by now, and then Euclid has nothing to do.
	if !isOne(d) {
		divideBoth(n, d, greatestCommon(n, d))
	}
	return ratio{n, d}
}

// dropTwos takes off all twos in common at once: what is made of floats has
// many of them, and one division a two would be slow.
func dropTwos(n *big.Int, d *big.Int) {
	twos := min(n.TrailingZeroBits(), d.TrailingZeroBits())
	n.Rsh(n, twos)
	d.Rsh(d, twos)
}

func divideBoth(n *big.Int, d *big.Int, by *big.Int) {
	if isOne(by) {
		return
	}
	n.Quo(n, by)
	d.Quo(d, by)
}

// coprime is asked for numbers that are not 0. A small prime in common spares
// the long way.
func coprime(a *big.Int, b *big.Int) bool {
	return smallCommon(a, b) == 1 && isOne(greatestCommon(a, b))
}

// smallCommon is the product of the small primes that divide both numbers,
// each taken once.
func smallCommon(a *big.Int, b *big.Int) int64 {
	all := int64(1)
	for i := range primeCount {
		all *= smallPrimes[i]
	}
	restA, restB := restOf(a, all), restOf(b, all)
	common := int64(1)
	for i := range primeCount {
		p := smallPrimes[i]
		if restA%p == 0 && restB%p == 0 {
			common *= p
		}
	}
	return common
}

func restOf(n *big.Int, by int64) int64 {
	return new(big.Int).Rem(n, big.NewInt(by)).Int64()
}

func greatestCommon(a *big.Int, b *big.Int) *big.Int {
	x, y := new(big.Int).Abs(a), new(big.Int).Abs(b)
	return new(big.Int).GCD(nil, nil, x, y)
}

func isOne(n *big.Int) bool {
	return n.Cmp(big.NewInt(1)) == 0
}

func addRatio(a ratio, b ratio) ratio {
	left := new(big.Int).Mul(a.num, b.den)
	right := new(big.Int).Mul(b.num, a.den)
	return reduce(left.Add(left, right), new(big.Int).Mul(a.den, b.den))
}

func subRatio(a ratio, b ratio) ratio {
	return addRatio(a, negRatio(b))
}

func negRatio(a ratio) ratio {
	return ratio{new(big.Int).Neg(a.num), a.den}
}

func mulRatio(a ratio, b ratio) ratio {
	return reduce(new(big.Int).Mul(a.num, b.num), new(big.Int).Mul(a.den, b.den))
}

// divRatio is asked for a b that is not 0.
func divRatio(a ratio, b ratio) ratio {
	return reduce(new(big.Int).Mul(a.num, b.den), new(big.Int).Mul(a.den, b.num))
}

func cmpRatio(a ratio, b ratio) int {
	left := new(big.Int).Mul(a.num, b.den)
	right := new(big.Int).Mul(b.num, a.den)
	return left.Cmp(right)
}

func floorRatio(a ratio) *big.Int {
	// Div leaves a rest from 0 on, and den is above 0: so this goes down.
	return new(big.Int).Div(a.num, a.den)
}

// rootRatio may look at both numbers by themselves, as they have no divisor
// in common.
func rootRatio(a ratio) (ratio, bool) {
	num, exact := rootWhole(a.num)
	den, exactToo := rootWhole(a.den)
	return ratio{num, den}, exact && exactToo
}

func rootWhole(n *big.Int) (*big.Int, bool) {
	if n.Sign() < 0 {
		return new(big.Int), false
	}
	root := new(big.Int).Sqrt(n)
	return root, new(big.Int).Mul(root, root).Cmp(n) == 0
}

// simplestBetween is asked for a lo that is not above hi.
func simplestBetween(lo ratio, hi ratio) ratio {
	if lo.num.Sign() > 0 {
		return simplestAbove(lo, hi)
	}
	if hi.num.Sign() < 0 {
		return negRatio(simplestAbove(negRatio(hi), negRatio(lo)))
	}
	return ratio{new(big.Int), big.NewInt(1)}
}

// simplestAbove, of ends above 0, goes down the continued fractions of both
// ends as long as no whole number lies between: the whole part of both is
// taken off then, and what is left turned over, by which the ends change
// sides. The first whole number between them is the last part of the answer.
func simplestAbove(lo ratio, hi ratio) ratio {
	ahead := convergent{new(big.Int), big.NewInt(1)}
	here := convergent{big.NewInt(1), new(big.Int)}
	for {
		floor := floorRatio(lo)
		whole := ratio{floor, big.NewInt(1)}
		if cmpRatio(whole, lo) == 0 {
			return ratio(nextConvergent(ahead, here, floor))
		}
		up := new(big.Int).Add(floor, big.NewInt(1))
		if cmpRatio(ratio{up, big.NewInt(1)}, hi) <= 0 {
			return ratio(nextConvergent(ahead, here, up))
		}
		ahead, here = here, nextConvergent(ahead, here, floor)
		lo, hi = turnOver(hi, floor), turnOver(lo, floor)
	}
}

// convergent is what a continued fraction makes of its first parts. It needs
// no reducing, but ahead of the first part its den is 0: so it is no ratio yet.
type convergent struct {
	num *big.Int
	den *big.Int
}

func nextConvergent(ahead convergent, here convergent, part *big.Int) convergent {
	num := new(big.Int).Mul(here.num, part)
	den := new(big.Int).Mul(here.den, part)
	return convergent{num.Add(num, ahead.num), den.Add(den, ahead.den)}
}

// turnOver is 1 / (a - floor), which is above 0; no divisor in common comes
// in by it.
func turnOver(a ratio, floor *big.Int) ratio {
	rest := new(big.Int).Mul(floor, a.den)
	return ratio{a.den, rest.Sub(a.num, rest)}
}
