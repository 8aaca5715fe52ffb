package tests

import (
	"math"
	"math/big"
	"math/rand"
	"slices"
	"testing"
)

const (
	least    = math.SmallestNonzeroFloat64
	greatest = math.MaxFloat64
	// leastFull is the least float whose number has all its bits.
	leastFull = 0x1p-1022
)

var signedNought = math.Copysign(0, -1)

// isReal says by the bits alone whether x is a good float.
func isReal(x float64) bool {
	b := math.Float64bits(x)
	return b>>52&0x7ff != 0x7ff && b != 1<<63
}

// wrongReals are the floats that are not good, NaNs of several bits among them.
func wrongReals() []float64 {
	return []float64{math.NaN(), math.Inf(1), math.Inf(-1), signedNought,
		math.Float64frombits(0x7ff0000000000001), math.Float64frombits(0xfff8000000000000), math.Float64frombits(0xffffffffffffffff)}
}

// same: of the same bits. So a nought with a sign is not one without.
func same(a float64, b float64) bool { return math.Float64bits(a) == math.Float64bits(b) }

// checkReal holds an answer against what is wanted, bit by bit.
func checkReal(t *testing.T, what string, got float64, ok bool, want float64, wantOk bool) {
	t.Helper()
	if !same(got, want) || ok != wantOk {
		t.Errorf("%.200s: got %x (%g) %v, want %x (%g) %v", what, got, got, ok, want, want, wantOk)
	}
}

func exact(x float64) *big.Rat { return new(big.Rat).SetFloat64(x) }

func half(x *big.Rat) *big.Rat { return new(big.Rat).Mul(x, big.NewRat(1, 2)) }

func plus(a *big.Rat, b *big.Rat) *big.Rat { return new(big.Rat).Add(a, b) }

func minus(a *big.Rat, b *big.Rat) *big.Rat { return new(big.Rat).Sub(a, b) }

func times(a *big.Rat, b *big.Rat) *big.Rat { return new(big.Rat).Mul(a, b) }

func negative(a *big.Rat) *big.Rat { return new(big.Rat).Neg(a) }

// power is 2 to the n, exactly.
func power(n int) *big.Rat {
	p := new(big.Rat).SetInt(new(big.Int).Lsh(big.NewInt(1), uint(max(n, -n))))
	if n < 0 {
		p.Inv(p)
	}
	return p
}

// rounded is the nearest float to an exact number, by the library's own rounding: infinite beyond the greatest one.
func rounded(r *big.Rat) float64 {
	x, _ := r.Float64()
	return x
}

// stepUp and stepDown are the good floats beside x; infinite where there are none.
func stepUp(x float64) float64   { return math.Nextafter(x, math.Inf(1)) + 0 }
func stepDown(x float64) float64 { return math.Nextafter(x, math.Inf(-1)) + 0 }

// edgeReals are the good floats at which something begins or ends.
func edgeReals() []float64 {
	l := []float64{0}
	for _, x := range []float64{least, 2 * least, 3 * least, 4 * least, stepDown(leastFull), leastFull, stepUp(leastFull), 2 * leastFull, stepDown(2 * leastFull),
		0.1, 0.5, stepDown(0.5), stepUp(0.5), 1, stepDown(1), stepUp(1), stepDown(2), 2, stepUp(2), 3, 0.375, 10, 1e16, 1 << 52, 1<<52 + 1, 1<<53 - 1, 1 << 53, 1<<53 + 2, 1 << 62, 1e22, 1e23,
		1e-300, 1e300, 0x1p1023, stepDown(0x1p1023), stepUp(0x1p1023), stepDown(greatest), greatest} {
		l = append(l, x, -x)
	}
	return l
}

// anyReal is a good float of any bits: so all powers come up alike.
func anyReal(r *rand.Rand) float64 {
	for {
		if x := math.Float64frombits(r.Uint64()); isReal(x) {
			return x
		}
	}
}

// nearReal is a good float of a size near 1, at times 0.
func nearReal(r *rand.Rand) float64 {
	if r.Intn(20) == 0 {
		return 0
	}
	return (r.Float64() + 0.25) * math.Ldexp(1, r.Intn(60)-30) * float64(1-2*r.Intn(2))
}

func realList(r *rand.Rand, n int, one func(*rand.Rand) float64) []float64 {
	l := make([]float64, n)
	for i := range l {
		l[i] = one(r)
	}
	return l
}

// hidden is a copy of l with floats behind its end that no function may read or write.
func hidden(l []float64) []float64 {
	behind := append(slices.Clone(l), math.NaN(), math.Inf(1), signedNought)
	return behind[:len(l)]
}

// checkKept: neither a list that was handed in nor what lies behind it has changed.
func checkKept(t *testing.T, what string, handed []float64, before []float64) {
	t.Helper()
	if !slices.EqualFunc(handed, before, same) {
		t.Errorf("%s changed its argument: %v, before %v", what, handed, before)
	}
	behind := handed[len(handed):cap(handed)]
	if len(behind) < 3 || !math.IsNaN(behind[0]) || !math.IsInf(behind[1], 1) || !same(behind[2], signedNought) {
		t.Errorf("%s changed what lies behind its argument: %v", what, behind)
	}
}
