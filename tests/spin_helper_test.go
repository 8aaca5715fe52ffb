package tests

import (
	"fmt"
	"math"
	"math/big"
	"math/rand"
	"testing"

	"loop.example/g00047/impl"
)

const mostSpin = 1000000

// hamilton is a quaternion of exact numbers: the one without a letter, those of i, j and k.
type hamilton [4]*big.Rat

// triple are the three numbers of a vec.
type triple [3]*big.Rat

// unitProducts are the document's rules, and what follows from them: which unit the product of two is, and its sign.
var unitProducts = [4][4]struct {
	unit int
	sign int64
}{
	{{0, 1}, {1, 1}, {2, 1}, {3, 1}},
	{{1, 1}, {0, -1}, {3, 1}, {2, -1}},
	{{2, 1}, {3, -1}, {0, -1}, {1, 1}},
	{{3, 1}, {2, 1}, {1, -1}, {0, -1}},
}

// mul multiplies each unit with each.
func (h hamilton) mul(g hamilton) hamilton {
	p := hamilton{new(big.Rat), new(big.Rat), new(big.Rat), new(big.Rat)}
	for i := range h {
		for j := range g {
			u := unitProducts[i][j]
			p[u.unit] = plus(p[u.unit], times(big.NewRat(u.sign, 1), times(h[i], g[j])))
		}
	}
	return p
}

func (h hamilton) back() hamilton {
	return hamilton{h[0], negative(h[1]), negative(h[2]), negative(h[3])}
}

func (h hamilton) square() *big.Rat {
	sum := new(big.Rat)
	for _, x := range h {
		sum = plus(sum, times(x, x))
	}
	return sum
}

// turn is where the turn of h brings v: h v h', divided by the square of h.
func (h hamilton) turn(v triple) triple {
	p := h.mul(hamilton{new(big.Rat), v[0], v[1], v[2]}).mul(h.back())
	by := new(big.Rat).Inv(h.square())
	return triple{times(p[1], by), times(p[2], by), times(p[3], by)}
}

// matrix has as its columns where the three units are brought.
func (h hamilton) matrix() [3]triple {
	m := [3]triple{}
	for c := range 3 {
		unit := triple{new(big.Rat), new(big.Rat), new(big.Rat)}
		unit[c].SetInt64(1)
		for r, x := range h.turn(unit) {
			m[r][c] = x
		}
	}
	return m
}

// plain is the spin without a common divisor, the first number above 0; the zero one where it is beyond the limit.
func (h hamilton) plain() impl.Spin {
	below, common, sign := big.NewInt(1), new(big.Int), 0
	for _, x := range h {
		below.Mul(below, x.Denom())
	}
	l := [4]*big.Int{}
	for i, x := range h {
		l[i] = times(x, new(big.Rat).SetInt(below)).Num()
		common.GCD(nil, nil, common, new(big.Int).Abs(l[i]))
		if sign == 0 {
			sign = l[i].Sign()
		}
	}
	n := [4]int{}
	for i := range l {
		q := new(big.Int).Quo(l[i], common)
		if q.CmpAbs(big.NewInt(mostSpin)) > 0 {
			return impl.Spin{}
		}
		n[i] = sign * int(q.Int64())
	}
	return impl.Spin{A: n[0], B: n[1], C: n[2], D: n[3]}
}

func hamiltonOf(s impl.Spin) hamilton {
	return hamilton{big.NewRat(int64(s.A), 1), big.NewRat(int64(s.B), 1), big.NewRat(int64(s.C), 1), big.NewRat(int64(s.D), 1)}
}

func tripleOf(t *testing.T, v impl.Vec) triple {
	t.Helper()
	return triple{rat(t, v.X), rat(t, v.Y), rat(t, v.Z)}
}

func (a triple) add(b triple) triple {
	return triple{plus(a[0], b[0]), plus(a[1], b[1]), plus(a[2], b[2])}
}

func (a triple) negated() triple {
	return triple{negative(a[0]), negative(a[1]), negative(a[2])}
}

func (a triple) dot(b triple) *big.Rat {
	return plus(times(a[0], b[0]), plus(times(a[1], b[1]), times(a[2], b[2])))
}

// vecOf is the vec of the numbers; the zero one and false where one is too long.
func vecOf(a triple) (impl.Vec, bool) {
	v := impl.Vec{X: textOf(a[0]), Y: textOf(a[1]), Z: textOf(a[2])}
	if v.X == "" || v.Y == "" || v.Z == "" {
		return impl.Vec{}, false
	}
	return v, true
}

func isSpin(s impl.Spin) bool {
	for _, n := range []int{s.A, s.B, s.C, s.D} {
		if n < -mostSpin || n > mostSpin {
			return false
		}
	}
	return s != impl.Spin{}
}

func isVec(v impl.Vec) bool { return isFrac(v.X) && isFrac(v.Y) && isFrac(v.Z) }

func checkSpin(t *testing.T, what string, got impl.Spin, want impl.Spin) {
	t.Helper()
	if got != want {
		t.Errorf("%.300s: got %v, want %v", what, got, want)
	}
}

// checkVec holds an answer against the exact numbers.
func checkVec(t *testing.T, what string, got impl.Vec, ok bool, want triple) {
	t.Helper()
	v, fits := vecOf(want)
	if got != v || ok != fits {
		t.Errorf("%.300s: got %.80q %v, want %.80q %v", what, got, ok, v, fits)
	}
}

func checkNoVec(t *testing.T, what string, got impl.Vec, ok bool) {
	t.Helper()
	if got != (impl.Vec{}) || ok {
		t.Errorf("%.300s: got %.80q %v", what, got, ok)
	}
}

// checkPose: a spin that is the zero one, or numbers that are too long, leave the zero pose and false.
func checkPose(t *testing.T, what string, got impl.Pose, ok bool, spin impl.Spin, at triple) {
	t.Helper()
	v, fits := vecOf(at)
	want := impl.Pose{Spin: spin, At: v}
	if !fits || spin == (impl.Spin{}) {
		want = impl.Pose{}
	}
	if got != want || ok != (want != impl.Pose{}) {
		t.Errorf("%.300s: got %.80q %v, want %.80q", what, fmt.Sprint(got), ok, fmt.Sprint(want))
	}
}

func checkNoPose(t *testing.T, what string, got impl.Pose, ok bool) {
	t.Helper()
	if got != (impl.Pose{}) || ok {
		t.Errorf("%.300s: got %.80q %v", what, fmt.Sprint(got), ok)
	}
}

// smallSpins hands each good spin of numbers from -most to most to see.
func smallSpins(most int, see func(impl.Spin)) {
	for a := -most; a <= most; a++ {
		for b := -most; b <= most; b++ {
			for c := -most; c <= most; c++ {
				for d := -most; d <= most; d++ {
					if s := (impl.Spin{A: a, B: b, C: c, D: d}); s != (impl.Spin{}) {
						see(s)
					}
				}
			}
		}
	}
}

// with is s with n in the place at.
func with(s impl.Spin, at int, n int) impl.Spin {
	l := [4]int{s.A, s.B, s.C, s.D}
	l[at] = n
	return impl.Spin{A: l[0], B: l[1], C: l[2], D: l[3]}
}

// edgeSpins are good: numbers at the limit, noughts ahead, half turns, turns about the axes.
func edgeSpins() []impl.Spin {
	l := []impl.Spin{{A: 1, B: 1, C: 1, D: 1}, {A: 1, B: -2, C: 3, D: -4}, {A: -6, B: 4, C: -2, D: 8}, {B: 3, C: -4}, {B: -3, D: 5}, {C: -7, D: 2}, {B: 1, C: 2, D: -3},
		{A: mostSpin, B: mostSpin, C: mostSpin, D: mostSpin}, {A: mostSpin, B: mostSpin - 1, C: -mostSpin + 1, D: -mostSpin},
		{A: -mostSpin, B: -mostSpin, C: -mostSpin, D: mostSpin - 1}, {A: 999983, B: -999979, C: 999961, D: 999959},
		{A: 1, B: mostSpin}, {A: mostSpin, D: 1}, {C: mostSpin, D: -999999}}
	for at := range 4 {
		for _, n := range []int{1, -1, 2, -2, 12, -12, 999999, mostSpin, -mostSpin} {
			l = append(l, with(impl.Spin{}, at, n), with(impl.Spin{A: 1, B: 2, C: 3, D: 4}, at, n), with(impl.Spin{A: 2, B: -2, C: 4, D: 6}, at, n))
		}
	}
	return l
}

// wrongSpins have a number beyond the limit, or nothing but noughts.
func wrongSpins() []impl.Spin {
	l := []impl.Spin{{}}
	for at := range 4 {
		for _, n := range []int{mostSpin + 1, -mostSpin - 1, 2 * mostSpin, 1 << 32, -1 << 32, 1<<32 + 1, 1 << 62, math.MaxInt, math.MinInt, math.MinInt + 1, math.MaxInt - 1} {
			l = append(l, with(impl.Spin{}, at, n), with(impl.Spin{A: 1, B: 2, C: 3, D: 4}, at, n), with(impl.Spin{A: n, B: n, C: n, D: n}, at, 0), impl.Spin{A: n, B: n, C: n, D: n})
		}
	}
	return l
}

// drawnSpin is a good spin, of small numbers or of great ones, at times with noughts.
func drawnSpin(r *rand.Rand) impl.Spin {
	most := []int{1, 3, 9, 100, 1000, mostSpin}[r.Intn(6)]
	for {
		l := [4]int{}
		for i := range l {
			if r.Intn(4) > 0 {
				l[i] = r.Intn(2*most+1) - most
			}
		}
		if s := (impl.Spin{A: l[0], B: l[1], C: l[2], D: l[3]}); s != (impl.Spin{}) {
			return s
		}
	}
}

func drawnVec(r *rand.Rand, digits int) impl.Vec {
	return impl.Vec{X: randomFrac(r, digits), Y: randomFrac(r, digits), Z: randomFrac(r, digits)}
}

func drawnPose(r *rand.Rand, digits int) impl.Pose {
	return impl.Pose{Spin: drawnSpin(r), At: drawnVec(r, digits)}
}

// edgeVecs are good, of short and of long numbers.
func edgeVecs() []impl.Vec {
	return []impl.Vec{{X: "0", Y: "0", Z: "0"}, {X: "1", Y: "0", Z: "0"}, {X: "0", Y: "1", Z: "0"}, {X: "0", Y: "0", Z: "1"}, {X: "-1/2", Y: "2/3", Z: "-7"},
		{X: nines(390), Y: "-1/" + nines(20), Z: "3"}, {X: nines(400), Y: "0", Z: "0"}, {X: "0", Y: "-" + nines(400), Z: "0"}, {X: "0", Y: "0", Z: "1/" + nines(400)},
		{X: nines(400), Y: nines(400), Z: nines(400)}, {X: "1/" + nines(400), Y: "2/" + nines(400), Z: "-2/" + nines(400)}, {X: "-" + tenTo(399), Y: nines(399), Z: nines(399) + "/" + tenTo(399)}}
}

// wrongVecs have a text that is no good fraction in one place or in all.
func wrongVecs() []impl.Vec {
	l := []impl.Vec{}
	for _, s := range wrongTexts() {
		l = append(l, impl.Vec{X: s, Y: "1", Z: "2"}, impl.Vec{X: "1", Y: s, Z: "2"}, impl.Vec{X: "0", Y: "0", Z: s}, impl.Vec{X: s, Y: s, Z: s})
	}
	return l
}
