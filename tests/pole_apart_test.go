package tests

import (
	"math/big"
	"math/rand"
	"testing"

	"loop.example/g00047/impl"
)

func disk(re float64, im float64, square float64) impl.Disk {
	return impl.Disk{Centre: impl.Point{Re: re, Im: im}, Square: square}
}

func TestApartByHand(t *testing.T) {
	for what, c := range map[string]struct {
		l    []impl.Disk
		want bool
	}{
		"none":                            {nil, true},
		"none, but not nil":               {[]impl.Disk{}, true},
		"one":                             {[]impl.Disk{disk(1, 2, 3)}, true},
		"one of no size":                  {[]impl.Disk{disk(0, 0, 0)}, true},
		"one as great as can be":          {[]impl.Disk{disk(0x1p60, -0x1p60, greatest)}, true},
		"two that touch":                  {[]impl.Disk{disk(0, 0, 4), disk(3, 4, 9)}, false},
		"two that touch not quite":        {[]impl.Disk{disk(0, 0, 4), disk(3, 4, stepDown(9))}, true},
		"two that touch not quite, again": {[]impl.Disk{disk(0, 0, stepDown(4)), disk(3, 4, 9)}, true},
		"two that overlap a little":       {[]impl.Disk{disk(0, 0, stepUp(4)), disk(3, 4, 9)}, false},
		"two far off":                     {[]impl.Disk{disk(-10, 0, 4), disk(10, 0, 9)}, true},
		"points that are two":             {[]impl.Disk{disk(0, 0, 0), disk(0, 0x1p-200, 0)}, true},
		"points that are one":             {[]impl.Disk{disk(1, 1, 0), disk(1, 1, 0)}, false},
		"a point at an edge":              {[]impl.Disk{disk(0, 0, 25), disk(3, 4, 0)}, false},
		"a point just off an edge":        {[]impl.Disk{disk(0, 0, stepDown(25)), disk(3, 4, 0)}, true},
		"a point just off, the other way": {[]impl.Disk{disk(3, 4, 0), disk(0, 0, stepDown(25))}, true},
		"a point within":                  {[]impl.Disk{disk(0, 0, 100), disk(3, 4, 0)}, false},
		"a disk within":                   {[]impl.Disk{disk(0, 0, 10000), disk(1, 0, 1)}, false},
		"a disk within, the other way":    {[]impl.Disk{disk(1, 0, 1), disk(0, 0, 10000)}, false},
		"a disk that touches from within": {[]impl.Disk{disk(0, 0, 9), disk(1, 0, 4)}, false},
		"a disk far within":               {[]impl.Disk{disk(0, 0, greatest), disk(1, 0, least)}, false},
		"the least sizes":                 {[]impl.Disk{disk(0, 0, least), disk(0x1p-200, 0, least)}, true},
		"centres as near as can be":       {[]impl.Disk{disk(1, 0, 0x1p-106), disk(stepUp(1), 0, 0x1p-106)}, false},
		"the first and the last of three": {[]impl.Disk{disk(0, 0, 1), disk(100, 0, 1), disk(1, 1, 1)}, false},
		"the last two of three":           {[]impl.Disk{disk(100, 0, 1), disk(0, 0, 1), disk(1, 1, 1)}, false},
		"the first two of three":          {[]impl.Disk{disk(0, 0, 1), disk(1, 1, 1), disk(100, 0, 1)}, false},
		"three apart":                     {[]impl.Disk{disk(0, 0, 1), disk(3, 0, 1), disk(0, 3, 1)}, true},
		"a Square below 0":                {[]impl.Disk{disk(0, 0, -1)}, false},
		"a Square just below 0":           {[]impl.Disk{disk(0, 0, 1), disk(9, 0, -least)}, false},
		"a Square with a sign":            {[]impl.Disk{disk(0, 0, signedNought)}, false},
		"a Centre too far":                {[]impl.Disk{disk(0, stepUp(0x1p60), 1)}, false},
		"a Centre too near":               {[]impl.Disk{disk(stepDown(0x1p-200), 0, 1)}, false},
		"a Centre too near, below 0":      {[]impl.Disk{disk(1, 1, 0), disk(-0x1p-201, 5, 0)}, false},
		"Centres at both sizes":           {[]impl.Disk{disk(0x1p-200, -0x1p60, 1), disk(-0x1p60, -0x1p-200, 1)}, true},
	} {
		in := behind(c.l, impl.Disk{Centre: strange, Square: -1})
		if got := impl.Apart(in); got != c.want {
			t.Errorf("Apart of %s: %v", what, got)
		}
		if !kept(in, c.l, sameDisk, impl.Disk{Centre: strange, Square: -1}) {
			t.Errorf("Apart of %s changed its argument", what)
		}
	}
}

func TestApartOfManyDisks(t *testing.T) {
	l := []impl.Disk{}
	for i := range 12 {
		l = append(l, disk(float64(3*i), 0, 1))
	}
	for n := range len(l) + 1 {
		if got := impl.Apart(l[:n]); got != (n <= 10) {
			t.Errorf("Apart of %d disks: %v", n, got)
		}
	}
	// Any two of ten count.
	for i := range 10 {
		for j := range 10 {
			ten := append([]impl.Disk{}, l[:10]...)
			ten[i].Centre = ten[j].Centre
			if got := impl.Apart(ten); got != (i == j) {
				t.Errorf("Apart with %d at the place of %d: %v", i, j, got)
			}
		}
	}
}

// wideRoot is a square root to so many bits that no drawn disks are as near to touching.
func wideRoot(r *big.Rat) *big.Float {
	x := new(big.Float).SetPrec(5000).SetRat(r)
	return x.Sqrt(x)
}

func TestApartOfDrawnDisks(t *testing.T) {
	r := rand.New(rand.NewSource(39))
	apart := 0
	for range 3000 {
		a, b := disk(nearReal(r), nearReal(r), nearReal(r)), disk(nearReal(r), nearReal(r), nearReal(r))
		a.Square, b.Square = a.Square*a.Square, b.Square*b.Square
		way := spotOf(a.Centre).sub(spotOf(b.Centre)).square()
		switch r.Intn(3) {
		case 0:
			// Nearly as great as the way, from both sides.
			a.Square = rounded(way) * (1 + (r.Float64()-0.5)*0x1p-40)
			b.Square = 0x1p-100
		case 1:
			b.Square = rounded(way) / 4
			a.Square = b.Square * (1 + (r.Float64()-0.5)*0x1p-40)
		}
		radii := new(big.Float).SetPrec(5000).Add(wideRoot(exact(a.Square)), wideRoot(exact(b.Square)))
		want := wideRoot(way).Cmp(radii) > 0
		if want {
			apart++
		}
		if impl.Apart([]impl.Disk{a, b}) != want || impl.Apart([]impl.Disk{b, a}) != want {
			t.Errorf("Apart of %x and %x: want %v", a, b, want)
		}
	}
	if apart < 500 || apart > 2500 {
		t.Error("disks were apart", apart, "times")
	}
}

func TestApartOfWrongFloats(t *testing.T) {
	for _, x := range wrongReals() {
		for _, d := range []impl.Disk{disk(x, 0, 1), disk(0, x, 1), disk(0, 0, x), disk(x, x, x)} {
			for at := range 4 {
				l := []impl.Disk{disk(10, 0, 1), disk(20, 0, 1), disk(30, 0, 1), disk(40, 0, 1)}
				l[at] = d
				if impl.Apart(l) || impl.Apart(l[:at+1]) || impl.Apart(l[at:at+1]) {
					t.Errorf("Apart with %v", d)
				}
			}
		}
	}
}
