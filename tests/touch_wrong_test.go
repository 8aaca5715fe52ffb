package tests

import (
	"math/rand"
	"slices"
	"strings"
	"sync"
	"testing"

	"loop.example/g00047/impl"
)

// hold are good arguments of all functions of the chapter: a firm matrix, and a touch that is its only one.
type hold struct {
	m     [][]string
	q     []string
	mu    []string
	touch impl.Touch
}

// goodHold: the first contact presses by 1/2, the last one of several parts by 3, the others press by 1.
func goodHold(n int) hold {
	h := hold{m: identity(n, "2"), touch: impl.Touch{W: slices.Repeat([]string{"0"}, n), Z: slices.Repeat([]string{"1"}, n)}}
	h.q, h.mu = slices.Repeat([]string{"-2"}, n), slices.Repeat([]string{"1/3"}, n)
	h.q[0], h.touch.Z[0] = "-1", "1/2"
	if n > 1 {
		h.q[n-1], h.touch.W[n-1], h.touch.Z[n-1] = "3", "3", "0"
	}
	return h
}

func (h hold) clone() hold {
	return hold{cloneRows(h.m), slices.Clone(h.q), slices.Clone(h.mu), impl.Touch{W: slices.Clone(h.touch.W), Z: slices.Clone(h.touch.Z)}}
}

func (h hold) is(other hold) bool {
	return sameRows(h.m, other.m) && slices.Equal(h.q, other.q) && slices.Equal(h.mu, other.mu) && sameTouch(h.touch, other.touch)
}

// checkHold asks every function of anything, and that the lists stay as they are.
func checkHold(t *testing.T, h hold) {
	t.Helper()
	before := h.clone()
	checkTouching(t, h.m, h.q)
	checkPresses(t, h.m, h.q, h.mu)
	checkOneTouch(t, h.m, h.q, h.touch)
	if !h.is(before) {
		t.Errorf("an argument was changed: %.300q, before %.300q", h, before)
	}
}

func TestGoodHolds(t *testing.T) {
	for n := 1; n <= mostTouch; n++ {
		h := goodHold(n)
		if !impl.GoodTouch(h.m, h.q) || !impl.FirmMatrix(h.m) || !impl.Touches(h.m, h.q, h.touch) {
			t.Errorf("%d contacts are not good: %q", n, h)
		}
		if l, ok := impl.AllTouches(h.m, h.q); !sameTouches(l, []impl.Touch{h.touch}) || !ok {
			t.Errorf("AllTouches of %d contacts: %q %v", n, l, ok)
		}
		want := slices.Repeat([]string{"1/3"}, n)
		if n > 1 {
			want[n-1] = "0"
		}
		if l, ok := impl.Presses(h.m, h.q, h.mu); !slices.Equal(l, want) || !ok {
			t.Errorf("Presses of %d contacts: %q %v", n, l, ok)
		}
		checkHold(t, h)
	}
}

func TestWrongTextsInTouches(t *testing.T) {
	for n := 1; n <= mostTouch; n++ {
		for _, s := range wrongTexts() {
			for at := range n * n {
				h := goodHold(n)
				h.m[at/n][at%n] = s
				checkNoTouching(t, h.m, h.q)
				if impl.FirmMatrix(h.m) {
					t.Errorf("FirmMatrix with %.60q at %d of %d", s, at, n)
				}
			}
			for at := range n {
				checkWrongTextAt(t, n, at, s)
			}
		}
	}
}

func checkWrongTextAt(t *testing.T, n int, at int, s string) {
	t.Helper()
	h := goodHold(n)
	h.q[at], h.mu[at], h.touch.W[at], h.touch.Z[at] = s, s, s, s
	good := goodHold(n)
	checkNoTouching(t, good.m, h.q)
	checkNoPresses(t, good.m, good.q, h.mu)
	for _, touch := range []impl.Touch{{W: h.touch.W, Z: good.touch.Z}, {W: good.touch.W, Z: h.touch.Z}, h.touch} {
		if impl.Touches(good.m, good.q, touch) {
			t.Errorf("Touches with %.60q at %d of %d", s, at, n)
		}
	}
	checkHold(t, h)
}

// Any good text in each place has the answer that is worked out.
func TestGoodTextsInTouches(t *testing.T) {
	for n := 1; n <= 2; n++ {
		for _, s := range goodTexts() {
			for at := range n * n {
				h := goodHold(n)
				h.m[at/n][at%n] = s
				checkHold(t, h)
			}
			for at := range n {
				for place := range 4 {
					h := goodHold(n)
					[][]string{h.q, h.mu, h.touch.W, h.touch.Z}[place][at] = s
					checkHold(t, h)
				}
			}
		}
	}
}

func TestLimitsOfPressesBelowNought(t *testing.T) {
	for n := 1; n <= mostTouch; n++ {
		for _, s := range []string{"-1", "-1/3", "-1/" + nines(400), "-" + nines(400)} {
			for at := range n {
				h := goodHold(n)
				h.mu[at] = s
				checkNoPresses(t, h.m, h.q, h.mu)
			}
		}
	}
}

func TestTouchesOfOtherShapes(t *testing.T) {
	for n := 1; n <= mostTouch; n++ {
		for at := range n {
			for _, row := range [][]string{nil, {}, slices.Repeat([]string{"1"}, n-1), slices.Repeat([]string{"1"}, n+1), slices.Repeat([]string{"1"}, 1000)} {
				h := goodHold(n)
				h.m[at] = row
				checkNoTouching(t, h.m, h.q)
				if impl.FirmMatrix(h.m) {
					t.Errorf("FirmMatrix with a row of %d, %d of %d", len(row), at, n)
				}
			}
		}
		for _, l := range [][]string{nil, {}, slices.Repeat([]string{"0"}, n-1), slices.Repeat([]string{"0"}, n+1), slices.Repeat([]string{"0"}, 1000)} {
			h := goodHold(n)
			checkNoTouching(t, h.m, l)
			checkNoPresses(t, h.m, h.q, l)
			for _, touch := range []impl.Touch{{W: l, Z: h.touch.Z}, {W: h.touch.W, Z: l}, {W: l, Z: l}} {
				if impl.Touches(h.m, h.q, touch) {
					t.Errorf("Touches of %d contacts and %d numbers", n, len(l))
				}
			}
		}
		h := goodHold(n)
		checkNoTouching(t, h.m[1:], h.q)
		checkNoTouching(t, append(h.m, h.m[0]), h.q)
	}
}

// With nothing at all W and Z would be m Z + q, but no contact is too few, and five are too many.
func TestTouchesOfTooFewOrTooManyContacts(t *testing.T) {
	for _, m := range [][][]string{nil, {}} {
		for _, q := range [][]string{nil, {}, {"1"}} {
			checkNoTouching(t, m, q)
			if impl.FirmMatrix(m) || impl.Touches(m, q, impl.Touch{}) || impl.Touches(m, q, impl.Touch{W: []string{}, Z: []string{}}) {
				t.Error("no contact is good")
			}
			checkNoPresses(t, m, q, nil)
		}
	}
	for _, n := range []int{mostTouch + 1, mostTouch + 2, 8, 63, 64, 65, 100} {
		h := goodHold(n)
		checkNoTouching(t, h.m, h.q)
		checkNoPresses(t, h.m, h.q, h.mu)
		if impl.FirmMatrix(h.m) || impl.Touches(h.m, h.q, h.touch) {
			t.Errorf("%d contacts are good", n)
		}
	}
}

// What lies behind the lists counts for nothing and stays, as the lists do.
func TestWhatLiesBehindTouches(t *testing.T) {
	for n := 1; n <= mostTouch; n++ {
		h, more, rows := goodHold(n), []string{"x", "-1", "0"}, [][]string{nil, {"0"}, {"x"}}
		in := hold{behind(h.m, rows...), behind(h.q, more...), behind(h.mu, more...), impl.Touch{W: behind(h.touch.W, more...), Z: behind(h.touch.Z, more...)}}
		for i := range n {
			in.m[i] = behind(h.m[i], more...)
		}
		for range 3 {
			checkHold(t, in)
			if l, ok := impl.AllTouches(in.m, in.q); !sameTouches(l, []impl.Touch{h.touch}) || !ok {
				t.Errorf("AllTouches: %q %v", l, ok)
			}
		}
		for _, l := range append(slices.Clone(in.m), in.q, in.mu, in.touch.W, in.touch.Z) {
			if !kept(l, l, sameText, more...) {
				t.Errorf("a list was changed behind its end: %q", l[:n+3])
			}
		}
		if !sameRows(in.m[:n+3][n:], rows) {
			t.Errorf("the rows were changed behind their end: %q", in.m[:n+3])
		}
		checkNoTouching(t, in.m, in.q[:n+1])
		checkNoTouching(t, in.m[:n+1], in.q)
		checkNoTouching(t, in.m[:n-1], in.q)
		checkNoTouching(t, in.m, in.q[:n-1])
		checkNoPresses(t, in.m, in.q, in.mu[:n+1])
		checkNoPresses(t, in.m, in.q, in.mu[:n-1])
	}
}

// Whoever writes into an answer changes nothing else: no other list of it, no later answer, no argument.
func TestTouchAnswersAreNewMemory(t *testing.T) {
	for n := 1; n <= mostTouch; n++ {
		m, q := identity(n, "-1"), slices.Repeat([]string{"1"}, n)
		want, _ := exactTouches(ratRows(t, m), ratList(t, q))
		got, _ := impl.AllTouches(m, q)
		for i := range got {
			spoil(got[i].W, "x")
			if !slices.Equal(got[i].Z, want[i].Z) || !sameTouches(got[i+1:], want[i+1:]) {
				t.Fatalf("the lists of AllTouches share memory: %q", got)
			}
			spoil(got[i].Z, "x")
			if !sameTouches(got[i+1:], want[i+1:]) {
				t.Fatalf("the lists of AllTouches share memory: %q", got)
			}
		}
		spoil(got, impl.Touch{})
		if !sameRows(m, identity(n, "-1")) || !slices.Equal(q, slices.Repeat([]string{"1"}, n)) {
			t.Fatalf("an argument was changed: %q, %q", m, q)
		}
		checkTouching(t, m, q)
		for _, mu := range []string{"0", "1/3", "5"} {
			h := goodHold(n)
			h.mu = slices.Repeat([]string{mu}, n)
			before := h.clone()
			l, _ := impl.Presses(h.m, h.q, h.mu)
			spoil(l, "x")
			if !h.is(before) {
				t.Fatalf("Presses shares memory with an argument: %q", h)
			}
			checkHold(t, h)
		}
	}
}

// The same call has the same answer every time, many at once too.
func TestTouchAnswersAreTheSameEveryTime(t *testing.T) {
	r := rand.New(rand.NewSource(109))
	firm, m, q, mu := firmSquare(t, r, mostTouch, 3), identity(mostTouch, "-1/2"), []string{"1", "2", "0", "3"}, []string{"1/5", "0", "1", "2"}
	touches, ok := impl.AllTouches(m, q)
	presses, okToo := impl.Presses(firm, []string{"-1", "-2", "-3", "-4"}, mu)
	if len(touches) != 8 || !ok || !okToo {
		t.Fatal("no answer:", touches, presses)
	}
	var all sync.WaitGroup
	for range 8 {
		all.Go(func() {
			for range 50 {
				gotTouches, _ := impl.AllTouches(m, q)
				gotPresses, _ := impl.Presses(firm, []string{"-1", "-2", "-3", "-4"}, mu)
				if !sameTouches(gotTouches, touches) || !slices.Equal(gotPresses, presses) || !impl.FirmMatrix(firm) || impl.FirmMatrix(m) || !impl.Touches(m, q, touches[7]) {
					t.Error("another answer")
				}
			}
		})
	}
	all.Wait()
}

// FuzzTouches asks every function of any texts; the rows of m stand in one text, with bars between the texts and # between the rows; q, mu, W and Z have bars too.
func FuzzTouches(f *testing.F) {
	rows := strings.NewReplacer(" | ", "#", " ", "|")
	for _, c := range touchCases() {
		f.Add(rows.Replace(c.m), rows.Replace(c.q), "1|1/2|0|3", strings.Repeat("0|", strings.Count(c.q, " "))+"0", rows.Replace(c.q))
	}
	for _, s := range append(goodTexts(), "", "-0", "1/0", "2/4") {
		f.Add(s+"|1#-1|"+s, "-1|"+s, s+"|1", "0|"+s, s+"|0")
		f.Add("2|1|0#1|2|"+s+"#0|1|2", "-1|-1|"+s, "1|1|1", "0|0|0", "1|"+s+"|1")
	}
	f.Add("1#1|1", "1|1", "1|1|1", "1", "")
	f.Fuzz(func(t *testing.T, m string, q string, mu string, w string, z string) {
		h := hold{q: strings.Split(q, "|"), mu: strings.Split(mu, "|"), touch: impl.Touch{W: strings.Split(w, "|"), Z: strings.Split(z, "|")}}
		for row := range strings.SplitSeq(m, "#") {
			h.m = append(h.m, strings.Split(row, "|"))
		}
		checkHold(t, h)
	})
}
