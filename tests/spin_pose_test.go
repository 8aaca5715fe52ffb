package tests

import (
	"fmt"
	"math/big"
	"math/rand"
	"testing"

	"loop.example/g00047/impl"
)

func TestPosesByHand(t *testing.T) {
	quarter := impl.Pose{Spin: impl.Spin{A: 1, D: 1}, At: impl.Vec{X: "1", Y: "2", Z: "3"}}
	over := impl.Pose{Spin: impl.Spin{B: -2}, At: impl.Vec{X: "0", Y: "1/2", Z: "-1"}}
	v, ok := impl.PosePoint(quarter, impl.Vec{X: "5", Y: "7", Z: "1/2"})
	if v != (impl.Vec{X: "-6", Y: "7", Z: "7/2"}) || !ok {
		t.Error(v, ok)
	}
	p, ok := impl.JoinPose(quarter, over)
	if p != (impl.Pose{Spin: impl.Spin{B: 1, C: 1}, At: impl.Vec{X: "1/2", Y: "2", Z: "2"}}) || !ok {
		t.Error(p, ok)
	}
	p, ok = impl.JoinPose(over, quarter)
	if p != (impl.Pose{Spin: impl.Spin{B: 1, C: -1}, At: impl.Vec{X: "1", Y: "-3/2", Z: "-4"}}) || !ok {
		t.Error(p, ok)
	}
	p, ok = impl.BackPose(quarter)
	if p != (impl.Pose{Spin: impl.Spin{A: 1, D: -1}, At: impl.Vec{X: "-2", Y: "1", Z: "-3"}}) || !ok {
		t.Error(p, ok)
	}
	p, ok = impl.BackPose(over)
	if p != (impl.Pose{Spin: impl.Spin{B: 1}, At: impl.Vec{X: "0", Y: "1/2", Z: "-1"}}) || !ok {
		t.Error(p, ok)
	}
	nowhere := impl.Pose{Spin: impl.Spin{A: -6}, At: impl.Vec{X: "0", Y: "0", Z: "0"}}
	p, ok = impl.BackPose(nowhere)
	if p != (impl.Pose{Spin: impl.Spin{A: 1}, At: impl.Vec{X: "0", Y: "0", Z: "0"}}) || !ok {
		t.Error(p, ok)
	}
}

// checkPosePoint: the place, and back again.
func checkPosePoint(t *testing.T, p impl.Pose, v impl.Vec) {
	t.Helper()
	what := fmt.Sprintf("%.120q and %.60q", fmt.Sprint(p), v)
	h, at := hamiltonOf(p.Spin), tripleOf(t, p.At)
	got, ok := impl.PosePoint(p, v)
	checkVec(t, "PosePoint of "+what, got, ok, at.add(h.turn(tripleOf(t, v))))
	back, okBack := impl.BackPose(p)
	checkPose(t, "BackPose of "+what, back, okBack, h.back().plain(), h.back().turn(at).negated())
	if ok && okBack {
		if from, okFrom := impl.PosePoint(back, got); from != v || !okFrom {
			t.Errorf("there and back by %s: %.60q %v", what, from, okFrom)
		}
	}
	if there, okThere := impl.PosePoint(back, v); okBack && okThere {
		if from, okFrom := impl.PosePoint(p, there); from != v || !okFrom {
			t.Errorf("back and there by %s: %.60q %v", what, from, okFrom)
		}
	}
}

func TestPosesGoThereAndBack(t *testing.T) {
	r := rand.New(rand.NewSource(61))
	smallSpins(1, func(s impl.Spin) { checkPosePoint(t, impl.Pose{Spin: s, At: drawnVec(r, 3)}, drawnVec(r, 3)) })
	for _, s := range edgeSpins() {
		for _, v := range edgeVecs() {
			checkPosePoint(t, impl.Pose{Spin: s, At: v}, drawnVec(r, 5))
			checkPosePoint(t, impl.Pose{Spin: s, At: drawnVec(r, 5)}, v)
		}
	}
	for range 300 {
		checkPosePoint(t, drawnPose(r, 4), drawnVec(r, 4))
		checkPosePoint(t, drawnPose(r, 60), drawnVec(r, 60))
	}
}

// checkJoinPose: b first, then a, at once and one behind the other.
func checkJoinPose(t *testing.T, a impl.Pose, b impl.Pose, v impl.Vec) {
	t.Helper()
	what := fmt.Sprintf("%.120q and %.120q", fmt.Sprint(a), fmt.Sprint(b))
	h := hamiltonOf(a.Spin)
	both, ok := impl.JoinPose(a, b)
	checkPose(t, "JoinPose of "+what, both, ok, h.mul(hamiltonOf(b.Spin)).plain(), tripleOf(t, a.At).add(h.turn(tripleOf(t, b.At))))
	if !ok {
		return
	}
	first, okFirst := impl.PosePoint(b, v)
	second, okSecond := impl.PosePoint(a, first)
	once, okOnce := impl.PosePoint(both, v)
	if okFirst && okSecond && (once != second || !okOnce) {
		t.Errorf("%s bring %.60q to %.60q, but at once to %.60q %v", what, v, second, once, okOnce)
	}
}

func TestJoinPoseIsBFirstThenA(t *testing.T) {
	r := rand.New(rand.NewSource(62))
	smallSpins(1, func(s impl.Spin) {
		checkJoinPose(t, impl.Pose{Spin: s, At: drawnVec(r, 3)}, drawnPose(r, 3), drawnVec(r, 3))
		checkJoinPose(t, drawnPose(r, 3), impl.Pose{Spin: s, At: drawnVec(r, 3)}, drawnVec(r, 3))
	})
	for _, s := range edgeSpins() {
		for _, v := range edgeVecs() {
			checkJoinPose(t, impl.Pose{Spin: s, At: v}, drawnPose(r, 3), drawnVec(r, 3))
			checkJoinPose(t, drawnPose(r, 3), impl.Pose{Spin: s, At: v}, drawnVec(r, 3))
		}
	}
	for range 300 {
		checkJoinPose(t, drawnPose(r, 5), drawnPose(r, 50), drawnVec(r, 9))
	}
}

// A pose and its way back are the pose that leaves everything where it is.
func TestPosesJoinedWithTheirWayBack(t *testing.T) {
	r := rand.New(rand.NewSource(63))
	still := impl.Pose{Spin: impl.Spin{A: 1}, At: impl.Vec{X: "0", Y: "0", Z: "0"}}
	for range 300 {
		p := drawnPose(r, 40)
		back, ok := impl.BackPose(p)
		if !ok {
			t.Errorf("BackPose(%v)", p)
			continue
		}
		if got, ok := impl.JoinPose(p, back); got != still || !ok {
			t.Errorf("%v and back: %v %v", p, got, ok)
		}
		if got, ok := impl.JoinPose(back, p); got != still || !ok {
			t.Errorf("back and %v: %v %v", p, got, ok)
		}
		again, ok := impl.BackPose(back)
		if want := (impl.Pose{Spin: impl.PlainSpin(p.Spin), At: p.At}); again != want || !ok {
			t.Errorf("back and back of %v: %v %v", p, again, ok)
		}
	}
}

func TestJoinPoseWhoseSpinIsBeyondTheLimit(t *testing.T) {
	at := impl.Vec{X: "1", Y: "2", Z: "3"}
	for _, c := range []struct {
		a, b impl.Spin
		fits bool
	}{
		{impl.Spin{A: 1000, B: 1}, impl.Spin{A: 1000, C: 1}, true},
		{impl.Spin{A: 2000, B: 2}, impl.Spin{A: 3000, C: 3}, true},
		{impl.Spin{A: mostSpin}, impl.Spin{A: -mostSpin}, true},
		{impl.Spin{A: 1, B: -1000}, impl.Spin{A: 1000, C: 1}, true},
		{impl.Spin{A: 1000, B: 1}, impl.Spin{A: 1000, B: -1, C: 1}, false},
		{impl.Spin{A: 1, B: 1000}, impl.Spin{A: 1001, C: 1}, false},
		{impl.Spin{A: mostSpin, B: 1}, impl.Spin{A: mostSpin, C: 1}, false},
	} {
		a, b := impl.Pose{Spin: c.a, At: at}, impl.Pose{Spin: c.b, At: at}
		checkJoinPose(t, a, b, at)
		if _, ok := impl.JoinPose(a, b); ok != c.fits {
			t.Errorf("JoinPose of %v and %v: %v", c.a, c.b, ok)
		}
		// One behind the other they still bring a point somewhere.
		first, _ := impl.PosePoint(b, at)
		if _, ok := impl.PosePoint(a, first); !ok {
			t.Errorf("PosePoint of %v and %v", c.a, c.b)
		}
	}
}

// wholePart is r without what is behind its point.
func wholePart(r *big.Rat) *big.Rat {
	return new(big.Rat).SetInt(new(big.Int).Quo(r.Num(), r.Denom()))
}

// What comes up on the way may be longer than what is told: the turned point is fifths of 401 digits, the place takes all but some fifths off.
func TestPosesWhoseWayIsLongerThanTheirEnd(t *testing.T) {
	spin, nought := impl.Spin{A: 2, D: 1}, new(big.Rat)
	from := impl.Vec{X: nines(399) + "1", Y: "0", Z: "0"}
	turned := hamiltonOf(spin).turn(tripleOf(t, from))
	if got, ok := impl.TurnVec(spin, from); ok || got != (impl.Vec{}) {
		t.Errorf("TurnVec: %.60q %v", got, ok)
	}
	at, fits := vecOf(triple{negative(wholePart(turned[0])), negative(wholePart(turned[1])), nought})
	if !fits {
		t.Fatal("the test's place is no vec")
	}
	want := impl.Vec{X: minus(turned[0], wholePart(turned[0])).RatString(), Y: minus(turned[1], wholePart(turned[1])).RatString(), Z: "0"}
	if want != (impl.Vec{X: "3/5", Y: "4/5", Z: "0"}) {
		t.Fatal("the test wants something else:", want)
	}
	got, ok := impl.PosePoint(impl.Pose{Spin: spin, At: at}, from)
	if got != want || !ok {
		t.Errorf("PosePoint: %.60q %v", got, ok)
	}
	p, ok := impl.JoinPose(impl.Pose{Spin: spin, At: at}, impl.Pose{Spin: impl.Spin{A: -1}, At: from})
	if p != (impl.Pose{Spin: spin, At: want}) || !ok {
		t.Errorf("JoinPose: %v %.60q %v", p.Spin, p.At, ok)
	}
	// By itself it has no way back: that would be fifths of 401 digits again.
	back, ok := impl.BackPose(impl.Pose{Spin: spin, At: from})
	checkNoPose(t, "BackPose", back, ok)
}

// The place that is told may have 400 digits, and no more.
func TestPosesAtTheLongestNumbers(t *testing.T) {
	still, zero := impl.Spin{A: 1}, impl.Vec{X: "0", Y: "0", Z: "0"}
	for _, c := range []struct {
		at, from string
		fits     bool
	}{
		{nines(400), "0", true}, {"0", "-" + nines(400), true}, {nines(400), "-" + nines(400), true}, {tenTo(399), nines(399), true},
		{nines(400), "1", false}, {"-" + nines(400), "-1", false}, {nines(400), "1/2", false}, {"1/" + nines(400), "1/" + nines(399), false}, {"1/" + nines(400), "-1/" + nines(400), true},
	} {
		for place := range 3 {
			at, from := [3]string{"0", "0", "0"}, [3]string{"0", "0", "0"}
			at[place], from[place] = c.at, c.from
			p, v := impl.Pose{Spin: still, At: impl.Vec{X: at[0], Y: at[1], Z: at[2]}}, impl.Vec{X: from[0], Y: from[1], Z: from[2]}
			checkPosePoint(t, p, v)
			checkJoinPose(t, p, impl.Pose{Spin: still, At: v}, zero)
			_, ok := impl.PosePoint(p, v)
			_, okJoin := impl.JoinPose(p, impl.Pose{Spin: still, At: v})
			_, okBack := impl.BackPose(p)
			if ok != c.fits || okJoin != c.fits || !okBack {
				t.Errorf("%.60q and %.60q: %v %v %v", p.At, v, ok, okJoin, okBack)
			}
		}
	}
}
