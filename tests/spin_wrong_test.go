package tests

import (
	"fmt"
	"math/rand"
	"sync"
	"testing"

	"loop.example/g00047/impl"
)

// checkWrongSpin: no function has an answer for a spin that is not good, alone or beside good ones.
func checkWrongSpin(t *testing.T, s impl.Spin) {
	t.Helper()
	what := fmt.Sprintf("of %v", s)
	good, v := impl.Spin{A: 3, B: -2, C: 1, D: 5}, impl.Vec{X: "1", Y: "0", Z: "-1/2"}
	if impl.GoodSpin(s) {
		t.Errorf("GoodSpin %s", what)
	}
	checkSpin(t, "PlainSpin "+what, impl.PlainSpin(s), impl.Spin{})
	checkSpin(t, "BackSpin "+what, impl.BackSpin(s), impl.Spin{})
	checkSpin(t, "JoinSpin first "+what, impl.JoinSpin(s, good), impl.Spin{})
	checkSpin(t, "JoinSpin second "+what, impl.JoinSpin(good, s), impl.Spin{})
	checkSpin(t, "JoinSpin twice "+what, impl.JoinSpin(s, s), impl.Spin{})
	if m := impl.MatrixOf(s); len(m) != 0 {
		t.Errorf("MatrixOf %s: %v", what, m)
	}
	got, ok := impl.TurnVec(s, v)
	checkNoVec(t, "TurnVec "+what, got, ok)
	checkWrongPose(t, what, impl.Pose{Spin: s, At: v})
}

// checkWrongPose: no function has an answer for a pose that is not good.
func checkWrongPose(t *testing.T, what string, p impl.Pose) {
	t.Helper()
	good := impl.Pose{Spin: impl.Spin{A: 1, B: -1}, At: impl.Vec{X: "1", Y: "2/3", Z: "0"}}
	v, ok := impl.PosePoint(p, good.At)
	checkNoVec(t, "PosePoint "+what, v, ok)
	got, ok := impl.BackPose(p)
	checkNoPose(t, "BackPose "+what, got, ok)
	got, ok = impl.JoinPose(p, good)
	checkNoPose(t, "JoinPose first "+what, got, ok)
	got, ok = impl.JoinPose(good, p)
	checkNoPose(t, "JoinPose second "+what, got, ok)
	got, ok = impl.JoinPose(p, p)
	checkNoPose(t, "JoinPose twice "+what, got, ok)
}

func TestWrongSpinsHaveTheZeroAnswer(t *testing.T) {
	for _, s := range wrongSpins() {
		checkWrongSpin(t, s)
	}
	// Two that are wrong, and whose product would be good by wrapping round or by noughts.
	for _, a := range wrongSpins() {
		for _, b := range wrongSpins() {
			checkSpin(t, fmt.Sprintf("JoinSpin(%v, %v)", a, b), impl.JoinSpin(a, b), impl.Spin{})
		}
	}
}

func TestWrongVecsHaveTheZeroAnswer(t *testing.T) {
	good := impl.Pose{Spin: impl.Spin{A: 2, C: -1}, At: impl.Vec{X: "1", Y: "2", Z: "3"}}
	for _, v := range wrongVecs() {
		what := fmt.Sprintf("of %.60q", v)
		for _, s := range []impl.Spin{{A: 1}, {A: 1, D: 1}, {A: 1, B: 2, C: 3, D: 4}, {}} {
			got, ok := impl.TurnVec(s, v)
			checkNoVec(t, "TurnVec "+what, got, ok)
		}
		got, ok := impl.PosePoint(good, v)
		checkNoVec(t, "PosePoint "+what, got, ok)
		checkWrongPose(t, what, impl.Pose{Spin: impl.Spin{A: 1}, At: v})
		checkWrongPose(t, what, impl.Pose{At: v})
	}
	checkWrongPose(t, "of nothing", impl.Pose{})
	got, ok := impl.PosePoint(impl.Pose{}, impl.Vec{})
	checkNoVec(t, "PosePoint of nothing", got, ok)
	got, ok = impl.TurnVec(impl.Spin{}, impl.Vec{})
	checkNoVec(t, "TurnVec of nothing", got, ok)
}

// A text that is no good fraction in each place of a matrix, of no turn, of a half turn and of others.
func TestWrongTextsInMatrices(t *testing.T) {
	for _, s := range []impl.Spin{{A: 1}, {B: 1}, {D: 1}, {A: 1, B: 1, C: 1, D: 1}, {A: 1, B: 2, C: 3, D: 4}} {
		for _, text := range wrongTexts() {
			for at := range 9 {
				m := impl.MatrixOf(s)
				m[at/3][at%3] = text
				checkNoSpin(t, "a wrong text", m)
			}
		}
	}
	// The numbers are those of a turn, but one is written in another way.
	for at, text := range map[int]string{0: "1/1", 1: "-0", 2: "0/2", 3: "00", 4: "01", 5: "+0", 6: " 0", 7: "0/1", 8: "2/2"} {
		m := impl.MatrixOf(impl.Spin{A: 1})
		m[at/3][at%3] = text
		checkNoSpin(t, "another text of the number", m)
	}
	m := impl.MatrixOf(impl.Spin{A: 2, D: 1})
	m[0][0] = "6/10"
	checkNoSpin(t, "a fraction that is not plain", m)
}

// What lies behind the rows of a matrix, and behind the list of them, counts for nothing and stays.
func TestWhatLiesBehindAMatrix(t *testing.T) {
	m := impl.MatrixOf(impl.Spin{A: 1, B: 2, C: 3, D: 4})
	in := [][]string{behind(m[0], "x", "1"), behind(m[1], "0"), behind(m[2], "", "", "")}
	in = behind(in, []string{"1", "0", "0"}, nil)
	for range 3 {
		if s, ok := impl.SpinOf(in); s != (impl.Spin{A: 1, B: 2, C: 3, D: 4}) || !ok {
			t.Error(s, ok)
		}
	}
	if !sameRows(in, m) || !sameRows(in[:5][3:], [][]string{{"1", "0", "0"}, nil}) {
		t.Error("the list was changed:", in[:5])
	}
	more := [][]string{in[0][:5], in[1][:4], in[2][:6]}
	if !sameRows([][]string{more[0][3:], more[1][3:], more[2][3:]}, [][]string{{"x", "1"}, {"0"}, {"", "", ""}}) {
		t.Error("a row was changed behind its end:", more)
	}
	checkNoSpin(t, "rows that are longer", more)
	checkNoSpin(t, "more rows", in[:4])
	checkNoSpin(t, "shorter rows", [][]string{in[0][:2], in[1], in[2]})
	checkNoSpin(t, "fewer rows", in[:2])
}

// Whoever writes into a matrix that was answered changes nothing else: no other row, no later answer.
func TestSpinAnswersAreNewMemory(t *testing.T) {
	for _, s := range edgeSpins() {
		want := matrixText(t, hamiltonOf(s).matrix())
		m, other := impl.MatrixOf(s), impl.MatrixOf(s)
		for r := range m {
			row := m[r][:cap(m[r])]
			for c := range row {
				row[c] = "x"
			}
			_ = append(m[r], "y")
			for below := r + 1; below < len(m); below++ {
				if !sameRows(m[below:below+1], want[below:below+1]) {
					t.Fatalf("MatrixOf(%v): a row shares memory with another: %v", s, m)
				}
			}
		}
		clear(m)
		if !sameRows(other, want) || !sameRows(impl.MatrixOf(s), want) {
			t.Errorf("MatrixOf(%v) shares memory with another answer", s)
		}
	}
}

// The same call has the same answer every time, many at once too.
func TestSpinAnswersAreTheSameEveryTime(t *testing.T) {
	r := rand.New(rand.NewSource(64))
	a, b, v := drawnPose(r, 30), drawnPose(r, 30), drawnVec(r, 30)
	s, m := impl.JoinSpin(a.Spin, impl.Spin{A: 1, C: 2}), impl.MatrixOf(a.Spin)
	place, _ := impl.PosePoint(a, v)
	both, _ := impl.JoinPose(a, b)
	var all sync.WaitGroup
	for range 8 {
		all.Go(func() {
			for range 100 {
				gotPlace, _ := impl.PosePoint(a, v)
				gotBoth, _ := impl.JoinPose(a, b)
				spin, ok := impl.SpinOf(m)
				if gotPlace != place || gotBoth != both || impl.JoinSpin(a.Spin, impl.Spin{A: 1, C: 2}) != s || spin != impl.PlainSpin(a.Spin) || !ok || !sameRows(impl.MatrixOf(a.Spin), m) {
					t.Error("another answer")
				}
			}
		})
	}
	all.Wait()
}

// FuzzSpins asks every function of any numbers and texts.
func FuzzSpins(f *testing.F) {
	for _, s := range append(edgeSpins(), wrongSpins()...) {
		f.Add(s.A, s.B, s.C, s.D, 1, 2, -3, 4, "1/2", "-3", "0")
		f.Add(1000, 1, 0, 0, s.A, s.B, s.C, s.D, "5", "1/7", "-2/3")
	}
	for _, s := range append(goodTexts(), "", "-0", "1/0", "2/4") {
		f.Add(2, 0, 0, 1, 1, 2, 2, -4, s, "-3", "1/3")
		f.Add(1, -1, 0, 1, 0, 0, 5, 1, "0", s, s)
	}
	f.Fuzz(func(t *testing.T, a int, b int, c int, d int, e int, g int, h int, i int, x string, y string, z string) {
		first, second, v := impl.Spin{A: a, B: b, C: c, D: d}, impl.Spin{A: e, B: g, C: h, D: i}, impl.Vec{X: x, Y: y, Z: z}
		rows := [][]string{{x, y, z}, {y, z, x}, {z, x, y}}
		if s, ok := impl.SpinOf(rows); ok != impl.GoodSpin(s) || ok && !sameRows(impl.MatrixOf(s), rows) {
			t.Errorf("SpinOf(%.200q): %v %v", rows, s, ok)
		}
		for _, s := range []impl.Spin{first, second} {
			if !isSpin(s) {
				checkWrongSpin(t, s)
				continue
			}
			checkOneSpin(t, s)
			checkMatrix(t, s)
		}
		if !isSpin(first) || !isSpin(second) {
			return
		}
		checkJoin(t, first, second)
		if !isVec(v) {
			checkWrongPose(t, "of a wrong vec", impl.Pose{Spin: first, At: v})
			return
		}
		p, q := impl.Pose{Spin: first, At: v}, impl.Pose{Spin: second, At: v}
		checkTurn(t, first, v)
		checkPosePoint(t, p, v)
		checkJoinPose(t, p, q, v)
	})
}
