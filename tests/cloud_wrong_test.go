package tests

import (
	"math"
	"math/rand"
	"runtime"
	"slices"
	"sync"
	"testing"
	"time"

	"loop.example/g00047/impl"
)

// checkNoCloud: a cloud that is not good has the zero answer everywhere.
func checkNoCloud(t *testing.T, l []impl.Mote) {
	t.Helper()
	if impl.GoodCloud(l) || impl.LostCloud(l) {
		t.Errorf("of %v: good %v, lost %v", l, impl.GoodCloud(l), impl.LostCloud(l))
	}
	for _, asked := range []func([]impl.Mote) (string, bool){impl.CloudMean, impl.CloudSpread, impl.Worth} {
		if s, ok := asked(l); s != "" || ok {
			t.Errorf("of %v: %q %v", l, s, ok)
		}
	}
	if got, ok := impl.LookCloud(l, 0, mostAt); len(got) != 0 || ok {
		t.Errorf("LookCloud of %v: %v %v", l, got, ok)
	}
	if got, ok := impl.MoveCloud(l, 0, nil); len(got) != 0 || ok {
		t.Errorf("MoveCloud of %v: %v %v", l, got, ok)
	}
	if got, ok := impl.PickCloud(l, 1, 0); len(got) != 0 || ok {
		t.Errorf("PickCloud of %v: %v %v", l, got, ok)
	}
	checkCloud(t, l)
}

func TestGoodClouds(t *testing.T) {
	for _, n := range []int{1, 2, 3, 4, 5, mostMotes} {
		for at := range n {
			l := weighted(slices.Repeat([]int{2}, n)...)
			for _, good := range []impl.Mote{{}, {At: mostAt}, {At: -mostAt}, {Weight: mostWeight}, {At: mostAt, Weight: mostWeight}, {At: -mostAt, Weight: mostWeight}, {At: 1, Weight: 1}} {
				l[at] = good
				if !impl.GoodCloud(l) {
					t.Errorf("GoodCloud of %v is false", l)
				}
				checkCloud(t, l)
				checkLook(t, l, 3, 50)
				checkPick(t, l, 3, 1)
			}
			for _, wrong := range []impl.Mote{{At: mostAt + 1}, {At: -mostAt - 1}, {Weight: mostWeight + 1}, {Weight: -1}, {At: mostAt + 1, Weight: 1}, {At: 1, Weight: -2},
				{At: math.MaxInt}, {At: math.MinInt}, {Weight: math.MaxInt}, {Weight: math.MinInt}, {At: math.MinInt, Weight: math.MaxInt}, {At: math.MaxInt, Weight: math.MinInt}} {
				l[at] = wrong
				checkNoCloud(t, l)
				checkNoCloud(t, []impl.Mote{wrong})
			}
		}
	}
}

// One that is wrong and one that makes up for it are no good cloud, nor are two that are wrong.
func TestCloudsWithTwoWrongMotes(t *testing.T) {
	checkNoCloud(t, motesOf(1, -1, 2, 1))
	checkNoCloud(t, motesOf(1, -1, 2, 3))
	checkNoCloud(t, motesOf(1, mostWeight+1, 2, -1))
	checkNoCloud(t, motesOf(mostAt+1, 1, -mostAt-1, 1))
	checkNoCloud(t, motesOf(math.MinInt, 1, math.MaxInt, 1, 1, 0))
	checkNoCloud(t, motesOf(0, math.MinInt, 0, math.MinInt))
	checkNoCloud(t, slices.Repeat(motesOf(1, math.MaxInt), mostMotes))
}

func TestTooManyMotes(t *testing.T) {
	for _, one := range []impl.Mote{{}, {At: 5, Weight: 1}, {At: mostAt, Weight: mostWeight}} {
		l := slices.Repeat([]impl.Mote{one}, mostMotes)
		if !impl.GoodCloud(l) {
			t.Errorf("GoodCloud of %d motes is false", mostMotes)
		}
		checkCloud(t, l)
		for _, n := range []int{mostMotes + 1, mostMotes + 2, 1000} {
			checkNoCloud(t, slices.Repeat([]impl.Mote{one}, n))
		}
	}
}

// Numbers that are wrong beside a cloud, whatever the cloud is.
func TestWrongNumbersBesideClouds(t *testing.T) {
	far := []int{math.MaxInt, math.MinInt, math.MaxInt - 1, math.MinInt + 1, mostAt + 1, -mostAt - 1}
	for _, l := range [][]impl.Mote{nil, {}, motesOf(0, 1), motesOf(5, 1, 7, 3), motesOf(5, 0), weighted(slices.Repeat([]int{1}, mostMotes)...), motesOf(1, -1), make([]impl.Mote, mostMotes+1)} {
		for _, n := range far {
			checkNoLook(t, l, n, 1)
			checkNoLook(t, l, 0, n)
			checkNoLook(t, l, n, n)
			checkNoDrift(t, l, n, nil)
			checkNoDrift(t, l, n, []int{-n})
			for _, coins := range []int{1, 2, 3, mostCoins} {
				for at := range coins {
					wrong := make([]int, coins)
					wrong[at] = n
					checkNoDrift(t, l, 0, wrong)
				}
			}
			checkNoPick(t, l, n, 0)
			checkNoPick(t, l, 1, n)
			checkNoPick(t, l, n, n)
			checkNoPick(t, l, mostMotes, n)
		}
		for _, n := range []int{0, -1, -2} {
			checkNoLook(t, l, 0, n)
			checkNoPick(t, l, n, 0)
		}
		checkNoPick(t, l, 1, -1)
		checkNoPick(t, l, 1, weightOf(l))
		checkNoPick(t, l, mostMotes+1, 0)
	}
}

func checkNoLook(t *testing.T, l []impl.Mote, seen int, width int) {
	t.Helper()
	if got, ok := impl.LookCloud(l, seen, width); len(got) != 0 || ok {
		t.Errorf("LookCloud of %v, %d, %d: %v %v", l, seen, width, got, ok)
	}
	checkLook(t, l, seen, width)
}

func checkNoPick(t *testing.T, l []impl.Mote, n int, coin int) {
	t.Helper()
	if got, ok := impl.PickCloud(l, n, coin); len(got) != 0 || ok {
		t.Errorf("PickCloud of %v, %d, %d: %v %v", l, n, coin, got, ok)
	}
	checkPick(t, l, n, coin)
}

func sameMote(a impl.Mote, b impl.Mote) bool { return a == b }

// What lies behind the lists counts for nothing and stays, as the lists do.
func TestWhatLiesBehindClouds(t *testing.T) {
	r := rand.New(rand.NewSource(176))
	moreMotes, moreCoins := motesOf(5, 7, mostAt+1, -1, 0, math.MaxInt), []int{3, mostAt + 1, math.MinInt}
	for n := range mostMotes + 2 {
		motes, coins := drawnCloud(r, n, 1000, 9), drawnCoins(r, r.Intn(mostCoins+2), 100)
		if n > 0 {
			motes[n-1].Weight = 1
		}
		inMotes, inCoins := behind(motes, moreMotes...), behind(coins, moreCoins...)
		for range 2 {
			checkCloud(t, inMotes)
			checkLook(t, inMotes, 5, 700)
			checkDrift(t, inMotes, 5, inCoins)
			checkPick(t, inMotes, 7, max(0, weightOf(motes)-1))
			if !kept(inMotes, motes, sameMote, moreMotes...) || !kept(inCoins, coins, sameNumber, moreCoins...) {
				t.Fatalf("a list was changed: %v, %v", inMotes[:n+3], inCoins[:len(coins)+3])
			}
		}
	}
}

// Whoever writes into an answer changes nothing else: no later answer, no argument.
func TestCloudAnswersAreNewMemory(t *testing.T) {
	r := rand.New(rand.NewSource(177))
	for n := 1; n <= mostMotes; n++ {
		l, coins := drawnCloud(r, n, 1000, 9), drawnCoins(r, n, 100)
		l[0].Weight = 1
		before, coinsBefore := slices.Clone(l), slices.Clone(coins)
		looked, ok := impl.LookCloud(l, 0, mostAt)
		moved, okToo := impl.MoveCloud(l, 0, coins)
		picked, okAll := impl.PickCloud(l, n, 0)
		for _, answer := range [][]impl.Mote{looked, moved, picked} {
			spoil(answer, impl.Mote{At: -77, Weight: -7})
		}
		if !ok || !okToo || !okAll || !slices.Equal(l, before) || !slices.Equal(coins, coinsBefore) {
			t.Fatalf("an argument was changed: %v, %v", l, coins)
		}
		still, _ := impl.MoveCloud(l, 0, nil)
		spoil(still, impl.Mote{})
		if !slices.Equal(l, before) {
			t.Fatalf("an argument was changed: %v", l)
		}
		checkLook(t, l, 0, mostAt)
		checkDrift(t, l, 0, coins)
		checkPick(t, l, n, 0)
	}
}

// The same call has the same answer every time, many at once too.
func TestCloudAnswersAreTheSameEveryTime(t *testing.T) {
	r := rand.New(rand.NewSource(178))
	l, coins := drawnCloud(r, mostMotes, mostAt/3, mostWeight), drawnCoins(r, 7, mostAt/3)
	l[0].Weight = mostWeight
	mean, _ := impl.CloudMean(l)
	spread, _ := impl.CloudSpread(l)
	worth, _ := impl.Worth(l)
	looked, _ := impl.LookCloud(l, 1, mostAt/2)
	moved, _ := impl.MoveCloud(l, 1, coins)
	picked, _ := impl.PickCloud(l, mostMotes, 12345)
	var all sync.WaitGroup
	for range 8 {
		all.Go(func() {
			for range 100 {
				gotMean, _ := impl.CloudMean(l)
				gotSpread, _ := impl.CloudSpread(l)
				gotWorth, _ := impl.Worth(l)
				gotLooked, _ := impl.LookCloud(l, 1, mostAt/2)
				gotMoved, _ := impl.MoveCloud(l, 1, coins)
				gotPicked, _ := impl.PickCloud(l, mostMotes, 12345)
				if gotMean != mean || gotSpread != spread || gotWorth != worth || !slices.Equal(gotLooked, looked) || !slices.Equal(gotMoved, moved) || !slices.Equal(gotPicked, picked) || !impl.GoodCloud(l) || impl.LostCloud(l) {
					t.Error("another answer")
				}
			}
		})
	}
	all.Wait()
}

// No goroutine goes on when a call has answered.
func TestCloudsLeaveNoGoroutine(t *testing.T) {
	before := runtime.NumGoroutine()
	l := weighted(slices.Repeat([]int{1}, mostMotes)...)
	for range 200 {
		checkCloud(t, l)
		checkLook(t, l, 0, 100)
		checkDrift(t, l, 1, nil)
		checkPick(t, l, 5, 5)
	}
	// One that has told that it is done may need a moment to be gone.
	for tries := 0; runtime.NumGoroutine() > before; tries++ {
		if tries > 1000 {
			t.Fatalf("%d goroutines, %d before", runtime.NumGoroutine(), before)
		}
		time.Sleep(time.Millisecond)
	}
}

// farNumber is a byte as a number, some of them far off.
func farNumber(b byte) int {
	number := int(int8(b))
	switch number {
	case 127:
		return math.MaxInt
	case -128:
		return math.MinInt
	case 126, -126:
		return number / 126 * (mostAt + 1)
	case 125, -125:
		return number / 125 * mostAt
	case 124, -124:
		return number * 7919
	}
	return number
}

// FuzzClouds asks every function of any numbers.
func FuzzClouds(f *testing.F) {
	f.Add("\x05\x01\x07\x03", "\x01\xff", 4, 0, 3)
	f.Add("", "", 1, 0, 1)
	f.Add("\x7d\x7d\x83\x7d\x00\x00", "\x7d\x83", 60, 999999, 1000000)
	f.Add("\x7e\x01", "\x7e", 61, -1, 0)
	f.Add("\x7f\x7f\x80\x80", "\x7f\x80", math.MaxInt, math.MinInt, math.MaxInt)
	f.Fuzz(func(t *testing.T, motes string, coins string, n int, coin int, width int) {
		l, list := []impl.Mote{}, []int{}
		for i := 0; i+1 < len(motes); i += 2 {
			l = append(l, impl.Mote{At: farNumber(motes[i]), Weight: farNumber(motes[i+1])})
		}
		for i := range len(coins) {
			list = append(list, farNumber(coins[i]))
		}
		checkCloud(t, l)
		checkLook(t, l, coin, width)
		checkDrift(t, l, coin, list)
		checkPick(t, l, n, coin)
		if isFound(l) {
			checkPick(t, l, n, leftOf(coin, weightOf(l)))
			checkPick(t, l, 1+leftOf(n, mostMotes), leftOf(coin, weightOf(l)))
		}
	})
}
