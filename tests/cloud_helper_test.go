package tests

import (
	"fmt"
	"math/big"
	"math/rand"
	"slices"
	"testing"

	"loop.example/g00047/impl"
)

const (
	mostMotes  = 60
	mostWeight = 1000000
	mostAt     = 1000000
	mostCoins  = 60
)

// motesOf are motes by their At and Weight, one behind the other.
func motesOf(numbers ...int) []impl.Mote {
	l := []impl.Mote{}
	for pair := range slices.Chunk(numbers, 2) {
		l = append(l, impl.Mote{At: pair[0], Weight: pair[1]})
	}
	return l
}

// weighted are motes with these Weights, no two at the same place.
func weighted(weights ...int) []impl.Mote {
	l := []impl.Mote{}
	for i, w := range weights {
		l = append(l, impl.Mote{At: 100 - 7*i, Weight: w})
	}
	return l
}

func isMote(m impl.Mote) bool { return upTo(mostAt, m.At) && m.Weight >= 0 && m.Weight <= mostWeight }

func isCloud(l []impl.Mote) bool {
	return len(l) <= mostMotes && !slices.ContainsFunc(l, func(m impl.Mote) bool { return !isMote(m) })
}

func weightOf(l []impl.Mote) int {
	sum := 0
	for _, m := range l {
		sum += m.Weight
	}
	return sum
}

// isFound: good, and not lost.
func isFound(l []impl.Mote) bool { return isCloud(l) && weightOf(l) > 0 }

func product3(a int, b int, c int) *big.Rat {
	return times(whole(int64(a)), times(whole(int64(b)), whole(int64(c))))
}

func exactMean(l []impl.Mote) *big.Rat {
	sum := new(big.Rat)
	for _, m := range l {
		sum = plus(sum, product3(m.Weight, m.At, 1))
	}
	return quotient(sum, whole(int64(weightOf(l))))
}

// exactSpread goes by how far the motes are from their mean.
func exactSpread(l []impl.Mote) *big.Rat {
	mean, sum := exactMean(l), new(big.Rat)
	for _, m := range l {
		away := minus(whole(int64(m.At)), mean)
		sum = plus(sum, times(whole(int64(m.Weight)), times(away, away)))
	}
	return quotient(sum, whole(int64(weightOf(l))))
}

func exactWorth(l []impl.Mote) *big.Rat {
	sum := new(big.Rat)
	for _, m := range l {
		sum = plus(sum, product3(m.Weight, m.Weight, 1))
	}
	return quotient(product3(weightOf(l), weightOf(l), 1), sum)
}

// checkCloud asks of anything what takes a cloud alone.
func checkCloud(t *testing.T, l []impl.Mote) {
	t.Helper()
	if got := impl.GoodCloud(l); got != isCloud(l) {
		t.Errorf("GoodCloud of %.300v: %v", fmt.Sprint(l), got)
	}
	if got := impl.LostCloud(l); got != (isCloud(l) && !isFound(l)) {
		t.Errorf("LostCloud of %.300v: %v", fmt.Sprint(l), got)
	}
	for _, f := range []struct {
		name  string
		asked func([]impl.Mote) (string, bool)
		exact func([]impl.Mote) *big.Rat
	}{{"CloudMean", impl.CloudMean, exactMean}, {"CloudSpread", impl.CloudSpread, exactSpread}, {"Worth", impl.Worth, exactWorth}} {
		got, ok := f.asked(l)
		if ok != isFound(l) || !ok && got != "" {
			t.Errorf("%s of %.300v: %q %v", f.name, fmt.Sprint(l), got, ok)
		} else if ok {
			checkFrac(t, fmt.Sprintf("%s of %v", f.name, l), got, f.exact(l))
		}
	}
}

// leftWeight is the greatest number that times width is no more than what the Weight is multiplied to.
func leftWeight(m impl.Mote, seen int, width int) int {
	size := new(big.Int).Abs(new(big.Int).Sub(big.NewInt(int64(m.At)), big.NewInt(int64(seen))))
	left := new(big.Int).Sub(big.NewInt(int64(width)), size)
	if left.Sign() < 0 {
		return 0
	}
	left.Mul(left, big.NewInt(int64(m.Weight)))
	return int(left.Div(left, big.NewInt(int64(width))).Int64())
}

// checkLook asks LookCloud of anything.
func checkLook(t *testing.T, l []impl.Mote, seen int, width int) {
	t.Helper()
	good := isCloud(l) && upTo(mostAt, seen) && width >= 1 && width <= mostAt
	var want []impl.Mote
	for _, m := range l {
		if good {
			want = append(want, impl.Mote{At: m.At, Weight: leftWeight(m, seen, width)})
		}
	}
	got, ok := impl.LookCloud(l, seen, width)
	if ok != good || !slices.Equal(got, want) {
		t.Errorf("LookCloud of %.300v, %d, %d: %v %v, want %v %v", fmt.Sprint(l), seen, width, got, ok, want, good)
		return
	}
	for i, m := range got {
		if m.At != l[i].At || m.Weight > l[i].Weight || !isMote(m) {
			t.Errorf("LookCloud of %v, %d, %d: %v comes of %v", l, seen, width, m, l[i])
		}
	}
}

// checkDrift asks MoveCloud of anything.
func checkDrift(t *testing.T, l []impl.Mote, by int, coins []int) {
	t.Helper()
	good := isCloud(l) && upTo(mostAt, by) && len(coins) <= mostCoins && upTo(mostAt, coins...)
	var want []impl.Mote
	for i, m := range l {
		if !good {
			break
		}
		m.At += by
		if len(coins) > 0 {
			m.At += coins[i%len(coins)]
		}
		good = isMote(m)
		want = append(want, m)
	}
	if !good {
		want = nil
	}
	if got, ok := impl.MoveCloud(l, by, coins); ok != good || !slices.Equal(got, want) {
		t.Errorf("MoveCloud of %.300v, %d, %.200v: %v %v, want %v %v", fmt.Sprint(l), by, coins, got, ok, want, good)
	}
}

// exactPicks are the numbers of the motes that are to be picked, each place looked for from the first mote on.
func exactPicks(l []impl.Mote, n int, coin int) []int {
	picks := []int{}
	for k := range n {
		at := new(big.Int).Mul(big.NewInt(int64(k)), big.NewInt(int64(weightOf(l))))
		at.Add(at, big.NewInt(int64(coin))).Div(at, big.NewInt(int64(n)))
		place, i := int(at.Int64()), 0
		for place >= l[i].Weight {
			place, i = place-l[i].Weight, i+1
		}
		picks = append(picks, i)
	}
	return picks
}

// checkPick asks PickCloud of anything, and whether each mote was picked as often as its Weight says.
func checkPick(t *testing.T, l []impl.Mote, n int, coin int) {
	t.Helper()
	good := isFound(l) && n >= 1 && n <= mostMotes && coin >= 0 && coin < weightOf(l)
	var picks []int
	var want []impl.Mote
	if good {
		picks = exactPicks(l, n, coin)
	}
	for _, i := range picks {
		want = append(want, impl.Mote{At: l[i].At, Weight: 1})
	}
	got, ok := impl.PickCloud(l, n, coin)
	if ok != good || !slices.Equal(got, want) {
		t.Errorf("PickCloud of %.300v, %d, %d: %v %v, want %v %v", fmt.Sprint(l), n, coin, got, ok, want, good)
	} else if good && apart(l) {
		checkFair(t, l, coin, got)
	}
}

// apart: no two motes are at the same place, so that a pick tells of which mote it is.
func apart(l []impl.Mote) bool {
	places := map[int]int{}
	for _, m := range l {
		places[m.At]++
	}
	return len(places) == len(l)
}

func checkFair(t *testing.T, l []impl.Mote, coin int, picked []impl.Mote) {
	t.Helper()
	next, total, n := 0, weightOf(l), len(picked)
	for _, m := range l {
		often := 0
		for next < n && picked[next].At == m.At {
			often, next = often+1, next+1
		}
		if down := n * m.Weight / total; often != down && (often != down+1 || down*total == n*m.Weight) {
			t.Errorf("PickCloud of %v, %d, %d: %v is picked %d times", l, n, coin, m, often)
		}
	}
	if next != n || slices.ContainsFunc(picked, func(m impl.Mote) bool { return m.Weight != 1 }) {
		t.Errorf("PickCloud of %v, %d, %d: %v is not in order, or of other Weights", l, n, coin, picked)
	}
}

// drawnCloud has motes anywhere up to far, one in three of the Weight 0.
func drawnCloud(r *rand.Rand, n int, far int, heavy int) []impl.Mote {
	l := make([]impl.Mote, n)
	for i := range l {
		l[i] = impl.Mote{At: drawnBetween(r, -far, far), Weight: drawnBetween(r, 0, heavy) * min(1, r.Intn(3))}
	}
	return l
}

func drawnCoins(r *rand.Rand, n int, most int) []int {
	l := make([]int, n)
	for i := range l {
		l[i] = drawnBetween(r, -most, most)
	}
	return l
}
