package tests

import (
	"math/rand"
	"slices"
	"testing"

	"loop.example/g00047/impl"
)

func TestArbitrateByHand(t *testing.T) {
	for _, c := range []struct {
		ids    string
		who    int
		leaves string
	}{
		{"0", 0, "-1"}, {"2047", 0, "-1"}, {"5", 0, "-1"},
		{"5 3 3", 1, "8 -1 -1"}, {"3 5", 0, "-1 8"}, {"5 3", 1, "8 -1"},
		// Alike: all of them stay, and the first one is left.
		{"7 7", 0, "-1 -1"}, {"0 0 0 0 0 0", 0, "-1 -1 -1 -1 -1 -1"}, {"2047 2047 2047", 0, "-1 -1 -1"}, {"9 4 4 9 4", 1, "7 -1 -1 7 -1"},
		// Unlike in the first bit, in the last one, in each one.
		{"0 1024", 0, "-1 0"}, {"1024 1023", 1, "0 -1"}, {"0 1", 0, "-1 10"}, {"2047 2046", 1, "10 -1"}, {"0 2047", 0, "-1 0"}, {"2047 0", 1, "0 -1"},
		{"1 2 4 8 16 0", 5, "10 9 8 7 6 -1"}, {"32 64 128 256 512 1024", 0, "-1 4 3 2 1 0"}, {"2047 2045 2043 2039 2031 2015", 5, "5 5 5 5 5 -1"},
		// Who has left puts nothing on the wire any more.
		{"1024 1 1023", 1, "0 -1 1"}, {"1536 1025 1024", 2, "1 10 -1"}, {"6 5 3", 2, "8 8 -1"}, {"12 10 9", 2, "8 9 -1"}, {"1024 511 510", 2, "0 10 -1"},
	} {
		who, leaves, ok := impl.Arbitrate(listOf(c.ids))
		if !ok || who != c.who || !slices.Equal(leaves, listOf(c.leaves)) {
			t.Errorf("Arbitrate of %s: %d %v %v, want %d %s", c.ids, who, leaves, ok, c.who, c.leaves)
		}
		checkWire(t, listOf(c.ids))
	}
}

// All lists of up to six small ids, and of their greatest counterparts.
func TestArbitrateOfAllSmallIds(t *testing.T) {
	for n := 1; n <= mostTalking; n++ {
		for code := range 1 << (2 * n) {
			ids, far := []int{}, []int{}
			for i := range n {
				id := code >> (2 * i) & 3
				ids, far = append(ids, id), append(far, greatestId-id<<9)
			}
			checkWire(t, ids)
			checkWire(t, far)
		}
	}
}

// Every id beside some that have bits of many kinds.
func TestArbitrateOfAllIds(t *testing.T) {
	for id := range greatestId + 1 {
		checkWire(t, []int{id})
		for _, other := range []int{0, 1, 341, 682, 1023, 1024, 2046, 2047, id ^ 1, id ^ 1024, greatestId - id, id} {
			checkWire(t, []int{id, other})
			checkWire(t, []int{other, id})
			checkWire(t, []int{other, id, other, id})
		}
	}
}

// onWire is what is on the wire bit by bit, by the bits of those that have not left ahead of it.
func onWire(ids []int, leaves []int) []int {
	wire := []int{}
	for bit := range 11 {
		all := 1
		for i, id := range ids {
			if leaves[i] == -1 || leaves[i] >= bit {
				all = min(all, id/(1024>>bit)%2)
			}
		}
		wire = append(wire, all)
	}
	return wire
}

// The least id is left; who leaves does so at the first bit in which it differs from what is on the wire, which is the least id in the end.
func TestTheLeastIdIsLeft(t *testing.T) {
	r := rand.New(rand.NewSource(410))
	for range 50000 {
		ids, among := []int{}, []int{4, 64, greatestId + 1}[r.Intn(3)]
		for range 1 + r.Intn(mostTalking) {
			ids = append(ids, greatestId*r.Intn(2)^r.Intn(among))
		}
		checkWire(t, ids)
		who, leaves, _ := impl.Arbitrate(ids)
		if ids[who] != slices.Min(ids) || slices.Contains(ids[:who], ids[who]) || leaves[who] != -1 {
			t.Fatalf("Arbitrate of %v: %d is left", ids, who)
		}
		least := 0
		for bit, wire := range onWire(ids, leaves) {
			least = 2*least + wire
			for i, id := range ids {
				unlike := id/(1024>>bit)%2 != wire
				if leaves[i] == bit && !unlike || unlike && (leaves[i] == -1 || leaves[i] > bit) {
					t.Fatalf("Arbitrate of %v: %v, %d on the wire at %d", ids, leaves, wire, bit)
				}
			}
		}
		if least != ids[who] {
			t.Fatalf("Arbitrate of %v: %d was on the wire", ids, least)
		}
	}
}

// None, seven and more, and ids that are none at each place.
func TestArbitrateWrong(t *testing.T) {
	for _, ids := range [][]int{nil, {}, make([]int, 7), {1, 2, 3, 4, 5, 6, 7}, make([]int, 8), make([]int, 1000)} {
		if who, leaves, ok := impl.Arbitrate(ids); ok || who != 0 || len(leaves) != 0 {
			t.Errorf("Arbitrate of %v: %d %v %v", ids, who, leaves, ok)
		}
	}
	for n := 1; n <= mostTalking; n++ {
		for at := range n {
			for _, id := range append([]int{-1, 2048, -2048, 2049, 4096, 1 << 16, 1 << 32, 1<<32 + 5, -1 << 32}, farInts...) {
				ids := []int{0, 2047, 5, 5, 1024, 1}[:n]
				ids[at] = id
				if who, leaves, ok := impl.Arbitrate(ids); ok || who != 0 || len(leaves) != 0 {
					t.Errorf("Arbitrate of %v: %d %v %v", ids, who, leaves, ok)
				}
			}
		}
	}
	for n := range 9 {
		for _, id := range []int{0, 2047} {
			if checkWire(t, slices.Repeat([]int{id}, n)) != (1 <= n && n <= 6) {
				t.Errorf("Arbitrate of %d ids", n)
			}
		}
	}
}
