package tests

import (
	"bytes"
	"fmt"
	"math/rand"
	"slices"
	"strings"
	"testing"

	"loop.example/g00047/impl"
)

func TestGoodFrameEdges(t *testing.T) {
	for _, id := range append([]int{-2048, -2, -1, 0, 1, 1023, 1024, 2046, 2047, 2048, 2049, 4095, 1 << 32, 1<<32 + 1, -1 << 32}, farInts...) {
		for _, many := range []int{0, 1, 7, 8, 9, 10, 16, 256, 1 << 16} {
			f := impl.Frame{Id: id, Data: make([]byte, many)}
			if got := impl.GoodFrame(f); got != (0 <= id && id <= 2047 && many <= 8) {
				t.Errorf("GoodFrame of Id %d with %d bytes: %v", id, many, got)
			}
			checkFrame(t, f)
		}
		if got := impl.GoodFrame(impl.Frame{Id: id}); got != (0 <= id && id <= 2047) {
			t.Errorf("GoodFrame of Id %d: %v", id, got)
		}
	}
	if impl.MaxData != 8 || impl.MaxIds != 2047 || impl.MaxTalkers != 6 || impl.MaxQueue != 8 {
		t.Error("a limit is another one")
	}
}

func TestFrameBitsByHand(t *testing.T) {
	for _, c := range []struct {
		id   int
		data []byte
		want string
	}{
		{0, nil, "00000100000100000100000100000100000101111111"},
		{1, nil, "00000100000101000001101101100101111111111"},
		{2047, nil, "011111011111010000100111110111110001111111"},
		{1024, nil, "010000010000010000010111000001001011111111"},
		{291, []byte{0, 255}, "00010010001100100000100001111101110011100100110101111111"},
		{5, []byte{1}, "000001000010100010000010010101011110111011111111"},
		{1365, []byte{0x55, 0xaa, 0x0f}, "010101010101001101010101101010100000111110110000010000011101111111"},
		{0, make([]byte, 8), "000001000001001000001000001000001000001000001000001000001000001000001000001000001000001000001000010100010110111111111"},
		{2047, bytes.Repeat([]byte{255}, 8), "011111011111011000111110111110111110111110111110111110111110111110111110111110111110111110111110110101010100101111111"},
		{1000, []byte{1, 2, 3, 4, 5, 6, 7, 8}, "0011111001000100000100000110000010100000100110000011000001001010000011100000101110000100000101001001000011111111"},
	} {
		f := impl.Frame{Id: c.id, Data: c.data}
		if got := impl.FrameBits(f); got != c.want {
			t.Errorf("FrameBits of %v: %q, want %q", f, got, c.want)
		}
		if got, ok := impl.ReadFrame(c.want); !ok || !sameFrame(got, f) {
			t.Errorf("ReadFrame of %q: %v %v, want %v", c.want, got, ok, f)
		}
		checkFrame(t, f)
	}
}

// Every Id without data and with some, each number of bytes, each single byte.
func TestFramesAreReadBack(t *testing.T) {
	r := rand.New(rand.NewSource(400))
	for id := range greatestId + 1 {
		for _, many := range []int{0, 1, r.Intn(mostCarried + 1), mostCarried} {
			checkFrame(t, impl.Frame{Id: id, Data: drawnData(r, many)})
		}
	}
	for many := range mostCarried + 1 {
		for range 300 {
			checkFrame(t, drawnFrame(r, many))
		}
	}
	for b := range 256 {
		for at := range mostCarried {
			l := make([]byte, mostCarried)
			l[at] = byte(b)
			checkFrame(t, impl.Frame{Id: r.Intn(greatestId + 1), Data: l})
			checkFrame(t, impl.Frame{Id: r.Intn(greatestId + 1), Data: l[:at+1]})
		}
	}
}

// No two frames have the same bits.
func TestFramesAreToldApart(t *testing.T) {
	r := rand.New(rand.NewSource(401))
	from := map[string]impl.Frame{}
	for range 20000 {
		f := drawnFrame(r, r.Intn(3))
		s := impl.FrameBits(f)
		if was, some := from[s]; some && !sameFrame(was, f) {
			t.Fatalf("FrameBits of %v and %v: %q", f, was, s)
		}
		from[s] = f
	}
}

// nearTexts are a text with each bit turned, each bit left out, one more at each place, cut off at each place and with more at either end.
func nearTexts(s string) []string {
	all := []string{}
	for at := range len(s) {
		all = append(all, s[:at]+otherOf(s[at])+s[at+1:], s[:at]+s[at+1:], s[:at], s[at+1:])
	}
	for at := range len(s) + 1 {
		all = append(all, s[:at]+"0"+s[at:], s[:at]+"1"+s[at:])
	}
	for _, more := range []string{"00", "11", "01", "10", sevenOnes, s} {
		all = append(all, more+s, s+more)
	}
	return all
}

// Of texts of at most 45 bits no frame with data has the bits (one byte takes 46), so all frames that they could be are those without.
func TestReadFrameOfAllThatAreNear(t *testing.T) {
	ids := map[string]int{}
	for id := range greatestId + 1 {
		s := impl.FrameBits(impl.Frame{Id: id})
		if len(s) > 45 {
			t.Fatalf("FrameBits of Id %d: %d bits", id, len(s))
		}
		ids[s] = id
	}
	if len(ids) != greatestId+1 {
		t.Fatalf("%d texts of %d frames", len(ids), greatestId+1)
	}
	for s := range ids {
		for _, near := range nearTexts(s) {
			if len(near) > 45 {
				continue
			}
			id, good := ids[near]
			if got, ok := impl.ReadFrame(near); ok != good || got.Id != id || len(got.Data) != 0 {
				t.Fatalf("ReadFrame of %q: %v %v, want %d %v", near, got, ok, id, good)
			}
		}
	}
}

func TestReadFrameOfNearTexts(t *testing.T) {
	r := rand.New(rand.NewSource(402))
	for many := range mostCarried + 1 {
		for range 20 {
			s := impl.FrameBits(drawnFrame(r, many))
			for _, near := range nearTexts(s) {
				checkRead(t, near)
			}
			// Behind the end and ahead of the start there is nothing more.
			for _, other := range []string{s + "0", s + "1", "0" + s, "1" + s, s[1:], s[:len(s)-1], s + s} {
				if got, ok := impl.ReadFrame(other); ok || got.Id != 0 || len(got.Data) != 0 {
					t.Errorf("ReadFrame of %q: %v %v", other, got, ok)
				}
			}
		}
	}
}

// The last seven bits with a 0 among them, in each way.
func TestReadFrameWithoutItsEnd(t *testing.T) {
	r := rand.New(rand.NewSource(403))
	for many := range mostCarried + 1 {
		s := strings.TrimSuffix(impl.FrameBits(drawnFrame(r, many)), sevenOnes)
		eachWire(7, func(end string) {
			if got, ok := impl.ReadFrame(s + end); ok != (end == sevenOnes) || !ok && (got.Id != 0 || len(got.Data) != 0) {
				t.Errorf("ReadFrame of %q with the end %q: %v %v", s, end, got, ok)
			}
		})
		for n := range 12 {
			if checkRead(t, s+strings.Repeat("1", n)) != (n == 7) {
				t.Errorf("ReadFrame of %q with %d ones behind it", s, n)
			}
		}
	}
}

// A number of bytes that is not how many there are, those beyond MaxData too, with a sum that is right.
func TestReadFrameOfOtherCounts(t *testing.T) {
	r := rand.New(rand.NewSource(404))
	for told := range 16 {
		for many := range 17 {
			s := wired(headOf(r.Intn(greatestId+1), told) + bytesBits(drawnData(r, many)))
			if checkRead(t, s) != (told == many && many <= mostCarried) {
				t.Errorf("ReadFrame of %q: %d bytes, told as %d", s, many, told)
			}
		}
		// Bits that are no whole byte.
		for more := 1; more < 8; more++ {
			s := wired(headOf(r.Intn(greatestId+1), told) + bytesBits(drawnData(r, min(told, mostCarried))) + drawnWire(r, more, 3))
			if checkRead(t, s) {
				t.Errorf("ReadFrame of %q: %d bits more", s, more)
			}
		}
	}
	// Heads that are cut off.
	for n := range 16 {
		if s := wired(headOf(77, 0)[:n]); checkRead(t, s) {
			t.Errorf("ReadFrame of %q: %d bits ahead of the sum", s, n)
		}
	}
}

// A first bit of 1, with a sum that is right.
func TestReadFrameOfAnotherStart(t *testing.T) {
	r := rand.New(rand.NewSource(405))
	for many := range mostCarried + 1 {
		for range 50 {
			rest := headOf(r.Intn(greatestId+1), many)[1:] + bytesBits(drawnData(r, many))
			if checkRead(t, wired("1"+rest)) || !checkRead(t, wired("0"+rest)) {
				t.Errorf("ReadFrame of %q behind a first bit", rest)
			}
		}
	}
}

// Each sum but one is wrong.
func TestReadFrameOfOtherSums(t *testing.T) {
	r := rand.New(rand.NewSource(406))
	for _, many := range []int{0, 3, mostCarried} {
		f := drawnFrame(r, many)
		plain := headOf(f.Id, many) + bytesBits(f.Data)
		sum := exactRest(plain)
		for other := range 1 << 15 {
			s := exactStuffed(plain+fmt.Sprintf("%015b", other)) + sevenOnes
			if got, ok := impl.ReadFrame(s); ok != (other == sum) || ok && !sameFrame(got, f) {
				t.Fatalf("ReadFrame of %v with the sum %d: %v %v", f, other, got, ok)
			}
		}
	}
}

// Stuffing that is wrong: none at all, of the end too, twice, of four alike and of six.
func TestReadFrameOfOtherStuffing(t *testing.T) {
	r := rand.New(rand.NewSource(407))
	for range 500 {
		f := drawnFrame(r, r.Intn(mostCarried+1))
		plain := headOf(f.Id, len(f.Data)) + bytesBits(f.Data)
		plain += fmt.Sprintf("%015b", exactRest(plain))
		good := exactStuffed(plain)
		for _, s := range []string{plain + sevenOnes, exactStuffed(plain + sevenOnes), exactStuffed(good) + sevenOnes, good + sevenOnes, good, plain} {
			if s != good+sevenOnes && checkRead(t, s) {
				t.Errorf("ReadFrame of %q, stuffed in another way", s)
			}
		}
		for _, alike := range []int{4, 6} {
			other := stuffedBehind(plain, alike) + sevenOnes
			checkRead(t, other)
			if got, ok := impl.ReadFrame(other); ok && other != good+sevenOnes && sameFrame(got, f) {
				t.Errorf("ReadFrame of %q, stuffed behind %d alike: %v", other, alike, got)
			}
		}
	}
	// The bit that is put in behind five alike is one of the other kind.
	s := impl.FrameBits(impl.Frame{})
	if got, ok := impl.ReadFrame("000000" + s[6:]); ok {
		t.Errorf("ReadFrame of six alike: %v", got)
	}
}

// stuffedBehind stuffs behind another number of bits alike.
func stuffedBehind(s string, alike int) string {
	out := ""
	for i := range len(s) {
		out += s[i : i+1]
		if strings.HasSuffix(out, strings.Repeat(s[i:i+1], alike)) {
			out += otherOf(s[i])
		}
	}
	return out
}

// Bits of a frame and its sum that are turned within fifteen side by side are told.
func TestFramesTellBursts(t *testing.T) {
	r := rand.New(rand.NewSource(408))
	for many := range mostCarried + 1 {
		f := drawnFrame(r, many)
		plain := headOf(f.Id, many) + bytesBits(f.Data)
		plain += fmt.Sprintf("%015b", exactRest(plain))
		for range 4000 {
			by := fmt.Sprintf("%015b", 1+r.Intn(1<<15-1))
			turned := turnedBy(plain, r.Intn(len(plain)-14), by)
			stuffed, ok := impl.StuffBits(turned)
			if !ok {
				t.Fatalf("StuffBits of %q", turned)
			}
			if got, ok := impl.ReadFrame(stuffed + sevenOnes); ok || got.Id != 0 || len(got.Data) != 0 {
				t.Fatalf("ReadFrame of %q, %q turned: %v", plain, turned, got)
			}
		}
	}
}

// Texts of any bytes and of any length.
func TestReadFrameWrongTexts(t *testing.T) {
	r := rand.New(rand.NewSource(409))
	for many := range mostCarried + 1 {
		s := impl.FrameBits(drawnFrame(r, many))
		for at := range len(s) {
			for _, other := range []byte{0, '2', '/', ' ', 'O', 'l', 0x80, 0xff, s[at] + 0x80, s[at] - '0', s[at] + 2} {
				wrong := s[:at] + string([]byte{other}) + s[at+1:]
				if got, ok := impl.ReadFrame(wrong); ok || got.Id != 0 || len(got.Data) != 0 {
					t.Errorf("ReadFrame of %q: %v %v", wrong, got, ok)
				}
			}
		}
		checkRead(t, strings.ReplaceAll(s, "1", "\uff11"))
	}
	for _, s := range []string{"", "0", "1", sevenOnes, "0" + sevenOnes, strings.Repeat("0", 31), strings.Repeat("01", 150), strings.Repeat("01", 146) + sevenOnes, strings.Repeat("01", 150) + sevenOnes, strings.Repeat("01", 1<<19) + sevenOnes, strings.Repeat("1", 300), strings.Repeat("0", 1<<20), "x", "\xff\xfe"} {
		if got, ok := impl.ReadFrame(s); ok || got.Id != 0 || len(got.Data) != 0 {
			t.Errorf("ReadFrame of %q: %v %v", s, got, ok)
		}
	}
	for range 20000 {
		checkRead(t, drawnWire(r, r.Intn(130), 1+r.Intn(5))+sevenOnes)
	}
	for n := range 16 {
		eachWire(n, func(s string) {
			if got, ok := impl.ReadFrame(s); ok || got.Id != 0 || len(got.Data) != 0 {
				t.Fatalf("ReadFrame of %q: %v %v", s, got, ok)
			}
		})
	}
}

// The zero frame is a good one, and is read as no other.
func TestFrameWithoutAnything(t *testing.T) {
	for _, f := range []impl.Frame{{}, {Data: []byte{}}} {
		if s := checkFrame(t, f); !impl.GoodFrame(f) || len(s) != 44 {
			t.Errorf("FrameBits of %v: %q", f, s)
		}
	}
	if slices.ContainsFunc(nearTexts(impl.FrameBits(impl.Frame{})), func(s string) bool {
		got, ok := impl.ReadFrame(s)
		return ok && sameFrame(got, impl.Frame{})
	}) {
		t.Error("a text beside that of the zero frame is read as it")
	}
}
