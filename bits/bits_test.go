package bits_test

import (
	"bytes"
	"math"
	"slices"
	"strconv"
	"testing"

	"zugzwang/api"
	"zugzwang/bits"
)

// samples are words at the edges, and some between that a short rule makes.
func samples() []uint32 {
	words := []uint32{0, 1, 2, 3, 0x80000000, 0x80000001, 0x7FFFFFFF, 0xFFFFFFFE, 0xFFFFFFFF, 0x0F0F0F0F, 0x12345678, 0x01020304, 258}
	x := uint32(2463534242)
	for range 40 {
		x = x*1664525 + 1013904223
		words = append(words, x)
	}
	return words
}

// turns are numbers of places: usual ones, none, whole rounds, below 0, far off.
func turns() []int {
	ns := []int{math.MinInt, math.MinInt + 1, -1 << 40, -1000001, -65, -64, -63, 1000001, 1 << 32, 1<<32 + 5, 1 << 40, math.MaxInt - 1, math.MaxInt}
	for n := -34; n <= 66; n++ {
		ns = append(ns, n)
	}
	return ns
}

func bit(x uint32, place int) int { return int(x >> place & 1) }

// turned moves each bit by itself, as the chapter tells it.
func turned(x uint32, n int) uint32 {
	var y uint32
	for place := range 32 {
		to := ((place-n%32)%32 + 32) % 32
		y |= uint32(bit(x, place)) << to
	}
	return y
}

func hex(x uint32) string { return "0x" + strconv.FormatUint(uint64(x), 16) }

func TestTurnExamples(t *testing.T) { // P1.1
	for _, c := range []struct {
		x    uint32
		n    int
		want uint32
	}{
		{1, 1, 1 << 31},
		{0x12345678, 4, 0x81234567},
		{0x12345678, 0, 0x12345678},
		{0x12345678, 32, 0x12345678},
		{0x12345678, 64, 0x12345678},
		{0x12345678, -32, 0x12345678},
		{0x12345678, 36, 0x81234567},
		{0x12345678, 32*1000000 + 4, 0x81234567},
		{0x12345678, -4, 0x23456781},
		{0x12345678, -36, 0x23456781},
		{0x80000001, 31, 3},
		{0x80000001, -1, 3},
		{1, math.MaxInt, 2},
		{1, math.MinInt, 1},
		{0, 17, 0},
		{0xFFFFFFFF, -7, 0xFFFFFFFF},
	} {
		if got := bits.Turn(c.x, c.n); got != c.want {
			t.Errorf("Turn(%s, %d) = %s, want %s", hex(c.x), c.n, hex(got), hex(c.want))
		}
	}
}

func TestTurnMovesEachBit(t *testing.T) { // P1.1
	for _, x := range samples() {
		for _, n := range turns() {
			if got, want := bits.Turn(x, n), turned(x, n); got != want {
				t.Fatalf("Turn(%s, %d) = %s, want %s", hex(x), n, hex(got), hex(want))
			}
		}
	}
}

func TestMixExamples(t *testing.T) { // P1.1
	for _, c := range []struct {
		x     uint32
		turns []int
		want  uint32
	}{
		{5, nil, 0},
		{0xFFFFFFFF, []int{}, 0},
		{5, []int{0}, 5},
		{1, []int{1}, 1 << 31},
		{1, []int{0, 1, 2}, 1 | 1<<31 | 1<<30},
		{0x0F, []int{0, 4}, 0xF000000F},
		{0x0F, []int{0, 2}, 0xC000000C},
		{7, []int{3, 3}, 0},
		{7, []int{3, 35}, 0},
		{7, []int{3, -29, 0}, 7},
		{7, []int{3, 3, 3}, 0xE0000000},
		{1, []int{-1, -2, -31, 32}, 2 | 4 | 1<<31 | 1},
	} {
		if got := bits.Mix(c.x, c.turns...); got != c.want {
			t.Errorf("Mix(%s, %v) = %s, want %s", hex(c.x), c.turns, hex(got), hex(c.want))
		}
	}
}

func TestMixCountsOddPlaces(t *testing.T) { // P1.1
	all := turns()
	for i, x := range samples() {
		some := all[i : i+i%7]
		got := bits.Mix(x, some...)
		for place := range 32 {
			ones := 0
			for _, n := range some {
				ones += bit(turned(x, n), place)
			}
			if bit(got, place) != ones%2 {
				t.Fatalf("Mix(%s, %v) = %s: place %d of %d ones", hex(x), some, hex(got), place, ones)
			}
		}
	}
}

func TestShift(t *testing.T) { // P1.1
	for _, c := range []struct {
		x    uint32
		n    int
		want uint32
	}{
		{0x12345678, 0, 0x12345678},
		{0x12345678, 8, 0x123456},
		{1, 1, 0},
		{6, 1, 3},
		{0x80000000, 31, 1},
		{0xFFFFFFFF, 31, 1},
		{0xFFFFFFFF, 32, 0},
		{0xFFFFFFFF, 33, 0},
		{0xFFFFFFFF, 64, 0},
		{0xFFFFFFFF, 1 << 32, 0},
		{0xFFFFFFFF, math.MaxInt, 0},
		{0x12345678, -1, 0x12345678},
		{0x12345678, -32, 0x12345678},
		{0xFFFFFFFF, -1 << 40, 0xFFFFFFFF},
		{0x12345678, math.MinInt, 0x12345678},
	} {
		if got := bits.Shift(c.x, c.n); got != c.want {
			t.Errorf("Shift(%s, %d) = %s, want %s", hex(c.x), c.n, hex(got), hex(c.want))
		}
	}
}

func TestShiftLosesLowBits(t *testing.T) { // P1.1
	for _, x := range samples() {
		for n := range 32 {
			if got, want := bits.Shift(x, n), uint32(uint64(x)/(1<<n)); got != want {
				t.Fatalf("Shift(%s, %d) = %s, want %s", hex(x), n, hex(got), hex(want))
			}
		}
	}
}

func TestChoose(t *testing.T) { // P1.2
	if got := bits.Choose(0xFF00FF00, 0x12345678, 0x9ABCDEF0); got != 0x12BC56F0 {
		t.Errorf("Choose = %s", hex(got))
	}
	words := samples()
	for i, x := range words {
		a, b := words[(i+5)%len(words)], words[(i+11)%len(words)]
		got := bits.Choose(x, a, b)
		for place := range 32 {
			want := bit(b, place)
			if bit(x, place) == 1 {
				want = bit(a, place)
			}
			if bit(got, place) != want {
				t.Fatalf("Choose(%s, %s, %s) = %s: place %d", hex(x), hex(a), hex(b), hex(got), place)
			}
		}
	}
	if bits.Choose(0, 7, 9) != 9 || bits.Choose(0xFFFFFFFF, 7, 9) != 7 {
		t.Error("Choose by no bits, or by all")
	}
}

func TestMostExamples(t *testing.T) { // P1.2
	for _, c := range []struct {
		words []uint32
		want  uint32
	}{
		{nil, 0},
		{[]uint32{}, 0},
		{[]uint32{0}, 0},
		{[]uint32{0x80000001}, 0x80000001},
		{[]uint32{0xFFFFFFFF}, 0xFFFFFFFF},
		{[]uint32{1, 3, 2}, 3},
		{[]uint32{0xF0, 0xCC, 0xAA}, 0xE8},
		{[]uint32{0xFFFFFFFF, 0}, 0},
		{[]uint32{0xFFFF0000, 0xFF00FF00}, 0xFF000000},
		{[]uint32{3, 3, 0, 4}, 0},
		{[]uint32{3, 1, 1, 4}, 1},
		{[]uint32{0x80000000, 0x80000000, 0x80000000, 0}, 0x80000000},
		{[]uint32{1, 1, 0, 0, 1}, 1},
	} {
		if got := bits.Most(c.words...); got != c.want {
			t.Errorf("Most(%v) = %s, want %s", c.words, hex(got), hex(c.want))
		}
	}
}

func TestMostCountsEachPlace(t *testing.T) { // P1.2
	all := samples()
	for n := range len(all) + 1 {
		words := all[len(all)-n:]
		got := bits.Most(words...)
		for place := range 32 {
			var have [2]int
			for _, x := range words {
				have[bit(x, place)]++
			}
			if (bit(got, place) == 1) != (have[1] > have[0]) {
				t.Fatalf("Most of %d words = %s: place %d has %v", n, hex(got), place, have)
			}
		}
	}
	// As many as would run over a count of eight or sixteen bits.
	many := slices.Repeat([]uint32{0, 1, 3}, 1<<15)
	if got := bits.Most(many...); got != 1 {
		t.Errorf("Most of many = %s", hex(got))
	}
}

func TestSum(t *testing.T) { // P1.2
	for _, c := range []struct {
		words []uint32
		want  uint32
	}{
		{nil, 0},
		{[]uint32{}, 0},
		{[]uint32{7}, 7},
		{[]uint32{1, 2, 3}, 6},
		{[]uint32{0xFFFFFFFF}, 0xFFFFFFFF},
		{[]uint32{0xFFFFFFFF, 1}, 0},
		{[]uint32{0xFFFFFFFF, 2, 3}, 4},
		{[]uint32{0x80000000, 0x80000000, 0x80000000}, 0x80000000},
	} {
		if got := bits.Sum(c.words...); got != c.want {
			t.Errorf("Sum(%v) = %s, want %s", c.words, hex(got), hex(c.want))
		}
	}
	var whole uint64
	for _, x := range samples() {
		whole += uint64(x)
	}
	if got, want := bits.Sum(samples()...), uint32(whole%(1<<32)); got != want {
		t.Errorf("Sum = %s, want %s", hex(got), hex(want))
	}
}

func TestBytes(t *testing.T) { // P1.3
	for _, c := range []struct {
		words []uint32
		want  []byte
	}{
		{nil, nil},
		{[]uint32{}, nil},
		{[]uint32{0}, []byte{0, 0, 0, 0}},
		{[]uint32{258}, []byte{0, 0, 1, 2}},
		{[]uint32{0xFFFEFDFC}, []byte{255, 254, 253, 252}},
		{[]uint32{0x01020304, 0xFF, 0x80000000}, []byte{1, 2, 3, 4, 0, 0, 0, 255, 128, 0, 0, 0}},
	} {
		if got := bits.Bytes(c.words...); !bytes.Equal(got, c.want) {
			t.Errorf("Bytes(%v) = %v, want %v", c.words, got, c.want)
		}
	}
}

func TestWords(t *testing.T) { // P1.3
	for _, c := range []struct {
		b    []byte
		want []uint32
	}{
		{nil, nil},
		{[]byte{}, nil},
		{[]byte{0, 0, 1, 2}, []uint32{258}},
		{[]byte{255, 254, 253, 252}, []uint32{0xFFFEFDFC}},
		{[]byte{1, 2, 3, 4, 0, 0, 0, 255, 128, 0, 0, 0}, []uint32{0x01020304, 0xFF, 0x80000000}},
	} {
		got, errno := bits.Words(c.b)
		if errno != api.OK || !slices.Equal(got, c.want) {
			t.Errorf("Words(%v) = %v, %d, want %v", c.b, got, errno, c.want)
		}
	}
}

func TestWordsOfNoFours(t *testing.T) { // P1.3
	for n := range 70 {
		got, errno := bits.Words(bytes.Repeat([]byte{9}, n))
		if n%4 == 0 {
			if errno != api.OK || len(got) != n/4 {
				t.Errorf("Words of %d bytes: %v, %d", n, got, errno)
			}
			continue
		}
		if errno != api.ErrShape || len(got) != 0 {
			t.Errorf("Words of %d bytes: %v, %d, want none and ErrShape", n, got, errno)
		}
	}
	b := []byte{1, 2, 3, 4, 5}
	if got, errno := bits.Words(b[:3]); errno != api.ErrShape || len(got) != 0 {
		t.Errorf("Words of 3 bytes with more behind: %v, %d", got, errno)
	}
}

func TestWhatFollows(t *testing.T) { // P1.4
	words := samples()
	for i, x := range words {
		for _, n := range turns() {
			if got := bits.Turn(bits.Turn(x, n), -n); got != x {
				t.Fatalf("%s, turned by %d and back: %s", hex(x), n, hex(got))
			}
		}
		a := words[(i+3)%len(words)]
		if got := bits.Choose(x, a, a); got != a {
			t.Errorf("Choose(%s, a, a) = %s, want %s", hex(x), hex(got), hex(a))
		}
	}
	for n := range len(words) + 1 {
		got, errno := bits.Words(bits.Bytes(words[:n]...))
		if errno != api.OK || !slices.Equal(got, words[:n]) {
			t.Errorf("Words of the bytes of %d words: %v, %d", n, got, errno)
		}
	}
}

func TestArgumentsStay(t *testing.T) { // R3
	words, places := samples(), turns()
	bits.Most(words...)
	bits.Sum(words...)
	bits.Mix(7, places...)
	b := bits.Bytes(words...)
	if !slices.Equal(words, samples()) || !slices.Equal(places, turns()) {
		t.Fatal("an argument was changed")
	}
	before := bytes.Clone(b)
	got, _ := bits.Words(b)
	if !bytes.Equal(b, before) {
		t.Fatal("Words changed its bytes")
	}
	clear(b)
	if !slices.Equal(got, words) {
		t.Error("Words keeps its argument")
	}
	if other := bits.Bytes(words...); !bytes.Equal(other, before) {
		t.Error("two answers of Bytes share memory")
	}
	clear(got)
	if !slices.Equal(words, samples()) {
		t.Error("Bytes shares memory with its argument")
	}
}
