package crc

import (
	"hash/crc32"
	"math"
	"math/rand"
	"slices"
	"strings"
	"testing"
)

// model is the sum as Go's library makes it, of which the program knows nothing.
func model(s string) int {
	return int(crc32.Checksum([]byte(s), crc32.MakeTable(crc32.Castagnoli)))
}

// drawn are so many drawn bytes.
func drawn(r *rand.Rand, size int) string {
	b := make([]byte, size)
	r.Read(b)
	return string(b)
}

// checkSum holds all ways to sum s up against what is wanted.
func checkSum(t *testing.T, s string, want int) {
	t.Helper()
	if got := Sum(s); got != want {
		t.Errorf("Sum(%x) = %x; want %x", s, got, want)
	}
	if got := Slow(s); got != want {
		t.Errorf("Slow(%x) = %x; want %x", s, got, want)
	}
	if got := More(0, s); got != want {
		t.Errorf("More(0, %x) = %x; want %x", s, got, want)
	}
}

// Cr1: sums that are known.
func TestKnown(t *testing.T) {
	for _, x := range []struct {
		s    string
		want int
	}{
		{"", 0},
		{"\x00", 0x527d5351},
		{"\xff", 0xff000000},
		{"a", 0xc1d04330},
		{"abc", 0x364b3fb7},
		{"123456789", 0xe3069283},
		{strings.Repeat("\x00", 32), 0x8a9136aa},
		{strings.Repeat("\xff", 32), 0x62a8ab43},
		{"The quick brown fox jumps over the lazy dog", 0x22620404},
	} {
		checkSum(t, x.s, x.want)
	}
}

// Cr1: no bytes, told as no part and as empty ones.
func TestNothing(t *testing.T) {
	for _, parts := range [][]string{nil, {}, {""}, {"", ""}, {"", "", ""}} {
		if got := Sum(parts...); got != 0 {
			t.Errorf("Sum(%q) = %x; want 0", parts, got)
		}
	}
	if got := Slow(""); got != 0 {
		t.Errorf("Slow of nothing = %x; want 0", got)
	}
}

// Cr1: all single bytes, and all pairs.
func TestShort(t *testing.T) {
	for a := range 256 {
		s := string([]byte{byte(a)})
		checkSum(t, s, model(s))
		for b := range 256 {
			s := string([]byte{byte(a), byte(b)})
			checkSum(t, s, model(s))
		}
	}
}

// Cr1: many bytes, of every length up to 300 and of some more.
func TestMany(t *testing.T) {
	r := rand.New(rand.NewSource(1))
	for size := range 300 {
		s := drawn(r, size)
		checkSum(t, s, model(s))
	}
	for _, size := range []int{1<<16 - 1, 1 << 16, 1<<16 + 1, 1 << 20} {
		if s := drawn(r, size); Sum(s) != model(s) || Slow(s) != model(s) || More(0, s) != model(s) {
			t.Errorf("the sum of %d drawn bytes is %x, %x, %x; want %x", size, Sum(s), Slow(s), More(0, s), model(s))
		}
	}
}

// Cr1: what is above a sum's lowest 32 bits, a sum below 0 among it, changes nothing.
func TestMoreOfAnySum(t *testing.T) {
	r := rand.New(rand.NewSource(2))
	for _, ahead := range []string{"", "a", "\x00", "\xff", "123456789", drawn(r, 100)} {
		for _, s := range []string{"", "b", "\x00", "\xff", "123456789", drawn(r, 100)} {
			sum, want := model(ahead), model(ahead+s)
			sums := []int{sum, sum + 1<<32, sum - 1<<32, sum | math.MinInt, sum | math.MaxInt&^(1<<32-1), sum | -1<<32}
			for range 20 {
				sums = append(sums, sum^int(r.Uint64()<<32))
			}
			for _, sum := range sums {
				if got := More(sum, s); got != want {
					t.Errorf("More(%x, %x) = %x; want %x", sum, s, got, want)
				}
			}
		}
	}
}

// Cr1: More of nothing is the sum's lowest 32 bits, whichever sum it is.
func TestMoreOfNothing(t *testing.T) {
	for _, x := range []struct{ sum, want int }{
		{0, 0},
		{1, 1},
		{-1, 1<<32 - 1},
		{1<<32 - 1, 1<<32 - 1},
		{1 << 32, 0},
		{1<<32 + 5, 5},
		{-1 << 32, 0},
		{-5, 1<<32 - 5},
		{1 << 31, 1 << 31},
		{-1 << 31, 1 << 31},
		{math.MaxInt, 1<<32 - 1},
		{math.MinInt, 0},
	} {
		if got := More(x.sum, ""); got != x.want {
			t.Errorf("More(%d, nothing) = %x; want %x", x.sum, got, x.want)
		}
	}
}

// Cr2: parts together come to what all do at once, wherever they are cut, empty ones among them.
func TestParts(t *testing.T) {
	r := rand.New(rand.NewSource(3))
	for _, s := range []string{"", "a", "123456789", strings.Repeat("\x00", 9), drawn(r, 20)} {
		want := model(s)
		for i := range len(s) + 1 {
			for j := i; j <= len(s); j++ {
				a, b, c := s[:i], s[i:j], s[j:]
				if got := Sum(a, b, c); got != want {
					t.Errorf("Sum(%x, %x, %x) = %x; want %x", a, b, c, got, want)
				}
				if got := Sum("", a, "", "", b, c, ""); got != want {
					t.Errorf("Sum(%x, %x, %x), and empty ones, = %x; want %x", a, b, c, got, want)
				}
				if got := More(More(Sum(a), b), c); got != want {
					t.Errorf("More of %x, %x, %x = %x; want %x", a, b, c, got, want)
				}
				if got := More(Slow(a+b), c); got != want {
					t.Errorf("More of Slow(%x), %x = %x; want %x", a+b, c, got, want)
				}
			}
		}
	}
}

// Cr2: likewise with each byte a part, and with many drawn parts, none of which is changed.
func TestManyParts(t *testing.T) {
	r := rand.New(rand.NewSource(4))
	s := drawn(r, 1000)
	var single []string
	for i := range len(s) {
		single = append(single, s[i:i+1])
	}
	if got := Sum(single...); got != model(s) {
		t.Errorf("the bytes one by one come to %x; want %x", got, model(s))
	}
	for range 500 {
		var parts []string
		sum := 0
		for range r.Intn(20) {
			part := drawn(r, r.Intn(20))
			parts = append(parts, part)
			sum = More(sum, part)
		}
		kept := slices.Clone(parts)
		want := model(strings.Join(parts, ""))
		if got := Sum(parts...); got != want || sum != want {
			t.Fatalf("the parts %x come to %x, and one by one to %x; want %x", parts, got, sum, want)
		}
		if !slices.Equal(parts, kept) {
			t.Fatalf("Sum changed what was handed in")
		}
	}
}

// turn is s with those bits turned that are 1 in change, from the bit of that number on; the lowest one of a byte is the first.
func turn(s string, from int, change uint32) string {
	b := []byte(s)
	for i := range 32 {
		if change>>i&1 == 1 {
			at := from + i
			b[at/8] ^= 1 << (at % 8)
		}
	}
	return string(b)
}

// checkTurned holds the sums of s, and of s changed, against one another: both ways must tell them apart.
func checkTurned(t *testing.T, s string, from int, change uint32) {
	t.Helper()
	other := turn(s, from, change)
	if Sum(s) == Sum(other) || Slow(s) == Slow(other) || More(5, s) == More(5, other) {
		t.Fatalf("%x and %x have the same sum", s, other)
	}
}

// Cr2: each change of up to 10 bits that follow one another gives another sum, wherever it is.
func TestFewBitsChanged(t *testing.T) {
	r := rand.New(rand.NewSource(5))
	s := drawn(r, 12)
	for change := uint32(1); change < 1<<10; change += 2 {
		for from := range 8*len(s) - 9 {
			checkTurned(t, s, from, change)
		}
	}
	for a := range 256 {
		for change := uint32(1); change < 256; change++ {
			checkTurned(t, string([]byte{byte(a)}), 0, change)
		}
	}
}

// Cr2: changes of 11 to 32 bits: all of them turned, but the first and the last one, and drawn ones.
func TestManyBitsChanged(t *testing.T) {
	r := rand.New(rand.NewSource(6))
	for _, size := range []int{4, 5, 8, 11, 40} {
		s := drawn(r, size)
		for many := 11; many <= 32; many++ {
			ends := uint32(1) | 1<<(many-1)
			whole := uint32(1)<<many - 1
			changes := []uint32{ends, whole, whole & 0x55555555, whole &^ 0x55555555}
			for range 10 {
				changes = append(changes, ends|r.Uint32()&whole)
			}
			for from := range 8*size - many + 1 {
				for _, change := range changes {
					checkTurned(t, s, from, change)
				}
			}
		}
	}
}

// Cr2: the 32 turned bits of any place change the sum by 32 numbers of which no choice comes to 0: so no change of them is lost.
func TestNoChangeIsLost(t *testing.T) {
	r := rand.New(rand.NewSource(7))
	for _, size := range []int{4, 5, 9, 70} {
		s := drawn(r, size)
		for from := range 8*size - 31 {
			var highest [32]uint32 // those that stand alone, by their highest bits
			alone := 0
			for i := range 32 {
				n := uint32(Sum(s) ^ Sum(turn(s, from+i, 1)))
				for bit := 31; bit >= 0; bit-- {
					switch {
					case n>>bit&1 == 0:
					case highest[bit] != 0:
						n ^= highest[bit]
					default:
						highest[bit] = n
						alone++
						n = 0
					}
				}
			}
			if alone != 32 {
				t.Fatalf("of 32 bits from bit %d of %x on, only %d change the sum by themselves", from, s, alone)
			}
		}
	}
}
