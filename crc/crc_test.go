package crc

import (
	"bytes"
	"hash/crc32"
	"math"
	"math/rand"
	"testing"
)

// slowSum is the chapter's words, bit by bit.
func slowSum(b []byte) uint32 {
	register := uint32(0xffffffff)
	for _, c := range b {
		register ^= uint32(c)
		for range 8 {
			out := register & 1
			register >>= 1
			if out == 1 {
				register ^= 0x82f63b78
			}
		}
	}
	return ^register
}

func rising(n int) []byte {
	b := make([]byte, n)
	for i := range b {
		b[i] = byte(i)
	}
	return b
}

func someBytes(r *rand.Rand, n int) []byte {
	b := make([]byte, n)
	r.Read(b)
	return b
}

func TestP1_1SumOfKnownTexts(t *testing.T) {
	falling := rising(32)
	for i, j := 0, 31; i < j; i, j = i+1, j-1 {
		falling[i], falling[j] = falling[j], falling[i]
	}
	for _, c := range []struct {
		text []byte
		sum  uint32
	}{
		{[]byte("123456789"), 0xe3069283},
		{nil, 0},
		{[]byte{}, 0},
		{[]byte("a"), 0xc1d04330},
		{make([]byte, 32), 0x8a9136aa},
		{bytes.Repeat([]byte{0xff}, 32), 0x62a8ab43},
		{rising(32), 0x46dd794e},
		{falling, 0x113fdb5c},
	} {
		if s := Sum(c.text); s != c.sum {
			t.Errorf("Sum(% x) = %08x, not %08x", c.text, s, c.sum)
		}
	}
}

func TestP1_1SumOfEachByte(t *testing.T) {
	for c := range 256 {
		b := []byte{byte(c)}
		if s := Sum(b); s != slowSum(b) {
			t.Errorf("Sum(%02x) = %08x, not %08x", c, s, slowSum(b))
		}
	}
}

func TestP1_1SumOfManyTexts(t *testing.T) {
	r := rand.New(rand.NewSource(1))
	table := crc32.MakeTable(crc32.Castagnoli)
	for n := range 300 {
		b := someBytes(r, n)
		s := Sum(b)
		if s != slowSum(b) || s != crc32.Checksum(b, table) {
			t.Fatalf("Sum(% x) = %08x, not %08x", b, s, slowSum(b))
		}
	}
}

func TestP1_1MoreAtEachPlace(t *testing.T) {
	b := someBytes(rand.New(rand.NewSource(2)), 200)
	whole := Sum(b)
	for i := range len(b) + 1 {
		if s := More(Sum(b[:i]), b[i:]); s != whole {
			t.Fatalf("More at %d = %08x, not %08x", i, s, whole)
		}
	}
}

func TestP1_1MoreOfNothingAndOfAnySum(t *testing.T) {
	table := crc32.MakeTable(crc32.Castagnoli)
	for _, sum := range []uint32{0, 1, 0x80000000, 0xffffffff, 0xe3069283} {
		if More(sum, nil) != sum || More(sum, []byte{}) != sum {
			t.Errorf("More(%08x) of nothing is not the sum", sum)
		}
		if s := More(sum, []byte("rot")); s != crc32.Update(sum, table, []byte("rot")) {
			t.Errorf("More(%08x, rot) = %08x", sum, s)
		}
	}
}

func TestP1_2PutOfEachWidth(t *testing.T) {
	all := []byte{1, 0x23, 0x45, 0x67, 0x89, 0xab, 0xcd, 0xef}
	for width := range 9 {
		if b := Put(0x0123456789abcdef, width); !bytes.Equal(b, all[8-width:]) {
			t.Errorf("Put of width %d = % x", width, b)
		}
	}
	if b := Put(0x10203, 4); !bytes.Equal(b, []byte{0, 1, 2, 3}) {
		t.Errorf("Put(10203, 4) = % x", b)
	}
}

func TestP1_2PutOfWidthsBeyondTheEnds(t *testing.T) {
	for _, width := range []int{-1, -8, math.MinInt} {
		if b := Put(math.MaxUint64, width); len(b) != 0 {
			t.Errorf("Put of width %d = % x", width, b)
		}
	}
	for _, width := range []int{9, 16, math.MaxInt} {
		if b := Put(0xff, width); !bytes.Equal(b, []byte{0, 0, 0, 0, 0, 0, 0, 0xff}) {
			t.Errorf("Put of width %d = % x", width, b)
		}
	}
}

func TestP1_2GetOfEachLength(t *testing.T) {
	all := []byte{0xfe, 1, 2, 3, 4, 5, 6, 7}
	want := []uint64{0, 0xfe, 0xfe01, 0xfe0102, 0xfe010203, 0xfe01020304, 0xfe0102030405, 0xfe010203040506, 0xfe01020304050607}
	for n := 1; n <= 8; n++ {
		if got, ok := Get(all[:n]); !ok || got != want[n] {
			t.Errorf("Get of %d bytes = %x, %v", n, got, ok)
		}
	}
	if n, ok := Get(make([]byte, 8)); !ok || n != 0 {
		t.Errorf("Get of noughts = %d, %v", n, ok)
	}
}

func TestP1_2GetOfTooFewAndTooMany(t *testing.T) {
	for _, b := range [][]byte{nil, {}, make([]byte, 9), bytes.Repeat([]byte{1}, 9), bytes.Repeat([]byte{1}, 1000)} {
		if n, ok := Get(b); ok || n != 0 {
			t.Errorf("Get of %d bytes = %d, %v", len(b), n, ok)
		}
	}
}

func TestP1_3GetOfPut(t *testing.T) {
	numbers := []uint64{0, 1, 255, 256, math.MaxInt64, 1 << 63, math.MaxUint64}
	r := rand.New(rand.NewSource(3))
	for range 1000 {
		numbers = append(numbers, r.Uint64()>>r.Intn(64))
	}
	for _, n := range numbers {
		if got, ok := Get(Put(n, 8)); !ok || got != n {
			t.Errorf("Get(Put(%x, 8)) = %x, %v", n, got, ok)
		}
	}
}

func TestP1_4OneByteTurned(t *testing.T) {
	r := rand.New(rand.NewSource(4))
	for _, length := range []int{1, 2, 3, 4, 5, 8, 128} {
		b := someBytes(r, length)
		sum := Sum(b)
		for i := range b {
			for mask := 1; mask < 256; mask++ {
				b[i] ^= byte(mask)
				if Sum(b) == sum {
					t.Fatalf("byte %d of %d xored with %02x has the same sum", i, length, mask)
				}
				b[i] ^= byte(mask)
			}
		}
	}
}

func TestArgumentsAreLeftAsTheyAre(t *testing.T) {
	room := rising(20)
	b := room[3:9]
	Sum(b)
	More(7, b)
	Get(b)
	if !bytes.Equal(room, rising(20)) {
		t.Errorf("changed: % x", room)
	}
}

func TestPutIsNewMemory(t *testing.T) {
	one, two := Put(0x0102, 2), Put(0x0102, 2)
	_ = append(one, 9)
	clear(one[:cap(one)])
	if !bytes.Equal(two, []byte{1, 2}) || !bytes.Equal(Put(0x0102, 2), []byte{1, 2}) {
		t.Error("two answers share memory")
	}
}
