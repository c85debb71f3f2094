package extent

import (
	"bytes"
	"encoding/binary"
	"fmt"
	"hash/crc32"
	"math"
	"math/rand"
	"strings"
	"testing"

	"dryrot/api"
)

func sum(b []byte) uint32 { return crc32.Checksum(b, crc32.MakeTable(crc32.Castagnoli)) }

// plainFrame is the chapter's words, field behind field.
func plainFrame(name string, index uint32, gen uint64, length byte, payload []byte) []byte {
	b := []byte{0xe5}
	b = binary.BigEndian.AppendUint32(b, sum([]byte(name)))
	b = binary.BigEndian.AppendUint32(b, index)
	b = binary.BigEndian.AppendUint64(b, gen)
	b = append(b, length)
	b = append(b, payload...)
	for len(b) < 124 {
		b = append(b, 0)
	}
	return summed(b[:124])
}

// summed is bytes with a sum that is right, whatever else is not.
func summed(b []byte) []byte {
	b = bytes.Clone(b[:124])
	return binary.BigEndian.AppendUint32(b, sum(b))
}

func mustFrame(t *testing.T, name string, index, gen int, payload []byte) []byte {
	t.Helper()
	b, e := Frame(name, index, gen, payload)
	if e != api.OK || len(b) != api.Size {
		t.Fatalf("Frame(%q, %d, %d, % x) = % x, %d", name, index, gen, payload, b, int(e))
	}
	return b
}

func wantBad(t *testing.T, what string, b []byte, name string, index int) {
	t.Helper()
	if p, gen, e := Open(b, name, index); e != api.ErrBad || len(p) != 0 || gen != 0 {
		t.Errorf("%s: Open = % x, %d, %d", what, p, gen, int(e))
	}
}

func rising(n int) []byte {
	b := make([]byte, n)
	for i := range b {
		b[i] = byte(i + 1)
	}
	return b
}

func TestP4_1FrameKnown(t *testing.T) {
	for _, c := range []struct {
		name       string
		index, gen int
		payload    []byte
	}{
		{"x", 1, 2, []byte("ab")},
		{"x", 0, 0, nil},
		{"", 0, 0, []byte{}},
		{"wal.0000000000000001.a", math.MaxInt32, api.MaxNumber, rising(api.Load)},
		{"a name that no disk takes " + strings.Repeat("\xff", 300), 0x01020304, 0x05060708090a0b0c, rising(api.Load - 1)},
		{"x", 1, 2, make([]byte, 5)},
	} {
		b := mustFrame(t, c.name, c.index, c.gen, c.payload)
		if wanted := plainFrame(c.name, uint32(c.index), uint64(c.gen), byte(len(c.payload)), c.payload); !bytes.Equal(b, wanted) {
			t.Errorf("Frame(%q, %d, %d, % x) = % x, not % x", c.name, c.index, c.gen, c.payload, b, wanted)
		}
	}
}

func TestP4_1BytesWrittenOut(t *testing.T) {
	b := mustFrame(t, "123456789", 0x01020304, 0x0102030405060708, []byte("hi"))
	ahead := []byte{0xe5, 0xe3, 0x06, 0x92, 0x83, 1, 2, 3, 4, 1, 2, 3, 4, 5, 6, 7, 8, 2, 'h', 'i'}
	if !bytes.Equal(b[:20], ahead) || !bytes.Equal(b[20:124], make([]byte, 104)) {
		t.Errorf("% x", b)
	}
}

func TestP4_1ExampleOfTheChapter(t *testing.T) {
	b := mustFrame(t, "a", 3, 4, nil)
	if !bytes.Equal(b[18:124], make([]byte, 106)) || b[16] != 4 || b[17] != 0 {
		t.Errorf("% x", b)
	}
}

func TestP4_1FrameWrong(t *testing.T) {
	for _, c := range []struct {
		index, gen, size int
	}{
		{-1, 0, 0}, {math.MinInt, 0, 0}, {1 << 31, 0, 0}, {1 << 32, 0, 0}, {math.MaxInt, 0, 0},
		{0, -1, 0}, {0, math.MinInt, 0}, {0, api.MaxNumber + 1, 0}, {0, math.MaxInt, 0},
		{0, 0, api.Load + 1}, {0, 0, 255}, {0, 0, 256}, {0, 0, 1000},
	} {
		if b, e := Frame("x", c.index, c.gen, make([]byte, c.size)); len(b) != 0 || e != api.ErrArg {
			t.Errorf("Frame of %v = % x, %d", c, b, int(e))
		}
	}
}

func TestP4_2OpenKnown(t *testing.T) {
	b := plainFrame("x", 7, 9, 3, []byte("abc"))
	if p, gen, e := Open(b, "x", 7); e != api.OK || string(p) != "abc" || gen != 9 {
		t.Errorf("Open = %q, %d, %d", p, gen, int(e))
	}
	greatest := plainFrame("x", math.MaxInt32, api.MaxNumber, api.Load, rising(api.Load))
	if p, gen, e := Open(greatest, "x", math.MaxInt32); e != api.OK || !bytes.Equal(p, rising(api.Load)) || gen != api.MaxNumber {
		t.Errorf("Open = %q, %d, %d", p, gen, int(e))
	}
}

func TestP4_2AnotherFileOrNumber(t *testing.T) {
	b := mustFrame(t, "x.a", 1, 2, []byte("ab"))
	for _, name := range []string{"", "x", "x.b", "X.a", "x.a "} {
		wantBad(t, "name "+name, b, name, 1)
	}
	for _, index := range []int{-1, 0, 2, 1<<32 + 1, 1 - 1<<32, 1 << 31, math.MinInt, math.MaxInt} {
		wantBad(t, fmt.Sprint("number ", index), b, "x.a", index)
	}
}

func TestP4_2WrongSizes(t *testing.T) {
	b := mustFrame(t, "x", 0, 1, []byte("ab"))
	for n := range api.Size {
		wantBad(t, fmt.Sprint("size ", n), b[:n], "x", 0)
	}
	wantBad(t, "nil", nil, "x", 0)
	wantBad(t, "a byte more", append(bytes.Clone(b), 0), "x", 0)
	wantBad(t, "twice", append(bytes.Clone(b), b...), "x", 0)
	wantBad(t, "noughts", make([]byte, api.Size), "x", 0)
}

// Bytes with a sum that is right are still no extent, if Frame could not have made them.
func TestP4_2SumAloneIsNotEnough(t *testing.T) {
	for _, gen := range []uint64{api.MaxNumber + 1, math.MaxInt64, 1 << 63, math.MaxUint64} {
		wantBad(t, fmt.Sprint("generation ", gen), plainFrame("x", 0, gen, 2, []byte("ab")), "x", 0)
	}
	for _, length := range []byte{107, 110, 111, 128, 255} {
		wantBad(t, fmt.Sprint("length ", length), plainFrame("x", 0, 1, length, rising(api.Load)), "x", 0)
	}
	for _, number := range []uint32{1 << 31, math.MaxUint32} {
		wantBad(t, fmt.Sprint("number ", number), plainFrame("x", number, 1, 0, nil), "x", int(number))
		wantBad(t, fmt.Sprint("number ", int32(number)), plainFrame("x", number, 1, 0, nil), "x", int(int32(number)))
	}
	wantBad(t, "no noughts", plainFrame("x", 0, 1, 2, []byte("abc")), "x", 0)
	behind := plainFrame("x", 0, 1, 2, []byte("ab"))
	behind[123] = 1
	wantBad(t, "last byte ahead of the sum", summed(behind), "x", 0)
	mark := plainFrame("x", 0, 1, 2, []byte("ab"))
	mark[0] = 0xe4
	wantBad(t, "first byte", summed(mark), "x", 0)
	name := plainFrame("x", 0, 1, 2, []byte("ab"))
	name[4] ^= 1
	wantBad(t, "sum of the name", summed(name), "x", 0)
}

func TestP4_3OpenOfFrame(t *testing.T) {
	r := rand.New(rand.NewSource(43))
	for size := range api.Load + 1 {
		payload := make([]byte, size)
		r.Read(payload)
		name := strings.Repeat("n", r.Intn(30))
		index, gen := int(r.Int31()), r.Intn(api.MaxNumber+1)
		b := mustFrame(t, name, index, gen, payload)
		p, g, e := Open(b, name, index)
		if e != api.OK || !bytes.Equal(p, payload) || g != gen {
			t.Fatalf("size %d: Open = % x, %d, %d", size, p, g, int(e))
		}
	}
}

func TestP4_3PayloadThatEndsInNoughts(t *testing.T) {
	b := mustFrame(t, "x", 0, 0, make([]byte, 9))
	if p, _, e := Open(b, "x", 0); e != api.OK || len(p) != 9 {
		t.Errorf("Open = % x, %d", p, int(e))
	}
}

func TestP4_4EachByteTurned(t *testing.T) {
	for _, size := range []int{0, 1, 50, api.Load} {
		b := mustFrame(t, "file.a", 5, 1<<40, rising(size))
		for at := range b {
			for mask := 1; mask < 256; mask++ {
				b[at] ^= byte(mask)
				wantBad(t, fmt.Sprintf("byte %d ^ %02x", at, mask), b, "file.a", 5)
				b[at] ^= byte(mask)
			}
		}
	}
}

func TestArgumentsAreLeftAsTheyAre(t *testing.T) {
	room := append(rising(10), 91, 92, 93)
	b := mustFrame(t, "x", 1, 2, room[:10])
	if !bytes.Equal(room, append(rising(10), 91, 92, 93)) {
		t.Error("Frame changes its payload")
	}
	whole := append(bytes.Clone(b), 91, 92, 93)
	twin := bytes.Clone(whole)
	Open(whole[:api.Size], "x", 1)
	Open(whole, "x", 1)
	if !bytes.Equal(whole, twin) {
		t.Error("Open changes its bytes")
	}
}

func TestAnswersAreNewMemory(t *testing.T) {
	payload := rising(10)
	b := mustFrame(t, "x", 1, 2, payload)
	b[18] = 99
	if payload[0] != 1 {
		t.Error("Frame shares its payload")
	}
	again := mustFrame(t, "x", 1, 2, payload)
	p, _, _ := Open(again, "x", 1)
	p[0] = 99
	p = append(p, 98)
	if !bytes.Equal(again, plainFrame("x", 1, 2, 10, rising(10))) {
		t.Error("Open shares its bytes")
	}
}
