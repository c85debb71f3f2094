package bits

import (
	"bytes"
	"math"
	"math/rand"
	"strings"
	"testing"

	"dryrot/api"
)

// of is the bits that a text of 0 and 1 says; blanks are for the eye.
func of(text string) api.Bits {
	var x api.Bits
	for _, c := range strings.ReplaceAll(text, " ", "") {
		if x.N%8 == 0 {
			x.B = append(x.B, 0)
		}
		if c == '1' {
			x.B[x.N/8] |= 0x80 >> (x.N % 8)
		}
		x.N++
	}
	return x
}

func word(x api.Bits) string {
	var s strings.Builder
	for i := range x.N {
		s.WriteByte('0' + x.B[i/8]>>(7-i%8)&1)
	}
	return s.String()
}

func same(x, y api.Bits) bool { return x.N == y.N && bytes.Equal(x.B, y.B) }

func someBits(r *rand.Rand, n int) api.Bits {
	var s strings.Builder
	for range n {
		s.WriteByte('0' + byte(r.Intn(2)))
	}
	return of(s.String())
}

// wrongBits may not be, each for one reason.
func wrongBits() []api.Bits {
	return []api.Bits{
		{N: -1},
		{N: -1, B: []byte{0}},
		{N: -9},
		{N: -8, B: []byte{0}},
		{N: math.MinInt},
		{N: 1},
		{N: 8},
		{N: 9, B: []byte{0}},
		{N: math.MaxInt, B: []byte{0}},
		{N: math.MaxInt},
		{N: 0, B: []byte{0}},
		{N: 8, B: []byte{0, 0}},
		{N: 7, B: []byte{0, 0}},
		{N: 1, B: []byte{0x40}},
		{N: 7, B: []byte{1}},
		{N: 15, B: []byte{0xff, 0xff}},
	}
}

var edges = []int{0, 1, -1, 5, 63, 64, -64, -65, 2047, 2048, -2048, -2049, 1<<31 - 1, 1 << 31, -1 << 31, -1<<31 - 1, math.MaxInt, math.MinInt}

func TestCan(t *testing.T) {
	for _, x := range []api.Bits{{}, {B: []byte{}}, {N: 1, B: []byte{0x80}}, {N: 7, B: []byte{0xfe}}, {N: 8, B: []byte{0xff}}, {N: 9, B: []byte{0xff, 0x80}}} {
		if !Can(x) {
			t.Errorf("Can(%v) is false", x)
		}
	}
	for _, x := range wrongBits() {
		if Can(x) {
			t.Errorf("Can(%v) is true", x)
		}
	}
	for over := 1; over < 8; over++ {
		for c := range 256 {
			x := api.Bits{N: 8 + over, B: []byte{0xff, byte(c)}}
			if Can(x) != (byte(c)<<over == 0) {
				t.Errorf("Can(%v) is %v", x, Can(x))
			}
		}
	}
}

func TestP2_1PutKnown(t *testing.T) {
	for _, c := range []struct {
		ahead string
		n     uint64
		count int
		want  string
	}{
		{"", 0, 0, ""},
		{"1", math.MaxUint64, 0, "1"},
		{"", 1, 1, "1"},
		{"", 0b110, 2, "10"},
		{"101", 0b0110, 4, "101 0110"},
		{"1111111", 0b01, 2, "1111111 01"},
		{"11111111", 0, 3, "11111111 000"},
		{"000", math.MaxUint64, 64, "000" + strings.Repeat("1", 64)},
		{"", 1, 64, strings.Repeat("0", 63) + "1"},
		{"", 1 << 63, 64, "1" + strings.Repeat("0", 63)},
		{"", math.MaxUint64 &^ 31, 5, "00000"},
	} {
		if x, e := Put(of(c.ahead), c.n, c.count); e != api.OK || !same(x, of(c.want)) {
			t.Errorf("Put(%s, %x, %d) = %v, %v", c.ahead, c.n, c.count, word(x), e)
		}
	}
}

func TestP2_1PutWrong(t *testing.T) {
	for _, count := range []int{-1, 65, math.MinInt, math.MaxInt} {
		if x, e := Put(of("101"), 1, count); e != api.ErrArg || x.N != 0 || len(x.B) != 0 {
			t.Errorf("Put of count %d = %v, %v", count, x, e)
		}
	}
	for _, w := range wrongBits() {
		for _, count := range []int{-1, 0, 1, 64} {
			if x, e := Put(w, 1, count); e != api.ErrArg || x.N != 0 || len(x.B) != 0 {
				t.Errorf("Put(%v, 1, %d) = %v, %v", w, count, x, e)
			}
		}
	}
}

func TestP2_1TakeKnown(t *testing.T) {
	x := of("101 0110 11111111 00000001")
	for _, c := range []struct {
		at, count int
		want      uint64
	}{{0, 0, 0}, {0, 1, 1}, {1, 1, 0}, {0, 3, 5}, {3, 4, 6}, {6, 3, 3}, {0, 23, 0x56ff01}, {22, 1, 1}, {23, 0, 0}} {
		if n, e := Take(x, c.at, c.count); e != api.OK || n != c.want {
			t.Errorf("Take(%d, %d) = %x, %v, not %x", c.at, c.count, n, e, c.want)
		}
	}
	if n, e := Take(of("0"+strings.Repeat("1", 64)), 1, 64); e != api.OK || n != math.MaxUint64 {
		t.Errorf("Take of 64 = %x, %v", n, e)
	}
	if n, e := Take(api.Bits{}, 0, 0); e != api.OK || n != 0 {
		t.Errorf("Take of nothing = %x, %v", n, e)
	}
}

func TestP2_1TakeWrong(t *testing.T) {
	x := of("1111 1111 1")
	for _, c := range []struct {
		at, count int
		want      api.Errno
	}{
		{0, -1, api.ErrArg}, {0, 65, api.ErrArg}, {0, math.MinInt, api.ErrArg}, {0, math.MaxInt, api.ErrArg},
		{-1, 0, api.ErrArg}, {-1, 1, api.ErrArg}, {10, 0, api.ErrArg}, {10, 1, api.ErrArg}, {math.MinInt, 1, api.ErrArg}, {math.MaxInt, 64, api.ErrArg},
		{9, 65, api.ErrArg},
		{0, 10, api.ErrShort}, {0, 64, api.ErrShort}, {8, 2, api.ErrShort}, {9, 1, api.ErrShort}, {9, 64, api.ErrShort},
	} {
		if n, e := Take(x, c.at, c.count); e != c.want || n != 0 {
			t.Errorf("Take(%d, %d) = %x, %v, not %v", c.at, c.count, n, e, c.want)
		}
	}
	for _, w := range wrongBits() {
		if n, e := Take(w, 0, 0); e != api.ErrArg || n != 0 {
			t.Errorf("Take(%v, 0, 0) = %x, %v", w, n, e)
		}
		if n, e := Take(w, 0, 64); e != api.ErrArg || n != 0 {
			t.Errorf("Take(%v, 0, 64) = %x, %v", w, n, e)
		}
	}
}

func TestP2_2PutIntKnown(t *testing.T) {
	ones, noughts := strings.Repeat("1", 80), strings.Repeat("0", 80)
	for _, c := range []struct {
		n    int
		want string
	}{
		{0, "0"},
		{5, "10 0000101"}, {1, "10 0000001"}, {-1, "10 1111111"}, {63, "10 0111111"}, {-64, "10 1000000"},
		{64, "110 000001000000"}, {-65, "110 111110111111"}, {2047, "110 011111111111"}, {-2048, "110 100000000000"},
		{2048, "1110" + noughts[:20] + "100000000000"}, {-2049, "1110" + ones[:20] + "011111111111"},
		{1<<31 - 1, "1110 0" + ones[:31]}, {-1 << 31, "1110 1" + noughts[:31]},
		{1 << 31, "1111" + noughts[:32] + "1" + noughts[:31]}, {-1<<31 - 1, "1111" + ones[:32] + "0" + ones[:31]},
		{math.MaxInt, "1111 0" + ones[:63]}, {math.MinInt, "1111 1" + noughts[:63]},
	} {
		if x, e := PutInt(api.Bits{}, c.n); e != api.OK || !same(x, of(c.want)) {
			t.Errorf("PutInt(%d) = %v, %v, not %s", c.n, word(x), e, c.want)
		}
		if x, e := PutInt(of("011"), c.n); e != api.OK || !same(x, of("011"+c.want)) {
			t.Errorf("PutInt(011, %d) = %v, %v, not 011%s", c.n, word(x), e, c.want)
		}
		at := of(c.want).N
		if n, behind, e := TakeInt(of(c.want), 0); e != api.OK || n != c.n || behind != at {
			t.Errorf("TakeInt(%s) = %d, %d, %v", c.want, n, behind, e)
		}
		if n, behind, e := TakeInt(of("011"+c.want+"101"), 3); e != api.OK || n != c.n || behind != at+3 {
			t.Errorf("TakeInt(011%s101, 3) = %d, %d, %v", c.want, n, behind, e)
		}
	}
}

func TestP2_2WrongBitsAndPlaces(t *testing.T) {
	for _, w := range wrongBits() {
		if x, e := PutInt(w, 5); e != api.ErrArg || x.N != 0 || len(x.B) != 0 {
			t.Errorf("PutInt(%v, 5) = %v, %v", w, x, e)
		}
		if n, at, e := TakeInt(w, 0); e != api.ErrArg || n != 0 || at != 0 {
			t.Errorf("TakeInt(%v, 0) = %d, %d, %v", w, n, at, e)
		}
	}
	for _, at := range []int{-1, 10, math.MinInt, math.MaxInt} {
		if n, behind, e := TakeInt(of("10 0000101"), at); e != api.ErrArg || n != 0 || behind != 0 {
			t.Errorf("TakeInt at %d = %d, %d, %v", at, n, behind, e)
		}
	}
}

func TestP2_2TakeIntShort(t *testing.T) {
	for _, n := range edges {
		x, _ := PutInt(of("0"), n)
		for end := 1; end < x.N; end++ {
			cut := of(word(x)[:end])
			if m, at, e := TakeInt(cut, 1); e != api.ErrShort || m != 0 || at != 0 {
				t.Errorf("TakeInt of %d cut to %d bits = %d, %d, %v", n, end-1, m, at, e)
			}
		}
	}
	if _, _, e := TakeInt(api.Bits{}, 0); e != api.ErrShort {
		t.Errorf("TakeInt of nothing = %v", e)
	}
	// Too few bits, of what would be a lesser class: that they end is told first.
	if _, _, e := TakeInt(of("10 000000"), 0); e != api.ErrShort {
		t.Errorf("TakeInt of a short nought = %v", e)
	}
}

func TestP2_2TakeIntOfLesserClass(t *testing.T) {
	ranges := [][2]int{{0, 0}, {-64, 63}, {-2048, 2047}, {-1 << 31, 1<<31 - 1}, {math.MinInt, math.MaxInt}}
	marks := []string{"0", "10", "110", "1110", "1111"}
	widths := []int{0, 7, 12, 32, 64}
	for class := 1; class <= 4; class++ {
		for _, n := range edges {
			if n < ranges[class][0] || n > ranges[class][1] {
				continue
			}
			lesser := n >= ranges[class-1][0] && n <= ranges[class-1][1]
			x, _ := Put(of(marks[class]), uint64(n), widths[class])
			m, at, e := TakeInt(x, 0)
			if lesser && (e != api.ErrForm || m != 0 || at != 0) {
				t.Errorf("TakeInt of %d in class %d = %d, %d, %v, not ErrForm", n, class, m, at, e)
			}
			if !lesser && (e != api.OK || m != n || at != x.N) {
				t.Errorf("TakeInt of %d in class %d = %d, %d, %v", n, class, m, at, e)
			}
		}
	}
}

func TestP2_3PutIsTaken(t *testing.T) {
	r := rand.New(rand.NewSource(1))
	for range 2000 {
		ahead := someBits(r, r.Intn(40))
		n, count := r.Uint64(), r.Intn(65)
		x, e := Put(ahead, n, count)
		if e != api.OK || !Can(x) || x.N != ahead.N+count || word(x)[:ahead.N] != word(ahead) {
			t.Fatalf("Put(%s, %x, %d) = %v, %v", word(ahead), n, count, word(x), e)
		}
		want := n
		if count < 64 {
			want &= 1<<count - 1
		}
		if m, e := Take(x, ahead.N, count); e != api.OK || m != want {
			t.Fatalf("Take of Put(%x, %d) = %x, %v", n, count, m, e)
		}
	}
}

func TestP2_3PutIntIsTaken(t *testing.T) {
	r := rand.New(rand.NewSource(2))
	numbers := edges
	for range 2000 {
		numbers = append(numbers, int(r.Uint64())>>r.Intn(64))
	}
	for n := -2100; n <= 2100; n++ {
		numbers = append(numbers, n)
	}
	for _, n := range numbers {
		ahead := someBits(r, r.Intn(20))
		x, e := PutInt(ahead, n)
		if e != api.OK || !Can(x) || word(x)[:ahead.N] != word(ahead) {
			t.Fatalf("PutInt(%s, %d) = %v, %v", word(ahead), n, word(x), e)
		}
		if m, at, e := TakeInt(x, ahead.N); e != api.OK || m != n || at != x.N {
			t.Fatalf("TakeInt of PutInt(%d) = %d, %d, %v", n, m, at, e)
		}
	}
}

func TestP2_3NumbersBehindOneAnother(t *testing.T) {
	var x api.Bits
	for _, n := range edges {
		x, _ = PutInt(x, n)
	}
	at := 0
	for _, n := range edges {
		m, behind, e := TakeInt(x, at)
		if e != api.OK || m != n {
			t.Fatalf("TakeInt at %d = %d, %v, not %d", at, m, e, n)
		}
		at = behind
	}
	if at != x.N {
		t.Errorf("ended at %d of %d", at, x.N)
	}
}

func TestP2_4TakenIsPut(t *testing.T) {
	r := rand.New(rand.NewSource(3))
	for range 2000 {
		x := someBits(r, r.Intn(100))
		at := r.Intn(x.N + 1)
		count := r.Intn(min(64, x.N-at) + 1)
		n, e := Take(x, at, count)
		if e != api.OK {
			t.Fatalf("Take(%s, %d, %d): %v", word(x), at, count, e)
		}
		if y, _ := Put(api.Bits{}, n, count); word(y) != word(x)[at:at+count] {
			t.Fatalf("Put of Take(%s, %d, %d) = %s", word(x), at, count, word(y))
		}
	}
}

func TestP2_4TakenIntIsPut(t *testing.T) {
	r := rand.New(rand.NewSource(4))
	took := 0
	for range 5000 {
		x := someBits(r, 80)
		n, behind, e := TakeInt(x, 0)
		if e == api.ErrForm {
			continue
		}
		took++
		if y, _ := PutInt(api.Bits{}, n); e != api.OK || word(y) != word(x)[:behind] {
			t.Fatalf("PutInt of TakeInt(%s) = %s, %v", word(x), word(y), e)
		}
	}
	if took < 4000 {
		t.Errorf("only %d were taken", took)
	}
}

func TestArgumentsAreLeftAsTheyAre(t *testing.T) {
	room := bytes.Repeat([]byte{0xaa}, 32)
	x := api.Bits{B: room[4:6], N: 15}
	Put(x, math.MaxUint64, 64)
	PutInt(x, math.MinInt)
	Put(x, 1, 1)
	Take(x, 0, 15)
	TakeInt(x, 0)
	Can(x)
	if !bytes.Equal(room, bytes.Repeat([]byte{0xaa}, 32)) {
		t.Errorf("changed: % x", room)
	}
}

func TestAnswersAreNewMemory(t *testing.T) {
	x := of("1010")
	for _, put := range []func() (api.Bits, api.Errno){
		func() (api.Bits, api.Errno) { return Put(x, 0, 0) },
		func() (api.Bits, api.Errno) { return Put(x, 1, 1) },
		func() (api.Bits, api.Errno) { return PutInt(x, 0) },
	} {
		y, _ := put()
		clear(y.B[:cap(y.B)])
		if z, _ := put(); !same(x, of("1010")) || !Can(z) || word(z)[:4] != "1010" {
			t.Errorf("an answer shares memory: %s, %s", word(x), word(z))
		}
	}
}
