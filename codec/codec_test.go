package codec

import (
	"bytes"
	"fmt"
	"math"
	"math/rand"
	"slices"
	"strings"
	"testing"

	"dryrot/api"
)

// at is samples of these times, each with the value 9.
func at(times ...int) []api.Sample {
	var l []api.Sample
	for _, t := range times {
		l = append(l, api.Sample{T: t, V: 9})
	}
	return l
}

// of is samples of these values, at the times 0, 1, 2 ..
func of(values ...uint64) []api.Sample {
	var l []api.Sample
	for t, v := range values {
		l = append(l, api.Sample{T: t, V: v})
	}
	return l
}

func even(n int) []api.Sample { return of(make([]uint64, n)...) }

// packed is the bytes of so many samples that a text of 0 and 1 says; blanks are for the eye.
func packed(count int, text string) []byte {
	b := []byte{byte(count >> 8), byte(count)}
	n := 0
	for _, c := range strings.ReplaceAll(text, " ", "") {
		if n%8 == 0 {
			b = append(b, 0)
		}
		if c == '1' {
			b[len(b)-1] |= 0x80 >> (n % 8)
		}
		n++
	}
	return b
}

// lowest is the lowest bits of a word, as a text.
func lowest(word uint64, count int) string { return fmt.Sprintf("%064b", word)[64-count:] }

func plainInt(n int) string {
	switch {
	case n == 0:
		return "0"
	case n >= -64 && n < 64:
		return "10" + lowest(uint64(n), 7)
	case n >= -2048 && n < 2048:
		return "110" + lowest(uint64(n), 12)
	case n >= math.MinInt32 && n <= math.MaxInt32:
		return "1110" + lowest(uint64(n), 32)
	}
	return "1111" + lowest(uint64(n), 64)
}

func plainTurned(turned uint64) string {
	if turned == 0 {
		return "0"
	}
	word := lowest(turned, 64)
	high := strings.Index(word, "1")
	bits := strings.Trim(word, "0")
	return "1" + lowest(uint64(high), 6) + lowest(uint64(len(bits)-1), 6) + bits
}

// plainText is samples as a text of 0 and 1, whether they may be or not.
func plainText(l []api.Sample) string {
	var text strings.Builder
	for i, s := range l {
		switch i {
		case 0:
			text.WriteString(lowest(uint64(s.T), 64) + lowest(s.V, 64))
		case 1:
			text.WriteString(plainInt(s.T-l[0].T) + plainTurned(s.V^l[0].V))
		default:
			text.WriteString(plainInt((s.T-l[i-1].T)-(l[i-1].T-l[i-2].T)) + plainTurned(s.V^l[i-1].V))
		}
	}
	return text.String()
}

func plainBytes(l []api.Sample) []byte { return packed(len(l), plainText(l)) }

// someTime is above a time, near it or far.
func someTime(r *rand.Rand, above int) int {
	room := uint64(math.MaxInt) - uint64(above)
	return int(uint64(above) + 1 + r.Uint64()>>r.Intn(64)%room)
}

// someSamples is up to most samples that may be, with steps and values of all sizes.
func someSamples(r *rand.Rand, most int) []api.Sample {
	var l []api.Sample
	s := api.Sample{T: int(r.Uint64()) >> r.Intn(64), V: r.Uint64()}
	step := 1 + r.Intn(100)
	for range r.Intn(most + 1) {
		l = append(l, s)
		if s.T == math.MaxInt {
			break
		}
		if r.Intn(3) > 0 && s.T < math.MaxInt-step {
			s.T += step
		} else {
			s.T = someTime(r, s.T)
		}
		if r.Intn(3) > 0 {
			s.V ^= r.Uint64() >> r.Intn(64) << r.Intn(64)
		}
	}
	return l
}

// rightLists is samples that may be, the edges among them.
func rightLists() [][]api.Sample {
	l := [][]api.Sample{
		nil, {}, at(0), at(math.MinInt), at(math.MaxInt), at(math.MinInt, math.MaxInt), at(-1, 0), at(-1, 0, 1), at(math.MinInt, -1, 0, 1, math.MaxInt), at(math.MinInt, math.MinInt+1, math.MaxInt-1, math.MaxInt),
		{{T: -5, V: math.MaxUint64}}, {{T: 1, V: 5}, {T: 3, V: 5}, {T: 5, V: 7}, {T: 1 << 62, V: 1 << 63}, {T: math.MaxInt, V: 0}},
		of(0, math.MaxUint64, 0, 1, 1<<63, 1<<63|1, 1<<32, 0, 0), even(2), even(3), even(20), even(21), even(255), even(256), even(257), even(65534), even(65535),
	}
	for _, n := range []int{1, 63, 64, 65, 66, 2047, 2048, 2049, 1<<31 - 1, 1 << 31, 1<<31 + 1, 1 << 62, math.MaxInt} {
		l = append(l, at(0, n), at(-n, 0), at(math.MinInt, math.MinInt+n))
		if n < 1<<61 {
			l = append(l, at(0, 5000000000, 2*5000000000+n), at(0, n+1, n+2), at(0, n, 2*n, 3*n))
		}
	}
	for high := range 64 {
		l = append(l, of(0, 1<<high), of(1<<high, 0, math.MaxUint64>>high), of(7, 7^math.MaxUint64<<high, 7))
	}
	return l
}

// wrongLists is samples that may not be.
func wrongLists() [][]api.Sample {
	broken := even(1000)
	broken[999].T = 998
	return [][]api.Sample{
		at(1, 1), at(2, 1), at(0, 0), at(math.MaxInt, math.MinInt), at(math.MinInt, math.MinInt), at(math.MaxInt, math.MaxInt), at(0, -1), at(1, 2, 2), at(1, 2, 1), at(1, 1, 2), at(2, 1, 3), at(0, 1, 2, 3, 3),
		make([]api.Sample, 2), even(65536), even(65537), even(200000), make([]api.Sample, 70000), broken,
	}
}

func brief(l []api.Sample) string { return fmt.Sprintf("%d samples %.160s", len(l), fmt.Sprint(l)) }

func TestP11_1Can(t *testing.T) {
	for _, l := range rightLists() {
		if !Can(l) {
			t.Errorf("Can(%s) = false", brief(l))
		}
	}
	for _, l := range wrongLists() {
		if Can(l) {
			t.Errorf("Can(%s) = true", brief(l))
		}
	}
}

func TestP11_1CanOfEachThree(t *testing.T) {
	times := []int{math.MinInt, math.MinInt + 1, -1, 0, 1, math.MaxInt - 1, math.MaxInt}
	for _, a := range times {
		for _, b := range times {
			for _, c := range times {
				if Can(at(a, b, c)) != (a < b && b < c) {
					t.Errorf("Can of %d, %d, %d = %v", a, b, c, !(a < b && b < c))
				}
			}
		}
	}
}

func TestP11_1ExampleOfTheChapter(t *testing.T) {
	for _, l := range [][]api.Sample{nil, {}} {
		if b, e := Encode(l); !bytes.Equal(b, []byte{0, 0}) || e != api.OK {
			t.Errorf("Encode of none = % x, %d", b, int(e))
		}
	}
}

func TestP11_1BytesWrittenOut(t *testing.T) {
	first := lowest(1, 64) + lowest(5, 64)
	for _, c := range []struct {
		l    []api.Sample
		want []byte
	}{
		{[]api.Sample{{T: -2, V: 258}}, []byte{0, 1, 255, 255, 255, 255, 255, 255, 255, 254, 0, 0, 0, 0, 0, 0, 1, 2}},
		{[]api.Sample{{T: 1, V: 5}, {T: 3, V: 5}}, packed(2, first+"10 0000010 0")},
		{[]api.Sample{{T: 1, V: 5}, {T: 3, V: 7}}, packed(2, first+"10 0000010 1 111110 000000 1")},
		{[]api.Sample{{T: 1, V: 5}, {T: 3, V: 5}, {T: 5, V: 5 ^ 0b101000}}, packed(3, first+"10 0000010 0 0 1 111010 000010 101")},
		{[]api.Sample{{T: 1, V: 5}, {T: 3, V: 5}, {T: 4, V: 5 ^ 1<<63}}, packed(3, first+"10 0000010 0 10 1111111 1 000000 000000 1")},
		{[]api.Sample{{T: 1, V: 5}, {T: 3, V: 5}, {T: 105, V: ^uint64(5)}}, packed(3, first+"10 0000010 0 110 000001100100 1 000000 111111"+strings.Repeat("1", 64))},
		{[]api.Sample{{T: 1, V: 5}, {T: math.MaxInt, V: 4}}, packed(2, first+"1111 0"+strings.Repeat("1", 62)+"0 1 111111 000000 1")},
		{at(math.MinInt, math.MaxInt), packed(2, lowest(1<<63, 64)+lowest(9, 64)+"10 1111111 0")},
		{at(math.MinInt, -1, 0), packed(3, lowest(1<<63, 64)+lowest(9, 64)+"1111 0"+strings.Repeat("1", 63)+"0 1111 1"+strings.Repeat("0", 61)+"10 0")},
	} {
		if b, e := Encode(c.l); !bytes.Equal(b, c.want) || e != api.OK {
			t.Errorf("Encode(%s) = % x, %d, not % x", brief(c.l), b, int(e), c.want)
		}
	}
}

func TestP11_1EncodeOfWhatMayBe(t *testing.T) {
	r := rand.New(rand.NewSource(111))
	lists := rightLists()
	for range 2000 {
		lists = append(lists, someSamples(r, 40))
	}
	for _, l := range lists {
		if b, e := Encode(l); !bytes.Equal(b, plainBytes(l)) || e != api.OK {
			t.Fatalf("Encode(%s) = %.200x, %d", brief(l), b, int(e))
		}
	}
}

func TestP11_1EncodeOfWhatMayNotBe(t *testing.T) {
	for _, l := range wrongLists() {
		if b, e := Encode(l); len(b) != 0 || e != api.ErrArg {
			t.Errorf("Encode(%s) = %.80x, %d", brief(l), b, int(e))
		}
	}
}

func wantNone(t *testing.T, b []byte) {
	t.Helper()
	if l, e := Decode(b); len(l) != 0 || e != api.ErrForm {
		t.Errorf("Decode(%.200x) = %s, %d", b, brief(l), int(e))
	}
}

func TestP11_2DecodeOfTooFew(t *testing.T) {
	wantNone(t, nil)
	wantNone(t, []byte{})
	wantNone(t, []byte{0})
	wantNone(t, []byte{255, 255})
	for _, l := range rightLists() {
		b := plainBytes(l)
		for n := 0; n < len(b); n += 1 + len(b)/100 {
			wantNone(t, b[:n])
		}
		wantNone(t, b[:len(b)-1])
	}
}

func TestP11_2DecodeOfTooMany(t *testing.T) {
	for _, l := range rightLists() {
		b := plainBytes(l)
		for _, more := range [][]byte{{0}, {1}, {128}, {255}, {0, 0}, b, make([]byte, 1000)} {
			wantNone(t, slices.Concat(b, more))
		}
	}
	wantNone(t, make([]byte, 1<<24))
}

func TestP11_2DecodeOfAnotherCount(t *testing.T) {
	for _, l := range [][]api.Sample{at(1, 2, 3), at(5), of(1, 2, 3, 4, 5, 6, 7), even(20), even(65535)} {
		b := plainBytes(l)
		for _, count := range []int{0, 1, 2, 19, 21, 255, 256, 65534, 65535} {
			if count/8 == len(l)/8 { // two bits each may be the noughts behind the last one
				continue
			}
			b[0], b[1] = byte(count>>8), byte(count)
			wantNone(t, b)
		}
	}
}

// Each has all but one thing in the form that Encode gives it.
func TestP11_2DecodeOfOtherForms(t *testing.T) {
	first := lowest(1, 64) + lowest(5, 64)
	right := []struct {
		count int
		text  string
	}{
		{2, "10 0000001 0"}, {2, "10 0000001 1 111110 000000 1"}, {2, "10 0000001 1 111011 000100 10101"}, {3, "10 0000001 0 0 0"},
	}
	for _, c := range right {
		if l, e := Decode(packed(c.count, first+c.text)); len(l) != c.count || e != api.OK {
			t.Errorf("Decode(%s) = %s, %d", c.text, brief(l), int(e))
		}
	}
	for _, c := range []struct {
		why   string
		count int
		text  string
	}{
		{"a step in a greater class", 2, "110 000000000001 0"},
		{"a step in the greatest class", 2, "1111" + lowest(1, 64) + "0"},
		{"a step of a nought in a greater class", 3, "10 0000001 0 10 0000000 0"},
		{"a time as before", 2, "0 0"},
		{"a time that falls", 2, "10 1111111 0"},
		{"a third time as before", 3, "10 0000001 0 10 1111111 0"},
		{"a third time that falls", 3, "10 0000001 0 10 1000000 0"},
		{"a highest bit that is not set", 2, "10 0000001 1 111101 000001 01"},
		{"a lowest bit that is not set", 2, "10 0000001 1 111100 000001 10"},
		{"neither", 2, "10 0000001 1 111100 000010 010"},
		{"one bit that is not set", 2, "10 0000001 1 111110 000000 0"},
		{"all bits not set", 2, "10 0000001 1 000000 111111" + lowest(0, 64)},
		{"too many bits", 2, "10 0000001 1 111111 000001 11"},
		{"far too many bits", 2, "10 0000001 1 111111 111111" + strings.Repeat("1", 64)},
		{"just one too many", 2, "10 0000001 1 000001 111111" + strings.Repeat("1", 64)},
		{"a one behind the last bit", 2, "10 0000001 0 1"},
		{"a one at the end of the last byte", 2, "10 0000001 0 000001"},
		{"a byte more", 2, "10 0000001 0 000000 00000000"},
		{"a step that ends too early", 2, "1110 0001"},
		{"a value that ends too early", 2, "10 0000001 1 1111"},
		{"no step", 6, "10 0000001 0 00 00 00"},
		{"no value", 4, "10 0000001 0 00 1110" + lowest(5000, 32)},
	} {
		if l, e := Decode(packed(c.count, first+c.text)); len(l) != 0 || e != api.ErrForm {
			t.Errorf("%s: Decode = %s, %d", c.why, brief(l), int(e))
		}
	}
}

// What Decode takes is the bytes of what it answers, whatever bit is turned, or byte missing or doubled.
func TestP11_2DecodeOfTurnedBytes(t *testing.T) {
	r := rand.New(rand.NewSource(112))
	took := 0
	for range 3000 {
		b := plainBytes(someSamples(r, 12))
		for range 60 {
			place, twin := r.Intn(len(b)), bytes.Clone(b)
			switch r.Intn(4) {
			case 0:
				twin[place] = byte(r.Intn(256))
			case 1:
				twin = slices.Delete(twin, place, place+1)
			case 2:
				twin = slices.Insert(twin, place, byte(r.Intn(4)))
			case 3:
				twin[place] ^= 1 << r.Intn(8)
			}
			l, e := Decode(twin)
			if e == api.ErrForm && len(l) == 0 {
				continue
			}
			took++
			if e != api.OK || !Can(l) || !bytes.Equal(plainBytes(l), twin) {
				t.Fatalf("Decode(%x) = %s, %d", twin, brief(l), int(e))
			}
		}
	}
	if took < 1000 {
		t.Errorf("only %d were taken", took)
	}
}

// Behind a first sample all texts of up to sixteen bits are tried.
func TestP11_2DecodeOfAllShortTails(t *testing.T) {
	ahead := plainBytes(at(0))[2:]
	for count := 1; count <= 4; count++ {
		for tail := range 1 << 16 {
			b := slices.Concat([]byte{0, byte(count)}, ahead, []byte{byte(tail >> 8), byte(tail)})
			for _, c := range [][]byte{b, b[:len(b)-1]} {
				l, e := Decode(c)
				if e == api.ErrForm && len(l) == 0 {
					continue
				}
				if e != api.OK || !Can(l) || !bytes.Equal(plainBytes(l), c) {
					t.Fatalf("Decode(%x) = %s, %d", c, brief(l), int(e))
				}
			}
		}
	}
}

func TestP11_3ThereAndBack(t *testing.T) {
	r := rand.New(rand.NewSource(113))
	lists := rightLists()
	for range 3000 {
		lists = append(lists, someSamples(r, 60))
	}
	lists = append(lists, someSamples(r, 65535))
	for _, l := range lists {
		b, e := Encode(l)
		if back, f := Decode(b); e != api.OK || f != api.OK || !slices.Equal(back, l) {
			t.Fatalf("Decode of Encode(%s) = %s, %d, %d", brief(l), brief(back), int(e), int(f))
		}
	}
}

// The most samples there are, each as long as can be, are written and read without copying all of them for each.
func TestP11_3ThereAndBackOfTheLongest(t *testing.T) {
	l := make([]api.Sample, 65535)
	for i := range l {
		l[i] = api.Sample{T: (i - 32768) << 47, V: uint64(i%2) * math.MaxUint64}
		if i%2 == 1 {
			l[i].T += 1 << 46
		}
	}
	b, e := Encode(l)
	if want := 2 + (128+65534*(68+1+6+6+64)+7)/8; e != api.OK || len(b) != want {
		t.Fatalf("Encode = %d bytes, %d, not %d", len(b), int(e), want)
	}
	if back, e := Decode(b); e != api.OK || !slices.Equal(back, l) {
		t.Errorf("Decode of Encode = %s, %d", brief(back), int(e))
	}
}

func TestP11_4SamplesThatStandEvenly(t *testing.T) {
	for _, step := range []int{1, 2, 63, 64, 1000, 1 << 20, 1 << 40} {
		for _, from := range []int{0, -7, math.MinInt} {
			l := []api.Sample{{T: from, V: 1 << 40}, {T: from + step, V: 1 << 40}}
			two := len(plainText(l))
			for n := 3; n < 300; n++ {
				l = append(l, api.Sample{T: from + (n-1)*step, V: 1 << 40})
				b, e := Encode(l)
				if want := 2 + (two+2*(n-2)+7)/8; e != api.OK || len(b) != want {
					t.Fatalf("%d samples, step %d: %d bytes, %d, not %d", n, step, len(b), int(e), want)
				}
			}
		}
	}
}

func TestArgumentsAreLeftAsTheyAre(t *testing.T) {
	room := even(40)
	Can(room[:20])
	Encode(room[:20])
	if !slices.Equal(room, even(40)) {
		t.Errorf("changed: %v", room)
	}
	b := append(plainBytes(even(20)), 7, 8, 9)
	whole := bytes.Clone(b)
	for n := range len(b) + 1 {
		Decode(b[:n])
	}
	if !bytes.Equal(b, whole) {
		t.Errorf("changed: % x", b)
	}
}

func TestAnswersAreNewMemory(t *testing.T) {
	for _, l := range [][]api.Sample{nil, at(1), at(1, 2, 3), of(1, 2, 3)} {
		given := slices.Clone(l)
		b, _ := Encode(given)
		back, _ := Decode(b)
		clear(b[:cap(b)])
		clear(given)
		if !slices.Equal(back, l) {
			t.Errorf("Decode keeps its bytes: %v", back)
		}
		clear(back[:cap(back)])
		again, _ := Encode(l)
		if other, _ := Decode(again); !bytes.Equal(again, plainBytes(l)) || !slices.Equal(other, l) {
			t.Errorf("two answers share memory: % x, %v", again, other)
		}
	}
}
