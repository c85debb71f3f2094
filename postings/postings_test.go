package postings

import (
	"bytes"
	"encoding/binary"
	"fmt"
	"math"
	"math/rand"
	"slices"
	"testing"

	"dryrot/api"
)

// brief is the beginning of a thing's words, since some are long.
func brief(x any) string { return fmt.Sprintf("%.300s", fmt.Sprintf("%v", x)) }

// every is n numbers from one on, each a step behind the one ahead.
func every(from, step, n int) []int {
	l := make([]int, n)
	for i := range l {
		l[i] = from + i*step
	}
	return l
}

// short is a short number: the bytes that the library's packages write are the same.
func short(n int) []byte { return binary.AppendUvarint(nil, uint64(n)) }

// shorts is short numbers, one behind the other.
func shorts(l ...int) []byte {
	var b []byte
	for _, n := range l {
		b = append(b, short(n)...)
	}
	return b
}

// plainBytes is what the chapter says of numbers that may be packed, told once more.
func plainBytes(l []int) []byte {
	b := short(len(l))
	var bodies []byte
	for i := 0; i < len(l); i += 8 {
		var body []byte
		for j := i + 1; j < min(i+8, len(l)); j++ {
			body = append(body, short(l[j]-l[j-1]-1)...)
		}
		first := l[i]
		if i > 0 {
			first -= l[i-8]
		}
		b = append(b, shorts(first, len(body))...)
		bodies = append(bodies, body...)
	}
	return append(b, bodies...)
}

// plainShort is the short number at the beginning of bytes, and what stands behind it; false, if a byte is missing, or one too many.
func plainShort(b []byte) (int, []byte, bool) {
	n, size := binary.Uvarint(b)
	if size <= 0 || size > 1 && b[size-1] == 0 || n > 1<<40 {
		return 0, nil, false
	}
	return int(n), b[size:], true
}

// plainBody is the numbers of a body of a block, whose first number is known; false, if it is no such body.
func plainBody(body []byte, first, count int) ([]int, bool) {
	l := []int{first}
	for len(l) < count {
		n, rest, ok := plainShort(body)
		if !ok {
			return nil, false
		}
		l, body = append(l, l[len(l)-1]+1+n), rest
	}
	return l, len(body) == 0
}

// plainUnpack reads bytes by the chapter's words, and looks at each of them; it packs nothing.
func plainUnpack(b []byte) ([]int, bool) {
	count, b, ok := plainShort(b)
	if !ok || count > 100000 {
		return nil, false
	}
	var firsts, sizes []int
	first := 0
	for range (count + 7) / 8 {
		n, rest, ok := plainShort(b)
		if !ok {
			return nil, false
		}
		size, rest, ok := plainShort(rest)
		if !ok {
			return nil, false
		}
		first += n
		firsts, sizes, b = append(firsts, first), append(sizes, size), rest
	}
	var l []int
	for i, first := range firsts {
		if sizes[i] > len(b) || len(l) > 0 && l[len(l)-1] >= first {
			return nil, false
		}
		block, ok := plainBody(b[:sizes[i]], first, min(8, count-len(l)))
		if !ok {
			return nil, false
		}
		l, b = append(l, block...), b[sizes[i]:]
	}
	return l, len(b) == 0 && (count == 0 || l[count-1] <= math.MaxInt32)
}

// rightLists is numbers that may be packed, the edges among them.
func rightLists() [][]int {
	lists := [][]int{nil, {}, {0}, {1}, {127}, {128}, {16383}, {16384}, {2097151}, {2097152}, {268435455}, {268435456}, {math.MaxInt32}, {0, math.MaxInt32}, {math.MaxInt32 - 1, math.MaxInt32}}
	for _, n := range []int{7, 8, 9, 15, 16, 17, 24, 25, 100} {
		lists = append(lists, every(0, 1, n), every(5, 128, n), every(100, 129, n), every(math.MaxInt32-3*(n-1), 3, n))
	}
	for _, gap := range []int{1, 127, 128, 129, 130, 16384, 16385, 16386} { // less 1 in a body, as it is from block to block
		lists = append(lists, []int{3, 3 + gap}, append(every(0, 1, 8), 7+gap))
	}
	return append(lists, every(0, 21000, 100000), every(math.MaxInt32-99999, 1, 100000))
}

// wrongLists is numbers that may not be packed.
func wrongLists() [][]int {
	lists := [][]int{{-1}, {math.MinInt}, {-1, 5}, {math.MaxInt32 + 1}, {math.MaxInt}, {1 << 32}, {5, math.MaxInt32 + 1}, {3, 3}, {0, 0}, {4, 3}, {math.MaxInt32, 0}, {1, 2, 2, 3}, {1, 3, 2}, {math.MinInt, math.MaxInt}, {5, -5}}
	for _, at := range []int{1, 7, 8, 9, 15, 16} {
		l := every(1, 3, 20)
		l[at] = l[at-1]
		lists = append(lists, l)
	}
	return append(lists, every(0, 1, 100001), every(0, 1, 200000), append(every(0, 1, 50000), 7))
}

// someNumbers is numbers that may be packed, n of them at most, near one another or not.
func someNumbers(r *rand.Rand, n int) []int {
	width := []int{3, 40, 300, 40000, 5000000}[r.Intn(5)]
	var l []int
	at := r.Intn(width)
	for range r.Intn(n + 1) {
		if at > math.MaxInt32 {
			break
		}
		l = append(l, at)
		at += 1 + r.Intn(width)
	}
	return l
}

func TestExampleOfTheChapter(t *testing.T) {
	b, e := Pack([]int{5, 6, 300})
	if e != api.OK || !bytes.Equal(b, []byte{3, 5, 3, 0, 0xa5, 2}) {
		t.Errorf("% x, %v", b, e)
	}
	if l, e := Unpack([]byte{3, 5, 3, 0, 0xa5, 2}); e != api.OK || !slices.Equal(l, []int{5, 6, 300}) {
		t.Error(l, e)
	}
}

func TestP25_1BytesWrittenOut(t *testing.T) {
	for _, c := range []struct {
		l    []int
		want []byte
	}{
		{nil, []byte{0}},
		{[]int{0}, []byte{1, 0, 0}},
		{[]int{127}, []byte{1, 127, 0}},
		{[]int{128}, []byte{1, 0x80, 1, 0}},
		{[]int{math.MaxInt32}, []byte{1, 0xff, 0xff, 0xff, 0xff, 7, 0}},
		{[]int{0, math.MaxInt32}, []byte{2, 0, 5, 0xfe, 0xff, 0xff, 0xff, 7}},
		{every(0, 1, 8), []byte{8, 0, 7, 0, 0, 0, 0, 0, 0, 0}},
		{every(0, 1, 9), []byte{9, 0, 7, 8, 0, 0, 0, 0, 0, 0, 0, 0}},
		{every(10, 2, 10), []byte{10, 10, 7, 16, 1, 1, 1, 1, 1, 1, 1, 1, 1}},
		{every(200, 200, 9), []byte{9, 0xc8, 1, 14, 0xc0, 12, 0, 0xc7, 1, 0xc7, 1, 0xc7, 1, 0xc7, 1, 0xc7, 1, 0xc7, 1, 0xc7, 1}},
		{every(3, 1, 17), []byte{17, 3, 7, 8, 7, 8, 0, 0, 0, 0, 0, 0, 0, 0, 0, 0, 0, 0, 0, 0, 0}},
	} {
		if b, e := Pack(c.l); e != api.OK || !bytes.Equal(b, c.want) {
			t.Errorf("Pack(%v) is % x, %v; want % x", c.l, b, e, c.want)
		}
		if l, e := Unpack(c.want); e != api.OK || !slices.Equal(l, c.l) {
			t.Errorf("Unpack(% x) is %v, %v; want %v", c.want, l, e, c.l)
		}
	}
}

func TestP25_1PackOfWhatMayBe(t *testing.T) {
	for _, l := range rightLists() {
		if b, e := Pack(l); e != api.OK || !bytes.Equal(b, plainBytes(l)) {
			t.Errorf("Pack(%s) is %s, %v", brief(l), brief(b), e)
		}
	}
}

func TestP25_1PackOfWhatMayNotBe(t *testing.T) {
	for _, l := range wrongLists() {
		if b, e := Pack(l); e != api.ErrArg || b != nil {
			t.Errorf("Pack(%s) is %s, %v", brief(l), brief(b), e)
		}
	}
}

// wantUnpacked holds what bytes are read as against the plain reading of the chapter.
func wantUnpacked(t *testing.T, b []byte) {
	t.Helper()
	want, ok := plainUnpack(b)
	l, e := Unpack(b)
	if ok && (e != api.OK || !slices.Equal(l, want)) || !ok && (e != api.ErrForm || l != nil) {
		t.Errorf("Unpack(%s) is %s, %v; want %s, %v", brief(b), brief(l), e, brief(want), ok)
	}
}

func TestP25_1UnpackOfFewBytes(t *testing.T) {
	letters := []byte{0, 1, 2, 7, 0x80, 0x81}
	var go6 func(b []byte)
	go6 = func(b []byte) {
		wantUnpacked(t, b)
		if len(b) == 6 {
			return
		}
		for _, c := range letters {
			go6(append(b[:len(b):len(b)], c))
		}
	}
	go6(nil)
}

func TestP25_1UnpackOfTooFewAndTooMany(t *testing.T) {
	for _, l := range rightLists() {
		if len(l) > 1000 {
			continue
		}
		b := plainBytes(l)
		for n := range b {
			wantUnpacked(t, b[:n])
			if _, e := Unpack(b[:n]); e != api.ErrForm {
				t.Errorf("Unpack(% x) takes too few bytes", b[:n])
			}
		}
		for _, more := range []byte{0, 1, 0x80, 0xff} {
			if _, e := Unpack(append(b[:len(b):len(b)], more)); e != api.ErrForm {
				t.Errorf("Unpack(% x) takes a byte more", b)
			}
		}
	}
}

func wantNoNumbers(t *testing.T, why string, b []byte) {
	t.Helper()
	if l, e := Unpack(b); e != api.ErrForm || l != nil {
		t.Errorf("%s: %s is %s, %v", why, brief(b), brief(l), e)
	}
}

func TestP25_1UnpackOfOtherForms(t *testing.T) {
	for _, c := range []struct {
		why string
		b   []byte
	}{
		{"none at all", nil},
		{"a count with a byte more than needed", []byte{0x80, 0}},
		{"a count with five bytes more than needed", []byte{0x81, 0x80, 0x80, 0x80, 0x80, 0, 5, 0}},
		{"a first number with a byte more than needed", []byte{1, 0x85, 0, 0}},
		{"a length with a byte more than needed", []byte{1, 5, 0x80, 0}},
		{"a number in a body with a byte more than needed, the length right", []byte{2, 5, 2, 0x80, 0}},
		{"a length too small", []byte{2, 5, 0, 0}},
		{"a length too great", []byte{2, 5, 2, 0}},
		{"a huge length", shorts(2, 5, math.MaxInt, 0)},
		{"lengths that are right together alone", append(shorts(9, 0, 6, 8, 1), make([]byte, 7)...)},
		{"a block that begins at the last number of the one ahead", append(shorts(9, 0, 7, 7, 0), make([]byte, 7)...)},
		{"a block that begins ahead of the last number of the one ahead", append(shorts(9, 0, 7, 3, 0), make([]byte, 7)...)},
		{"a block that begins where the one ahead does", append(shorts(9, 0, 7, 0, 0), make([]byte, 7)...)},
		{"a first number beyond the greatest", shorts(1, math.MaxInt32+1, 0)},
		{"a first number of ten bytes", shorts(1, math.MinInt, 0)},
		{"a first number that is far beyond", append([]byte{1}, 0xff, 0xff, 0xff, 0xff, 0xff, 0xff, 0xff, 0xff, 0xff, 0xff, 0xff, 1, 0)},
		{"a number in a body beyond the greatest", shorts(2, 1, 5, math.MaxInt32-1)},
		{"a second block beyond the greatest", append(shorts(9, 1, 7, math.MaxInt32, 0), make([]byte, 7)...)},
		{"a number that would wrap round", append(shorts(2, 5, 10), 0xff, 0xff, 0xff, 0xff, 0xff, 0xff, 0xff, 0xff, 0xff, 1)},
		{"one more than there may be", plainBytes(every(0, 1, 100001))},
		{"a count beyond the bytes", shorts(100000, 5, 0)},
		{"a huge count", shorts(math.MaxInt, 5, 0)},
		{"a count of ten bytes", shorts(math.MinInt)},
		{"a count without an end", bytes.Repeat([]byte{0x80}, 1<<20)},
		{"zeros alone", append(short(100000), make([]byte, 1<<20)...)},
	} {
		wantNoNumbers(t, c.why, c.b)
		wantUnpacked(t, c.b)
	}
}

func TestP25_1UnpackOfTurnedBytes(t *testing.T) {
	r := rand.New(rand.NewSource(1))
	for range 400 {
		b := plainBytes(someNumbers(r, 30))
		for at := range b {
			for bit := range 8 {
				b[at] ^= 1 << bit
				wantUnpacked(t, b)
				b[at] ^= 1 << bit
			}
		}
		for range 20 {
			other := bytes.Clone(b)
			for range 1 + r.Intn(3) {
				other[r.Intn(len(other))] = byte(r.Intn(256))
			}
			wantUnpacked(t, other)
		}
	}
}

func TestP25_3ThereAndBack(t *testing.T) {
	r := rand.New(rand.NewSource(2))
	lists := rightLists()
	for range 2000 {
		lists = append(lists, someNumbers(r, 60))
	}
	for _, l := range lists {
		b, e := Pack(l)
		if e != api.OK {
			t.Fatalf("Pack(%s): %v", brief(l), e)
		}
		if back, e := Unpack(b); e != api.OK || !slices.Equal(back, l) {
			t.Errorf("Unpack of Pack of %s is %s, %v", brief(l), brief(back), e)
		}
	}
}

func TestArgumentsAreLeftAsTheyAre(t *testing.T) {
	l := every(3, 50, 40)
	twin := slices.Clone(l)
	for n := range len(l) + 1 {
		Pack(l[:n])
	}
	if !slices.Equal(l, twin) {
		t.Errorf("Pack changes %v", l)
	}
	b := append(plainBytes(l), 7, 8, 9)
	whole := bytes.Clone(b)
	kids := make([]api.Set, 3, 6)
	for n := range len(b) + 1 {
		Unpack(b[:n])
		for i := range kids[:6] {
			kids[:6][i] = api.Set{Kind: api.SetList, Packed: b[:n]}
		}
		for _, kind := range []int{api.SetList, api.SetAnd, api.SetOr, api.SetNot} {
			s := api.Set{Kind: kind, Packed: b[:n], Kids: kids}
			Can(s)
			if c, e := Open(s); e == api.OK {
				c.Seek(100)
				c.All()
			}
		}
	}
	for _, kid := range kids[:6] {
		if kid.Kind != api.SetList || len(kid.Packed) != len(b) || kid.Kids != nil {
			t.Errorf("a kid is %v", kid)
		}
	}
	if !bytes.Equal(b, whole) {
		t.Errorf("changed: % x", b)
	}
}

func TestArgumentsAreNotKept(t *testing.T) {
	x, y := plainBytes(every(0, 2, 30)), plainBytes(every(0, 3, 30))
	kids := []api.Set{{Kind: api.SetList, Packed: x}, {Kind: api.SetOr, Kids: []api.Set{{Kind: api.SetList, Packed: y}}}}
	c, e := Open(api.Set{Kind: api.SetAnd, Kids: kids})
	if e != api.OK {
		t.Fatal(e)
	}
	clear(x)
	clear(y)
	clear(kids[1].Kids)
	clear(kids)
	if l := c.All(); !slices.Equal(l, every(0, 6, 10)) {
		t.Errorf("a set is kept: %v", l)
	}
}

func TestAnswersAreNewMemory(t *testing.T) {
	l := every(5, 3, 20)
	b, _ := Pack(l)
	back, _ := Unpack(b)
	again, _ := Unpack(b)
	s := api.Set{Kind: api.SetList, Packed: b}
	c, _ := Open(s)
	c.Seek(11)
	rest := c.All()
	clear(b[:cap(b)])
	clear(back[:cap(back)])
	clear(rest[:cap(rest)])
	if !slices.Equal(again, l) || !slices.Equal(l, every(5, 3, 20)) {
		t.Errorf("an answer shares memory: %v, %v", again, l)
	}
	if b, _ := Pack(l); !bytes.Equal(b, plainBytes(l)) {
		t.Errorf("two answers of Pack share memory: % x", b)
	}
	if n, ok := c.Next(); ok {
		t.Errorf("behind All there is %d", n)
	}
}
