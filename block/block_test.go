package block

import (
	"bytes"
	"encoding/binary"
	"fmt"
	"math"
	"math/rand"
	"reflect"
	"slices"
	"strings"
	"testing"

	"dryrot/api"
	"dryrot/chunk"
	"dryrot/disk"
	"dryrot/index"
	"dryrot/pair"
	"dryrot/stripe"
)

// of is labels by name, value, name, value ..
func of(words ...string) []api.Label {
	var l []api.Label
	for i := 0; i < len(words); i += 2 {
		l = append(l, api.Label{Name: words[i], Value: words[i+1]})
	}
	return l
}

// at is samples at some times, each with a value of its own.
func at(times ...int) []api.Sample {
	var l []api.Sample
	for i, t := range times {
		l = append(l, api.Sample{T: t, V: uint64(i)<<40 | uint64(t)&0xffff})
	}
	return l
}

// even is n samples, the first one at from, ten from one to the next.
func even(from, n int) []api.Sample {
	var times []int
	for i := range n {
		times = append(times, from+10*i)
	}
	return at(times...)
}

// some is series of several chunks, whose stream has several groups.
func some() []api.Series {
	return []api.Series{
		{Labels: of("a", "x"), Samples: even(-100, 50)},
		{Labels: of("a", "x", "b", "1"), Samples: even(0, 21)},
		{Labels: of("a", "y"), Samples: at(5)},
		{Labels: of("b", "2"), Samples: even(1000, 70)},
	}
}

// manyChunks is series of n chunks; they end with as few samples as can be.
func manyChunks(n int) []api.Series {
	var l []api.Series
	for name := 0; n > 0; name++ {
		count := min(n, 3000)
		l = append(l, api.Series{Labels: of("a", fmt.Sprintf("%05d", name)), Samples: even(0, 20*(count-1)+1)})
		n -= count
	}
	return l
}

// rightLists is series that may stand in a stream, the edges among them.
func rightLists() [][]api.Series {
	wide := api.Series{Samples: at(0)}
	for i := range 8 {
		wide.Labels = append(wide.Labels, api.Label{Name: strings.Repeat("n", 23) + fmt.Sprint(i), Value: strings.Repeat("v", 40)})
	}
	return [][]api.Series{
		nil, {}, some(), {{Labels: of("a", "x"), Samples: at(0)}}, {{Labels: of("a", "x"), Samples: at(math.MinInt)}}, {{Labels: of("a", "x"), Samples: at(math.MaxInt)}}, {{Labels: of("a", "x"), Samples: at(math.MinInt, math.MaxInt)}},
		{{Labels: of("a", "x"), Samples: at(-7)}, {Labels: of("a", "y"), Samples: at(-9, -8)}}, {{Labels: of("a", "x"), Samples: at(9)}, {Labels: of("a", "y"), Samples: at(7, 8)}}, {{Labels: of("a", "x"), Samples: at(5, 6)}, {Labels: of("b", "x"), Samples: at(4, 7)}, {Labels: of("c", "x"), Samples: at(5)}},
		{wide}, {{Labels: of("a", "x"), Samples: even(0, 20)}}, {{Labels: of("a", "x"), Samples: even(0, 21)}}, manyChunks(300), {{Labels: of("a", "x"), Samples: even(0, 65535)}},
	}
}

// wrongLists is series that may not stand in a stream.
func wrongLists() [][]api.Series {
	return [][]api.Series{
		{{}}, {{Labels: of("a", "x")}}, {{Samples: at(1)}}, {{Labels: of("a", ""), Samples: at(1)}}, {{Labels: of("1", "x"), Samples: at(1)}}, {{Labels: of("b", "x", "a", "x"), Samples: at(1)}}, {{Labels: of("a", "x"), Samples: at(1, 1)}}, {{Labels: of("a", "x"), Samples: at(2, 1)}}, {{Labels: of("a", "x"), Samples: even(0, 65536)}},
		{{Labels: of("a", "x"), Samples: at(1)}, {Labels: of("a", "x"), Samples: at(2)}}, {{Labels: of("b", "x"), Samples: at(1)}, {Labels: of("a", "x"), Samples: at(2)}}, append(some(), api.Series{Labels: of("c", "x")}),
	}
}

func newDisk(t *testing.T, room int) *disk.Disk {
	t.Helper()
	d, e := disk.New(room)
	if e != api.OK {
		t.Fatal(e)
	}
	return d
}

func want(t *testing.T, what string, got, wanted api.Errno) {
	t.Helper()
	if got != wanted {
		t.Errorf("%s: %d, not %d", what, int(got), int(wanted))
	}
}

func wantSame(t *testing.T, what string, d, wanted *disk.Disk) {
	t.Helper()
	if !reflect.DeepEqual(d, wanted) {
		t.Errorf("%s: the disk is another one: %v, not %v", what, d.List(), wanted.List())
	}
}

func brief(x any) string { return fmt.Sprintf("%.200s", fmt.Sprint(x)) }

func streamOf(t *testing.T, l []api.Series) []byte {
	t.Helper()
	b, e := chunk.Encode(l)
	if e != api.OK {
		t.Fatal(e)
	}
	return b
}

func indexOf(t *testing.T, l []api.Series) []byte {
	t.Helper()
	entries, e := index.Build(streamOf(t, l))
	if e != api.OK {
		t.Fatal(e)
	}
	b, e := index.Encode(entries)
	if e != api.OK {
		t.Fatal(e)
	}
	return b
}

func made(t *testing.T, l []api.Series, number, gen int) api.Footer {
	t.Helper()
	f, e := Make(l, number, gen, 1, number, nil)
	if e != api.OK {
		t.Fatal(e)
	}
	return f
}

// written is a disk with a block 7 of generation 3.
func written(t *testing.T, l []api.Series) (*disk.Disk, api.Footer) {
	t.Helper()
	d, f := newDisk(t, 2000), made(t, l, 7, 3)
	want(t, "Write", Write(d, f, l), api.OK)
	return d, f
}

func sameFooter(a, b api.Footer) bool {
	return slices.Equal(a.Parents, b.Parents) && reflect.DeepEqual(without(a), without(b))
}

func without(f api.Footer) api.Footer {
	f.Parents = nil
	return f
}

func sameSeries(a, b []api.Series) bool {
	return slices.EqualFunc(a, b, func(x, y api.Series) bool {
		return slices.Equal(x.Labels, y.Labels) && slices.Equal(x.Samples, y.Samples)
	})
}

// numbers is edges of what a number on the disk may be, from 1 on, and beyond.
var (
	rightNumbers = []int{1, 2, 7, 1 << 32, api.MaxNumber - 1, api.MaxNumber}
	wrongNumbers = []int{0, -1, -7, api.MaxNumber + 1, math.MaxInt, math.MinInt}
)

func TestP19_1Make(t *testing.T) {
	for _, l := range rightLists() {
		f, e := Make(l, 3, 4, 2, 6, []int{9, 8})
		wanted := api.Footer{Number: 3, Gen: 4, Level: 2, Rank: 6, Bytes: len(streamOf(t, l)), Parents: []int{9, 8}}
		for i, s := range l {
			for j, x := range s.Samples {
				if i == 0 && j == 0 || x.T < wanted.Min {
					wanted.Min = x.T
				}
				if i == 0 && j == 0 || x.T > wanted.Max {
					wanted.Max = x.T
				}
			}
		}
		if e != api.OK || !sameFooter(f, wanted) {
			t.Errorf("Make(%s) = %+v, %d, not %+v", brief(l), f, int(e), wanted)
		}
	}
}

func TestP19_1MakeAtTheEdges(t *testing.T) {
	for _, n := range rightNumbers {
		for _, level := range []int{1, 2, 3} {
			for _, parents := range [][]int{nil, {}, {n}, {1, n}, {n, n, n}} {
				f, e := Make(some(), n, n, level, n, parents)
				if e != api.OK || f.Number != n || f.Gen != n || f.Rank != n || f.Level != level || !slices.Equal(f.Parents, parents) {
					t.Errorf("Make of %d, level %d, parents %v = %+v, %d", n, level, parents, f, int(e))
				}
			}
		}
	}
}

func wantNoMake(t *testing.T, l []api.Series, number, gen, level, rank int, parents []int) {
	t.Helper()
	if f, e := Make(l, number, gen, level, rank, parents); e != api.ErrArg || !sameFooter(f, api.Footer{}) {
		t.Errorf("Make(%s, %d, %d, %d, %d, %v) = %+v, %d", brief(l), number, gen, level, rank, parents, f, int(e))
	}
}

func TestP19_1MakeOfWhatMayNotBe(t *testing.T) {
	for _, l := range wrongLists() {
		wantNoMake(t, l, 1, 1, 1, 1, nil)
	}
	for _, l := range [][]api.Series{nil, some()} {
		for _, n := range wrongNumbers {
			wantNoMake(t, l, n, 1, 1, 1, nil)
			wantNoMake(t, l, 1, n, 1, 1, nil)
			wantNoMake(t, l, 1, 1, 1, n, nil)
			wantNoMake(t, l, 1, 1, 1, 1, []int{n})
			wantNoMake(t, l, 1, 1, 1, 1, []int{1, 2, n})
		}
		for _, level := range []int{0, -1, 4, math.MaxInt, math.MinInt} {
			wantNoMake(t, l, 1, 1, level, 1, nil)
		}
		wantNoMake(t, l, 1, 1, 1, 1, []int{1, 2, 3, 4})
		wantNoMake(t, l, 1, 1, 1, 1, make([]int, 1000))
	}
}

func extentsOf(size, load int) int { return max(1, (size+load-1)/load) }

func TestP19_1Need(t *testing.T) {
	for _, l := range rightLists() {
		wanted := 4*extentsOf(len(streamOf(t, l)), 315) + 2*extentsOf(len(indexOf(t, l)), 106) + 2
		if n := Need(l); n != wanted {
			t.Errorf("Need(%s) = %d, not %d", brief(l), n, wanted)
		}
		d := newDisk(t, 100000)
		f, _ := Make(l, api.MaxNumber, 1, 1, 1, []int{api.MaxNumber, 1, 2})
		want(t, "Write", Write(d, f, l), api.OK)
		if n := 100000 - d.Free(); n != wanted {
			t.Errorf("%s: %d extents are there, not %d", brief(l), n, wanted)
		}
	}
	for _, l := range wrongLists() {
		if n := Need(l); n != 0 {
			t.Errorf("Need(%s) = %d", brief(l), n)
		}
	}
}

// Series that may stand in a stream may have more chunks than an index may: there is no block of such, and none is begun.
func TestP19_2MoreChunksThanAnIndexHas(t *testing.T) {
	l := manyChunks(100001)
	f, e := Make(l, 1, 1, 1, 1, nil)
	if n := Need(l); e != api.OK || f.Bytes == 0 || n != 0 {
		t.Fatal(f, e, n)
	}
	d := newDisk(t, 100000)
	want(t, "Write", Write(d, f, l), api.ErrArg)
	if d.Free() != 100000 {
		t.Error(d.List())
	}
	if n := Need(manyChunks(100000)); n < 50000 {
		t.Error(n)
	}
}

// plainBytes is the chapter's words, whether the footer may be or not.
func plainBytes(f api.Footer) []byte {
	var b []byte
	for _, n := range []int{f.Number, f.Gen, f.Level, f.Rank, f.Min, f.Max, f.Bytes} {
		b = binary.BigEndian.AppendUint64(b, uint64(n))
	}
	b = append(b, byte(len(f.Parents)))
	for _, n := range f.Parents {
		b = binary.BigEndian.AppendUint64(b, uint64(n))
	}
	return b
}

// rightFooters is footers that may be, the edges among them.
func rightFooters() []api.Footer {
	plain := api.Footer{Number: 1, Gen: 2, Level: 3, Rank: 4, Min: 5, Max: 6, Bytes: 7}
	l := []api.Footer{plain}
	add := func(turn func(f *api.Footer)) {
		f := plain
		turn(&f)
		l = append(l, f)
	}
	for _, n := range rightNumbers {
		add(func(f *api.Footer) { f.Number = n })
		add(func(f *api.Footer) { f.Gen = n })
		add(func(f *api.Footer) { f.Rank = n })
		add(func(f *api.Footer) { f.Parents = []int{n} })
		add(func(f *api.Footer) { f.Parents = []int{1, 1 << 40, n} })
	}
	for _, n := range []int{1, 2, 3} {
		add(func(f *api.Footer) { f.Level = n })
	}
	for _, n := range []int{1, 255, 256, 1<<31 - 2, 1<<31 - 1} {
		add(func(f *api.Footer) { f.Bytes = n })
	}
	for _, n := range []int{math.MinInt, math.MinInt + 1, -1, 0, 1, math.MaxInt} {
		add(func(f *api.Footer) { f.Min, f.Max = n, n })
		add(func(f *api.Footer) { f.Min, f.Max = math.MinInt, n })
		add(func(f *api.Footer) { f.Min, f.Max = n, math.MaxInt })
	}
	add(func(f *api.Footer) { f.Min, f.Max, f.Bytes = 0, 0, 0 })
	add(func(f *api.Footer) { f.Parents = []int{} })
	return l
}

// wrongFooters is footers that may not be.
func wrongFooters() []api.Footer {
	plain := api.Footer{Number: 1, Gen: 2, Level: 3, Rank: 4, Min: 5, Max: 6, Bytes: 7}
	l := []api.Footer{{}}
	add := func(turn func(f *api.Footer)) {
		f := plain
		turn(&f)
		l = append(l, f)
	}
	for _, n := range wrongNumbers {
		add(func(f *api.Footer) { f.Number = n })
		add(func(f *api.Footer) { f.Gen = n })
		add(func(f *api.Footer) { f.Rank = n })
		add(func(f *api.Footer) { f.Parents = []int{n} })
		add(func(f *api.Footer) { f.Parents = []int{1, n, 1} })
		add(func(f *api.Footer) { f.Parents = []int{1, 1, n} })
	}
	for _, n := range []int{0, -1, 4, 256, 257, 1<<32 + 1, math.MaxInt, math.MinInt} {
		add(func(f *api.Footer) { f.Level = n })
	}
	for _, n := range []int{-1, 1 << 31, 1 << 32, 1<<32 + 7, math.MaxInt, math.MinInt} {
		add(func(f *api.Footer) { f.Bytes = n })
		add(func(f *api.Footer) { f.Min, f.Max, f.Bytes = 0, 0, n })
	}
	for _, span := range [][2]int{{6, 5}, {1, 0}, {0, -1}, {math.MaxInt, math.MinInt}, {0, math.MinInt}} {
		add(func(f *api.Footer) { f.Min, f.Max = span[0], span[1] })
	}
	for _, span := range [][2]int{{0, 1}, {-1, 0}, {1, 1}, {-1, -1}, {-1, 1}, {1, 0}, {math.MinInt, math.MaxInt}} {
		add(func(f *api.Footer) { f.Min, f.Max, f.Bytes = span[0], span[1], 0 })
	}
	add(func(f *api.Footer) { f.Parents = []int{1, 2, 3, 4} })
	add(func(f *api.Footer) { f.Parents = slices.Repeat([]int{1}, 255) })
	add(func(f *api.Footer) { f.Parents = slices.Repeat([]int{1}, 256) })
	add(func(f *api.Footer) { f.Parents = slices.Repeat([]int{1}, 258) })
	return l
}

func TestP19_1BytesWrittenOut(t *testing.T) {
	b, e := Encode(api.Footer{Number: 258, Gen: 2, Level: 3, Rank: 4, Min: -2, Max: 6, Bytes: 1 << 24, Parents: []int{5, 1 << 62}})
	wanted := []byte{
		0, 0, 0, 0, 0, 0, 1, 2, 0, 0, 0, 0, 0, 0, 0, 2, 0, 0, 0, 0, 0, 0, 0, 3, 0, 0, 0, 0, 0, 0, 0, 4,
		255, 255, 255, 255, 255, 255, 255, 254, 0, 0, 0, 0, 0, 0, 0, 6, 0, 0, 0, 0, 1, 0, 0, 0,
		2, 0, 0, 0, 0, 0, 0, 0, 5, 64, 0, 0, 0, 0, 0, 0, 0,
	}
	if e != api.OK || !bytes.Equal(b, wanted) {
		t.Errorf("Encode = % x, %d", b, int(e))
	}
}

func TestP19_1EncodeAndDecode(t *testing.T) {
	for _, f := range rightFooters() {
		b, e := Encode(f)
		if e != api.OK || !bytes.Equal(b, plainBytes(f)) {
			t.Errorf("Encode(%+v) = % x, %d", f, b, int(e))
		}
		if g, e := Decode(plainBytes(f)); e != api.OK || !sameFooter(f, g) {
			t.Errorf("Decode of %+v = %+v, %d", f, g, int(e))
		}
	}
	for _, f := range wrongFooters() {
		if b, e := Encode(f); e != api.ErrArg || len(b) != 0 {
			t.Errorf("Encode(%+v) = % x, %d", f, b, int(e))
		}
		wantNoDecode(t, plainBytes(f))
	}
}

func wantNoDecode(t *testing.T, b []byte) {
	t.Helper()
	if f, e := Decode(b); e != api.ErrForm || !sameFooter(f, api.Footer{}) {
		t.Errorf("Decode(% x) = %+v, %d", b, f, int(e))
	}
}

func TestP19_1DecodeOfOtherLengths(t *testing.T) {
	for _, f := range rightFooters() {
		b := plainBytes(f)
		for n := range len(b) {
			wantNoDecode(t, b[:n])
		}
		for _, more := range [][]byte{{0}, {1}, make([]byte, 8), {0, 0, 0, 0, 0, 0, 0, 1}, b, make([]byte, 3000)} {
			wantNoDecode(t, slices.Concat(b, more))
		}
		for _, count := range []int{0, 1, 2, 3, 4, 5, 255} {
			if count != len(f.Parents) {
				b[56] = byte(count)
				wantNoDecode(t, b)
			}
		}
	}
	wantNoDecode(t, nil)
}

// What Decode takes is the bytes of what it answers, whatever byte is turned.
func TestP19_1DecodeOfTurnedBytes(t *testing.T) {
	for _, f := range rightFooters() {
		for place := range plainBytes(f) {
			for _, mask := range []byte{1, 2, 4, 0x40, 0x80, 0xff} {
				b := plainBytes(f)
				b[place] ^= mask
				g, e := Decode(b)
				if e == api.ErrForm && sameFooter(g, api.Footer{}) {
					continue
				}
				if again, f := Encode(g); e != api.OK || f != api.OK || !bytes.Equal(again, b) {
					t.Fatalf("Decode(% x) = %+v, %d", b, g, int(e))
				}
			}
		}
	}
}

// step is what changes a disk.
type step func(d *disk.Disk) api.Errno

// wantSteps holds a call against steps, on a disk that stops behind each number of changes.
func wantSteps(t *testing.T, d *disk.Disk, call step, steps ...step) {
	t.Helper()
	for n := 0; ; n++ {
		got, wanted := d.Copy(), d.Copy()
		got.Fuse(n)
		wanted.Fuse(n)
		e := api.OK
		for _, s := range steps {
			if e = s(wanted); e != api.OK {
				break
			}
		}
		want(t, fmt.Sprint("fuse of ", n), call(got), e)
		wantSame(t, fmt.Sprint("fuse of ", n), got, wanted)
		if e != api.ErrDead {
			return
		}
	}
}

func storing(t *testing.T, f api.Footer, l []api.Series) []step {
	stream, entries, footer := streamOf(t, l), indexOf(t, l), plainBytes(f)
	digits := fmt.Sprint(f.Number)
	return []step{
		func(d *disk.Disk) api.Errno { return stripe.Store(d, "c"+digits, f.Gen, stream) },
		func(d *disk.Disk) api.Errno { return pair.Store(d, "i"+digits, f.Gen, entries) },
		func(d *disk.Disk) api.Errno { return pair.Store(d, "f"+digits, f.Gen, footer) },
	}
}

func TestP19_2WriteStepByStep(t *testing.T) {
	for _, l := range [][]api.Series{nil, {{Labels: of("a", "x"), Samples: at(4)}}, some()} {
		f, _ := Make(l, 12, 5, 2, 9, []int{3, 4, 5})
		call := func(d *disk.Disk) api.Errno { return Write(d, f, l) }
		for _, room := range []int{0, 1, 3, 4, 5, 6, 7, 8, 9, 20, 1000} {
			wantSteps(t, newDisk(t, room), call, storing(t, f, l)...)
		}
		old := newDisk(t, 1000)
		Write(old, made(t, some(), 12, 4), some())
		Write(old, made(t, some(), 1, 4), some())
		wantSteps(t, old, call, storing(t, f, l)...)
		old.Remove("c12.1")
		old.Remove("i12.a")
		wantSteps(t, old, call, storing(t, f, l)...)
	}
}

func TestP19_2WriteAtTheEdgesOfNumbers(t *testing.T) {
	for _, n := range rightNumbers {
		d := newDisk(t, 1000)
		f, e := Make(some(), n, n, 3, n, []int{n, n, n})
		if e != api.OK {
			t.Fatal(e)
		}
		want(t, "Write", Write(d, f, some()), api.OK)
		var names []string
		for _, file := range []string{"c%d.0", "c%d.1", "c%d.2", "c%d.p", "f%d.a", "f%d.b", "i%d.a", "i%d.b"} {
			names = append(names, fmt.Sprintf(file, n))
		}
		if l := d.List(); !slices.Equal(l, names) {
			t.Error(l)
		}
		if g, e := Foot(d, n); e != api.OK || !sameFooter(f, g) {
			t.Errorf("Foot = %+v, %d, not %+v", g, int(e), f)
		}
		wantSelect(t, "edge", d, f, nil, math.MinInt, math.MaxInt, some())
	}
}

// turnings is ways to have a footer be another one.
func turnings() []func(f *api.Footer) {
	return []func(f *api.Footer){
		func(f *api.Footer) { f.Bytes++ }, func(f *api.Footer) { f.Bytes-- }, func(f *api.Footer) { f.Min-- }, func(f *api.Footer) { f.Min++ }, func(f *api.Footer) { f.Max-- }, func(f *api.Footer) { f.Max++ },
		func(f *api.Footer) { f.Min, f.Max, f.Bytes = 0, 0, 0 }, func(f *api.Footer) { f.Number = 0 }, func(f *api.Footer) { f.Number = api.MaxNumber + 1 }, func(f *api.Footer) { f.Gen = 0 }, func(f *api.Footer) { f.Rank = -1 }, func(f *api.Footer) { f.Level = 4 }, func(f *api.Footer) { f.Parents = []int{0} }, func(f *api.Footer) { f.Parents = []int{1, 2, 3, 4} },
	}
}

func TestP19_2WriteOfAnotherFooter(t *testing.T) {
	d, right := written(t, some())
	before := d.Copy()
	for _, turn := range turnings() {
		f := right
		turn(&f)
		want(t, fmt.Sprintf("Write of %+v", f), Write(d, f, some()), api.ErrArg)
	}
	want(t, "Write of other series", Write(d, right, some()[1:]), api.ErrArg)
	want(t, "Write of no series", Write(d, right, nil), api.ErrArg)
	want(t, "Write of a nought", Write(d, api.Footer{}, nil), api.ErrArg)
	for _, l := range wrongLists() {
		want(t, "Write of wrong series", Write(d, right, l), api.ErrArg)
		want(t, "Write of wrong series", Write(d, made(t, nil, 7, 3), l), api.ErrArg)
	}
	wantSame(t, "refused", d, before)
	d.Fuse(0)
	want(t, "ErrArg comes ahead of the disk", Write(d, right, nil), api.ErrArg)
	want(t, "dead", Write(d, right, some()), api.ErrDead)
}

func TestNoCallMadeIt(t *testing.T) {
	f := made(t, some(), 7, 3)
	for _, d := range []*disk.Disk{nil, {}} {
		for _, g := range []api.Footer{f, {}} {
			want(t, "Write", Write(d, g, some()), api.ErrNil)
			if l, e := Select(d, g, nil, 0, 1); e != api.ErrNil || len(l) != 0 {
				t.Error(l, e)
			}
			if l, e := Select(d, g, []api.Matcher{{}}, 1, 0); e != api.ErrNil || len(l) != 0 {
				t.Error(l, e)
			}
			if wrote, e := Index(d, g); e != api.ErrNil || wrote {
				t.Error(wrote, e)
			}
		}
		for _, n := range []int{7, 0} {
			if g, e := Foot(d, n); e != api.ErrNil || !sameFooter(g, api.Footer{}) {
				t.Error(g, e)
			}
			want(t, "Drop", Drop(d, n), api.ErrNil)
		}
	}
}

func wantNoFoot(t *testing.T, what string, d *disk.Disk, number int, wanted api.Errno) {
	t.Helper()
	if f, e := Foot(d, number); e != wanted || !sameFooter(f, api.Footer{}) {
		t.Errorf("%s: Foot(%d) = %+v, %d, not %d", what, number, f, int(e), int(wanted))
	}
}

func TestP19_2Foot(t *testing.T) {
	for _, f := range rightFooters() {
		d := newDisk(t, 2)
		pair.Put(d, fmt.Sprint("f", f.Number), 0, f.Gen, plainBytes(f))
		for _, file := range []string{".a", ".b"} {
			turned := d.Copy()
			turned.Rot(fmt.Sprint("f", f.Number, file), 0, 30, 1)
			if g, e := Foot(turned, f.Number); e != api.OK || !sameFooter(f, g) {
				t.Errorf("Foot = %+v, %d, not %+v", g, int(e), f)
			}
		}
	}
}

func TestP19_2FootThatIsNone(t *testing.T) {
	d, f := written(t, some())
	for _, n := range wrongNumbers {
		wantNoFoot(t, "no number", d, n, api.ErrArg)
	}
	wantNoFoot(t, "no file", d, 8, api.ErrLost)
	d.Rot("f7.a", 0, 3, 1)
	d.Rot("f7.b", 0, 90, 1)
	wantNoFoot(t, "both turned", d, 7, api.ErrLost)
	other := func(turn func(f *api.Footer)) []byte {
		g := f
		turn(&g)
		return plainBytes(g)
	}
	for what, b := range map[string][]byte{
		"another number":    other(func(f *api.Footer) { f.Number = 8 }),
		"another gen":       other(func(f *api.Footer) { f.Gen = 4 }),
		"may not be":        other(func(f *api.Footer) { f.Level = 0 }),
		"an earlier gen":    other(func(f *api.Footer) { f.Gen = 2 }),
		"four parents":      other(func(f *api.Footer) { f.Parents = []int{1, 2, 3, 4} }),
		"a byte more":       append(plainBytes(f), 0),
		"a byte less":       plainBytes(f)[:56],
		"nothing":           nil,
		"what is no footer": []byte("hello"),
	} {
		pair.Store(d, "f7", 3, b)
		wantNoFoot(t, what, d, 7, api.ErrLost)
	}
	pair.Store(d, "f7", 3, plainBytes(f))
	if g, e := Foot(d, 7); e != api.OK || !sameFooter(f, g) {
		t.Errorf("Foot = %+v, %d", g, int(e))
	}
	d.Write("f7.a", 0, make([]byte, api.Size))
	if g, e := Foot(d, 7); e != api.OK || !sameFooter(f, g) {
		t.Errorf("Foot = %+v, %d", g, int(e))
	}
}

func TestP19_2Drop(t *testing.T) {
	d, _ := written(t, some())
	want(t, "Write", Write(d, made(t, some(), 77, 3), some()), api.OK)
	other := newDisk(t, 2000)
	Write(other, made(t, some(), 77, 3), some())
	call := func(d *disk.Disk) api.Errno { return Drop(d, 7) }
	steps := []step{
		func(d *disk.Disk) api.Errno { return stripe.Drop(d, "c7") },
		func(d *disk.Disk) api.Errno { return pair.Drop(d, "i7") },
		func(d *disk.Disk) api.Errno { return pair.Drop(d, "f7") },
	}
	wantSteps(t, d, call, steps...)
	for _, file := range []string{"c7.2", "i7.b", "f7.a"} {
		d.Remove(file)
		wantSteps(t, d, call, steps...)
	}
	before := d.Copy()
	for _, n := range wrongNumbers {
		want(t, fmt.Sprint("Drop of ", n), Drop(d, n), api.ErrArg)
	}
	want(t, "Drop of none", Drop(d, 8), api.OK)
	wantSame(t, "not it", d, before)
	want(t, "Drop", Drop(d, 7), api.OK)
	wantSame(t, "gone", d, other)
	d.Fuse(0)
	want(t, "Drop of none", Drop(d, 7), api.OK)
	want(t, "Drop on a dead disk", Drop(d, 77), api.ErrDead)
}

func TestArgumentsAreLeftAsTheyAre(t *testing.T) {
	parents := []int{1, 2, 3, 4}
	l := some()
	f, _ := Make(l, 7, 3, 1, 7, parents[:2])
	f.Parents = append(f.Parents, 9)
	if !slices.Equal(parents, []int{1, 2, 3, 4}) {
		t.Error(parents)
	}
	f, _ = Make(l, 7, 3, 1, 7, parents[:2])
	d := newDisk(t, 1000)
	Need(l)
	Write(d, f, l)
	parents[0] = 99
	if g, e := Foot(d, 7); e != api.OK || !slices.Equal(g.Parents, []int{1, 2}) || f.Parents[0] != 1 {
		t.Error(g, e)
	}
	m := []api.Matcher{{Kind: api.Is, Name: "a", Value: "x"}, {Kind: api.Is, Name: "b", Value: "1"}}
	Select(d, f, m[:1], 0, 100)
	if !sameSeries(l, some()) || m[1].Name != "b" {
		t.Error("changed")
	}
	b := append(plainBytes(f), 1, 2, 3)
	Decode(b[:len(b)-3])
	if !bytes.Equal(b, append(plainBytes(f), 1, 2, 3)) {
		t.Error("changed")
	}
}

// wreck writes over all of what answers gave, spare room too.
func wreck(l []api.Series) {
	for _, s := range l[:cap(l)] {
		clear(s.Labels[:cap(s.Labels)])
		samples := s.Samples[:cap(s.Samples)]
		for i := range samples {
			samples[i] = api.Sample{T: -1, V: 1}
		}
	}
	clear(l[:cap(l)])
}

func TestAnswersAreNewMemory(t *testing.T) {
	d, f := written(t, some())
	for range 3 {
		l, e := Select(d, f, nil, math.MinInt, math.MaxInt)
		if e != api.OK || !sameSeries(l, some()) {
			t.Fatal(brief(l), e)
		}
		wreck(l[:1:1])
		if !sameSeries(l[1:], some()[1:]) {
			t.Fatal("two lists of an answer share memory")
		}
		wreck(l)
	}
	g, _ := Make(some(), 7, 3, 1, 7, []int{1, 2, 3})
	b, _ := Encode(g)
	back, _ := Decode(b)
	clear(b[:cap(b)])
	clear(g.Parents[:cap(g.Parents)])
	if !slices.Equal(back.Parents, []int{1, 2, 3}) {
		t.Error(back)
	}
}

// series is some that may stand in a stream, whose labels and times vary.
func series(r *rand.Rand) []api.Series {
	var l []api.Series
	for _, a := range []string{"", "x", "xy", "y", "z"} {
		for _, b := range []string{"", "1", "2"} {
			if a+b == "" || r.Intn(3) == 0 {
				continue
			}
			var s api.Series
			for _, label := range of("a", a, "b", b) {
				if label.Value != "" {
					s.Labels = append(s.Labels, label)
				}
			}
			t := r.Intn(100) - 50
			for range 1 + r.Intn(45) {
				s.Samples = append(s.Samples, api.Sample{T: t, V: r.Uint64()})
				t += 1 + r.Intn(9)
			}
			l = append(l, s)
		}
	}
	return chunk.Join(l)
}
