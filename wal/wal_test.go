package wal

import (
	"bytes"
	"encoding/binary"
	"fmt"
	"math"
	"math/rand"
	"reflect"
	"slices"
	"testing"

	"dryrot/api"
	"dryrot/disk"
	"dryrot/extent"
	"dryrot/pair"
)

const million = 1000000

func newDisk(t *testing.T, room int) *disk.Disk {
	t.Helper()
	d, e := disk.New(room)
	if e != api.OK {
		t.Fatal(e)
	}
	return d
}

func want(t *testing.T, what string, got, wanted api.Errno) {
	t.Helper()
	if got != wanted {
		t.Errorf("%s: %d, not %d", what, int(got), int(wanted))
	}
}

// rising is bytes none of which is its neighbour, so that a part in a wrong place shows.
func rising(n int) []byte {
	b := make([]byte, n)
	for i := range b {
		b[i] = byte(i%251 + 1)
	}
	return b
}

// text is a record with its length ahead of it.
func text(length int, rec []byte) []byte {
	return append(binary.BigEndian.AppendUint32(nil, uint32(length)), rec...)
}

func framed(t *testing.T, file string, i, gen int, payload []byte) []byte {
	t.Helper()
	b, e := extent.Frame(file, i, gen, payload)
	if e != api.OK {
		t.Fatal(e)
	}
	return b
}

func wantAppend(t *testing.T, d *disk.Disk, segment, at, lsn int, rec []byte, wanted int) {
	t.Helper()
	if n, e := Append(d, segment, at, lsn, rec); e != api.OK || n != wanted {
		t.Fatalf("Append(%d, %d, %d, %d bytes) = %d, %d, not %d", segment, at, lsn, len(rec), n, int(e), wanted)
	}
}

func wantNoAppend(t *testing.T, d *disk.Disk, segment, at, lsn int, rec []byte, wanted api.Errno) {
	t.Helper()
	if n, e := Append(d, segment, at, lsn, rec); e != wanted || n != 0 {
		t.Errorf("Append(%d, %d, %d, %d bytes) = %d, %d, not %d", segment, at, lsn, len(rec), n, int(e), int(wanted))
	}
}

func wantRead(t *testing.T, what string, d *disk.Disk, segment, extents int, wanted ...[]byte) {
	t.Helper()
	if l, e := Read(d, segment, extents); e != api.OK || !slices.EqualFunc(l, wanted, bytes.Equal) {
		t.Fatalf("%s: Read(%d, %d) = %.200q, %d, not %.200q", what, segment, extents, l, int(e), wanted)
	}
}

func wantNoRead(t *testing.T, what string, d *disk.Disk, segment, extents int, wanted api.Errno) {
	t.Helper()
	if l, e := Read(d, segment, extents); e != wanted || len(l) != 0 {
		t.Fatalf("%s: Read(%d, %d) = %.200q, %d, not %d", what, segment, extents, l, int(e), int(wanted))
	}
}

func wantSame(t *testing.T, what string, d, wanted *disk.Disk) {
	t.Helper()
	if !reflect.DeepEqual(d, wanted) {
		t.Errorf("%s: the disk is another one: %v, not %v", what, d.List(), wanted.List())
	}
}

func TestP18_1Need(t *testing.T) {
	for _, c := range []struct{ size, need int }{
		{1, 1}, {2, 1}, {101, 1}, {102, 1}, {103, 2}, {207, 2}, {208, 2}, {209, 3}, {314, 3}, {315, 4}, {million - 106, 9433}, {million - 105, 9434}, {million, 9434},
		{0, 0}, {-1, 0}, {-102, 0}, {million + 1, 0}, {1 << 31, 0}, {1<<32 + 1, 0}, {math.MaxInt, 0}, {math.MaxInt - 3, 0}, {math.MinInt, 0},
	} {
		if n := Need(c.size); n != c.need {
			t.Errorf("Need(%d) = %d, not %d", c.size, n, c.need)
		}
	}
	for size := 1; size <= million; size++ {
		if n := Need(size); n*api.Load < size+4 || (n-1)*api.Load >= size+4 {
			t.Fatalf("Need(%d) = %d", size, n)
		}
	}
}

func TestP18_1Name(t *testing.T) {
	for _, c := range []struct {
		segment int
		name    string
	}{
		{7, "w7"}, {0, "w0"}, {1, "w1"}, {10, "w10"}, {123456789012, "w123456789012"}, {-1, "w0"}, {-7, "w0"}, {math.MinInt, "w0"},
		{api.MaxNumber, "w4611686018427387904"}, {math.MaxInt, "w9223372036854775807"},
	} {
		if n := Name(c.segment); n != c.name {
			t.Errorf("Name(%d) = %q", c.segment, n)
		}
	}
}

func TestP18_2ExampleOfTheChapter(t *testing.T) {
	d := newDisk(t, 4)
	wantAppend(t, d, 1, 0, 1, rising(103), 2)
	if d.Extents("w1.a") != 2 || d.Extents("w1.b") != 2 || Need(103) != 2 || d.Free() != 0 {
		t.Error(d.Extents("w1.a"), d.Extents("w1.b"), Need(103), d.Free())
	}
}

// step is a change of a disk.
type step func(d *disk.Disk) api.Errno

// stepsOf is what appending a record does, as the chapter says it.
func stepsOf(t *testing.T, name string, at, lsn int, rec []byte) []step {
	var steps []step
	for _, file := range []string{name + ".a", name + ".b"} {
		i := at
		for part := range slices.Chunk(text(len(rec), rec), api.Load) {
			b, number := framed(t, file, i, lsn, part), i
			steps = append(steps, func(d *disk.Disk) api.Errno { return d.Write(file, number, b) })
			i++
		}
		steps = append(steps, func(d *disk.Disk) api.Errno { return d.Sync(file) })
	}
	return steps
}

// wantSteps holds a call against steps, on a disk that stops behind each number of them.
func wantSteps(t *testing.T, d *disk.Disk, call step, steps []step) {
	t.Helper()
	for n := range len(steps) + 2 {
		got, wanted := d.Copy(), d.Copy()
		got.Fuse(n)
		wanted.Fuse(n)
		e := api.OK
		for _, s := range steps {
			if e = s(wanted); e != api.OK {
				break
			}
		}
		want(t, fmt.Sprint("fuse of ", n), call(got), e)
		wantSame(t, fmt.Sprint("fuse of ", n), got, wanted)
	}
}

func TestP18_2StepByStep(t *testing.T) {
	for _, size := range []int{1, 2, 101, 102, 103, 208, 209, 500} {
		for _, room := range []int{0, 1, 2, 3, 5, 30} {
			d := newDisk(t, room)
			for at := range 3 {
				call := func(d *disk.Disk) api.Errno { _, e := Append(d, 3, at, 7, rising(size)); return e }
				wantSteps(t, d, call, stepsOf(t, "w3", at, 7, rising(size)))
				Append(d, 3, at, 6, []byte("one ahead"))
			}
		}
	}
}

// Over a record that stands there, over half of one, and where one half is shorter.
func TestP18_2StepByStepOverOthers(t *testing.T) {
	d := newDisk(t, 50)
	wantAppend(t, d, 3, 0, 1, rising(400), 4)
	wantAppend(t, d, 3, 4, 2, rising(50), 1)
	short := d.Copy()
	short.Remove("w3.b")
	shorter := d.Copy()
	shorter.Remove("w3.a")
	for _, x := range []*disk.Disk{d, short, shorter} {
		for at := range 8 {
			call := func(d *disk.Disk) api.Errno { _, e := Append(d, 3, at, 1, rising(300)); return e }
			wantSteps(t, x, call, stepsOf(t, "w3", at, 1, rising(300)))
		}
	}
}

func TestP18_2HowManyThereAre(t *testing.T) {
	d := newDisk(t, 100000)
	at := 0
	for _, size := range []int{1, 102, 103, 208, 209, 5000, million} {
		before := d.Free()
		wantAppend(t, d, 1, at, 1, rising(size), Need(size))
		if used := before - d.Free(); used != 2*Need(size) {
			t.Errorf("%d bytes: %d extents are used", size, used)
		}
		at += Need(size)
	}
	if d.Extents("w1.a") != at || d.Extents("w1.b") != at || !slices.Equal(d.List(), []string{"w1.a", "w1.b"}) {
		t.Error(d.Extents("w1.a"), d.Extents("w1.b"), d.List())
	}
}

func TestP18_2EdgesOfNumbers(t *testing.T) {
	for _, n := range []int{0, 1, 1 << 32, api.MaxNumber} {
		d := newDisk(t, 4)
		wantAppend(t, d, n, 0, 5, rising(10), 1)
		wantAppend(t, d, n, 1, n, rising(20), 1)
		if l := d.List(); !slices.Equal(l, []string{Name(n) + ".a", Name(n) + ".b"}) {
			t.Error(l)
		}
		if _, gen, e := pair.Get(d, Name(n), 1); gen != n || e != api.OK {
			t.Error(gen, e)
		}
		wantRead(t, "edge", d, n, 2, rising(10), rising(20))
	}
}

func TestP18_2WrongArguments(t *testing.T) {
	d := newDisk(t, 20)
	wantAppend(t, d, 1, 0, 1, rising(10), 1)
	before := d.Copy()
	for _, n := range []int{-1, math.MinInt, api.MaxNumber + 1, math.MaxInt} {
		wantNoAppend(t, d, n, 1, 2, rising(10), api.ErrArg)
		wantNoAppend(t, d, 1, 1, n, rising(10), api.ErrArg)
	}
	for _, at := range []int{-1, -1000, math.MinInt, 1 << 31, 1<<31 - 1, math.MaxInt, 1 << 32} {
		wantNoAppend(t, d, 1, at, 2, rising(10), api.ErrArg)
	}
	for _, rec := range [][]byte{nil, {}, make([]byte, million+1), make([]byte, 5*million)} {
		wantNoAppend(t, d, 1, 1, 2, rec, api.ErrArg)
	}
	wantSame(t, "refused", d, before)
}

// A wrong argument is told ahead of a disk that has stopped; where at is not wrong of itself, the disk has its say.
func TestP18_2WrongArgumentsComeAheadOfTheDisk(t *testing.T) {
	d := newDisk(t, 20)
	d.Fuse(0)
	before := d.Copy()
	wantNoAppend(t, d, -1, 0, 1, rising(10), api.ErrArg)
	wantNoAppend(t, d, 1, 0, -1, rising(10), api.ErrArg)
	wantNoAppend(t, d, 1, -1, 1, rising(10), api.ErrArg)
	wantNoAppend(t, d, 1, 0, 1, nil, api.ErrArg)
	wantNoAppend(t, d, 1, 0, 1, rising(10), api.ErrDead)
	wantNoAppend(t, d, 1, 1<<31-3, 1, rising(103), api.ErrArg)
	wantSame(t, "refused", d, before)
}

func TestP18_2BehindTheEnd(t *testing.T) {
	d := newDisk(t, 20)
	wantAppend(t, d, 1, 0, 1, rising(10), 1)
	before := d.Copy()
	for _, at := range []int{2, 3, 1000, 1<<31 - 2} {
		wantNoAppend(t, d, 1, at, 2, rising(10), api.ErrArg)
	}
	wantNoAppend(t, d, 2, 1, 2, rising(10), api.ErrArg)
	wantSame(t, "behind the end", d, before)
}

func TestP18_2FullAndDeadDisks(t *testing.T) {
	d := newDisk(t, 3)
	wantNoAppend(t, d, 1, 0, 1, rising(103), api.ErrFull)
	if d.Extents("w1.a") != 2 || d.Extents("w1.b") != 1 {
		t.Error(d.Extents("w1.a"), d.Extents("w1.b"))
	}
	wantNoAppend(t, newDisk(t, 0), 1, 0, 1, rising(1), api.ErrFull)
	for fuse := range 6 {
		d := newDisk(t, 20)
		d.Fuse(fuse)
		wantNoAppend(t, d, 1, 0, 1, rising(103), api.ErrDead)
	}
	d = newDisk(t, 20)
	d.Fuse(6)
	wantAppend(t, d, 1, 0, 1, rising(103), 2)
}

func TestNoCallMadeIt(t *testing.T) {
	for _, d := range []*disk.Disk{nil, {}} {
		wantNoAppend(t, d, 1, 0, 1, rising(10), api.ErrNil)
		wantNoAppend(t, d, -1, -1, -1, nil, api.ErrNil)
		wantNoRead(t, "no disk", d, 1, 1, api.ErrNil)
		wantNoRead(t, "no disk", d, 1, 0, api.ErrNil)
		wantNoRead(t, "no disk", d, -1, -1, api.ErrNil)
	}
}

func TestP18_3Read(t *testing.T) {
	d := newDisk(t, 100000)
	sizes := []int{1, 102, 103, 208, 209, 5000, 1, million}
	wanted := [][]byte{}
	at := 0
	for i, size := range sizes {
		wantRead(t, "so far", d, 1, at, wanted...)
		rec := rising(size)
		rec[0] = byte(i)
		wantAppend(t, d, 1, at, 10*i, rec, Need(size))
		wanted = append(wanted, rec)
		at += Need(size)
	}
	wantRead(t, "all", d, 1, at, wanted...)
	wantNoRead(t, "one more", d, 1, at+1, api.ErrLost)
	wantRead(t, "no extents", d, 1, 0)
	wantRead(t, "no such segment", d, 2, 0)
	wantNoRead(t, "no such segment", d, 2, 1, api.ErrLost)
}

func TestP18_3WrongArguments(t *testing.T) {
	d := newDisk(t, 20)
	wantAppend(t, d, 0, 0, 1, rising(10), 1)
	for _, n := range []int{-1, math.MinInt, api.MaxNumber + 1, math.MaxInt} {
		wantNoRead(t, "segment", d, n, 1, api.ErrArg)
		wantNoRead(t, "segment", d, n, 0, api.ErrArg)
	}
	for _, n := range []int{-1, math.MinInt, 1 << 31, 1 << 32, math.MaxInt} {
		wantNoRead(t, "extents", d, 0, n, api.ErrArg)
	}
	wantNoRead(t, "the most", d, 0, 1<<31-1, api.ErrLost)
	wantNoRead(t, "the most", d, api.MaxNumber, 1<<31-1, api.ErrLost)
	wantRead(t, "it", d, 0, 1, rising(10))
}

func TestP18_3NotWholeRecords(t *testing.T) {
	d := newDisk(t, 100)
	wantAppend(t, d, 1, 0, 1, rising(300), 3)
	wantAppend(t, d, 1, 3, 2, rising(1), 1)
	wantAppend(t, d, 1, 4, 3, rising(500), 5)
	for extents := range 12 {
		switch extents {
		case 0:
			wantRead(t, "none", d, 1, extents)
		case 3:
			wantRead(t, "one", d, 1, extents, rising(300))
		case 4:
			wantRead(t, "two", d, 1, extents, rising(300), rising(1))
		case 9:
			wantRead(t, "three", d, 1, extents, rising(300), rising(1), rising(500))
		default:
			wantNoRead(t, "not whole", d, 1, extents, api.ErrLost)
		}
	}
}

// laid is a disk with payloads, each of its generation, one behind the other in a segment.
func laid(t *testing.T, gens []int, payloads ...[]byte) *disk.Disk {
	t.Helper()
	d := newDisk(t, 100000)
	for i, payload := range payloads {
		want(t, "Put", pair.Put(d, "w1", i, gens[i%len(gens)], payload), api.OK)
	}
	return d
}

func TestP18_3OnlyAsAppendWritesThem(t *testing.T) {
	whole := func(size int) []byte { return text(size, rising(size)) }
	gens := []int{5}
	for _, c := range []struct {
		what     string
		payloads [][]byte
	}{
		{"empty", [][]byte{{}}},
		{"shorter than a length", [][]byte{{0, 0, 1}}},
		{"no record", [][]byte{{0, 0, 0, 0}}},
		{"no record, and bytes", [][]byte{{0, 0, 0, 0, 1}}},
		{"a length alone", [][]byte{{0, 0, 0, 1}}},
		{"a byte too few", [][]byte{text(2, []byte("a"))}},
		{"a byte too many", [][]byte{text(1, []byte("ab"))}},
		{"a full one of too many", [][]byte{text(101, rising(102))}},
		{"a nought behind", [][]byte{text(1, []byte("a\x00"))}},
		{"another order of the length's bytes", [][]byte{{1, 0, 0, 0, 'a'}}},
		{"the first one not full", [][]byte{whole(103)[:105], whole(103)[105:]}},
		{"the first one a length", [][]byte{whole(103)[:4], whole(103)[4:]}},
		{"the first one less than a length", [][]byte{whole(103)[:3], whole(103)[3:]}},
		{"the second one not full", [][]byte{whole(250)[:106], whole(250)[106:200], whole(250)[200:]}},
		{"the last one too short", [][]byte{whole(250)[:106], whole(250)[106:212], whole(250)[212:253]}},
		{"the last one too long", [][]byte{whole(250)[:106], whole(250)[106:212], append(whole(250)[212:], 1)}},
		{"an empty one in between", [][]byte{whole(103)[:106], {}, whole(103)[106:]}},
		{"an empty one behind", [][]byte{whole(102), {}}},
		{"an empty one behind two", [][]byte{whole(208)[:106], whole(208)[106:], {}}},
		{"one missing", [][]byte{whole(250)[:106], whole(250)[106:212]}},
		{"two in one extent", [][]byte{append(whole(5), whole(5)...)}},
		{"more than a million", [][]byte{text(million+1, rising(102))}},
		{"all bits", [][]byte{text(-1, rising(102))}},
		{"a million that are not there", [][]byte{text(million, rising(102))}},
	} {
		d := laid(t, gens, c.payloads...)
		wantNoRead(t, c.what, d, 1, len(c.payloads), api.ErrLost)
		ahead := laid(t, gens, append([][]byte{whole(7)}, c.payloads...)...)
		wantNoRead(t, c.what+", behind a whole one", ahead, 1, len(c.payloads)+1, api.ErrLost)
		wantRead(t, c.what+", not yet", ahead, 1, 1, rising(7))
	}
	wantRead(t, "right", laid(t, gens, whole(250)[:106], whole(250)[106:212], whole(250)[212:]), 1, 3, rising(250))
	wantRead(t, "right", laid(t, gens, whole(102), whole(1)), 1, 2, rising(102), rising(1))
	wantRead(t, "right", laid(t, gens, whole(208)[:106], whole(208)[106:]), 1, 2, rising(208))
}

func TestP18_3MoreThanAMillionThatAreThere(t *testing.T) {
	for _, c := range []struct {
		size int
		ok   bool
	}{{million, true}, {million + 1, false}} {
		d := newDisk(t, 100000)
		b, extents := text(c.size, rising(c.size)), 0
		for part := range slices.Chunk(b, api.Load) {
			for _, file := range []string{"w1.a", "w1.b"} {
				want(t, "Write", d.Write(file, extents, framed(t, file, extents, 3, part)), api.OK)
			}
			extents++
		}
		if c.ok {
			wantRead(t, "a million", d, 1, extents, rising(c.size))
		} else {
			wantNoRead(t, "more than a million", d, 1, extents, api.ErrLost)
		}
	}
}

func TestP18_3OneGeneration(t *testing.T) {
	b := text(250, rising(250))
	parts := [][]byte{b[:106], b[106:212], b[212:]}
	for _, gens := range [][]int{{5, 5, 6}, {5, 6, 5}, {6, 5, 5}, {5, 4, 5}, {0, 0, 1}, {1, 0, 0}, {0, api.MaxNumber, 0}} {
		wantNoRead(t, fmt.Sprint(gens), laid(t, gens, parts...), 1, 3, api.ErrLost)
	}
	for _, gens := range [][]int{{0, 0, 0}, {5, 5, 5}, {api.MaxNumber, api.MaxNumber, api.MaxNumber}} {
		wantRead(t, fmt.Sprint(gens), laid(t, gens, parts...), 1, 3, rising(250))
	}
	short := text(3, []byte("abc"))
	wantRead(t, "one a record", laid(t, []int{9, 2, 2, 0}, short, short, short, short), 1, 4, []byte("abc"), []byte("abc"), []byte("abc"), []byte("abc"))
}

// What pair.Get takes counts: of halves that part the one of the greater generation.
func TestP18_3HalvesThatPart(t *testing.T) {
	d := newDisk(t, 20)
	wantAppend(t, d, 1, 0, 5, rising(150), 2)
	newer := text(3, []byte("new"))
	want(t, "Write", d.Write("w1.b", 0, framed(t, "w1.b", 0, 6, newer)), api.OK)
	wantNoRead(t, "one newer", d, 1, 2, api.ErrLost)
	wantRead(t, "the newer one alone", d, 1, 1, []byte("new"))
	want(t, "Write", d.Write("w1.b", 0, framed(t, "w1.b", 0, 4, newer)), api.OK)
	wantRead(t, "one older", d, 1, 2, rising(150))
	want(t, "Write", d.Write("w1.b", 0, framed(t, "w1.b", 0, 5, newer)), api.OK)
	wantRead(t, "equal ones", d, 1, 2, rising(150))
}

func TestP18_3OneLost(t *testing.T) {
	good := newDisk(t, 40)
	wantAppend(t, good, 1, 0, 1, rising(300), 3)
	wantAppend(t, good, 1, 3, 2, rising(200), 2)
	for i := range 5 {
		d := good.Copy()
		d.Rot("w1.a", i, 30, 1)
		d.Rot("w1.b", i, 90, 1)
		wantNoRead(t, "lost", d, 1, 5, api.ErrLost)
		if i >= 3 {
			wantRead(t, "ahead of it", d, 1, 3, rising(300))
		}
	}
}

// plainRead is Read as the chapter says it, of payloads and their generations.
func plainRead(gens []int, payloads [][]byte) ([][]byte, bool) {
	if len(payloads) == 0 {
		return nil, true
	}
	for size := 1; size <= 700; size++ {
		if !bytes.HasPrefix(payloads[0], text(size, nil)) {
			continue
		}
		parts := slices.Collect(slices.Chunk(text(size, rising(size)), api.Load))
		n := len(parts)
		if n > len(payloads) {
			return nil, false
		}
		for i, part := range parts {
			if len(payloads[i]) != len(part) || gens[i] != gens[0] {
				return nil, false
			}
		}
		rest, ok := plainRead(gens[n:], payloads[n:])
		return append([][]byte{bytes.Join(payloads[:n], nil)[4:]}, rest...), ok
	}
	return nil, false
}

func TestP18_3ReadOfAny(t *testing.T) {
	r := rand.New(rand.NewSource(183))
	taken := 0
	for range 5000 {
		var gens []int
		var payloads [][]byte
		for range r.Intn(4) {
			gen, size := r.Intn(3), 1+r.Intn(350)
			b := text(size, rising(size))
			if r.Intn(8) == 0 {
				b[3] += byte(r.Intn(3) - 1)
			}
			for part := range slices.Chunk(b, api.Load) {
				gens, payloads = append(gens, gen), append(payloads, part)
			}
		}
		if n := len(payloads); n > 0 && r.Intn(3) == 0 {
			i := r.Intn(n)
			switch r.Intn(3) {
			case 0:
				gens[i] = r.Intn(3)
			case 1:
				payloads[i] = payloads[i][:r.Intn(len(payloads[i])+1)]
			case 2:
				payloads[i], payloads[r.Intn(n)] = payloads[r.Intn(n)], payloads[i]
			}
		}
		d := newDisk(t, 100)
		for i, payload := range payloads {
			want(t, "Put", pair.Put(d, "w1", i, gens[i], payload), api.OK)
		}
		for extents := range len(payloads) + 1 {
			if wanted, ok := plainRead(gens[:extents], payloads[:extents]); ok {
				wantRead(t, "any", d, 1, extents, wanted...)
				taken++
			} else {
				wantNoRead(t, "any", d, 1, extents, api.ErrLost)
			}
		}
	}
	if taken < 6000 {
		t.Errorf("%d were taken", taken)
	}
}

// appended is a disk with records in the segment 1, and how many extents they have.
func appended(t *testing.T, room int, l [][]byte) (*disk.Disk, int) {
	t.Helper()
	d, at := newDisk(t, room), 0
	for i, rec := range l {
		wantAppend(t, d, 1, at, i+1, rec, Need(len(rec)))
		at += Need(len(rec))
	}
	return d, at
}

func someRecords(r *rand.Rand) [][]byte {
	var l [][]byte
	for range r.Intn(8) {
		rec := make([]byte, 1+r.Intn(50+r.Intn(600)))
		r.Read(rec)
		l = append(l, rec)
	}
	return l
}

func TestP18_4WhatWasAppendedIsRead(t *testing.T) {
	r := rand.New(rand.NewSource(184))
	for range 1000 {
		l := someRecords(r)
		d, extents := appended(t, 200, l)
		wantRead(t, "appended", d, 1, extents, l...)
		d.Crash(nil)
		wantRead(t, "crashed", d, 1, extents, l...)
		for i := range extents {
			file := []string{"w1.a", "w1.b"}[r.Intn(2)]
			for range r.Intn(3) * r.Intn(60) {
				d.Rot(file, i, r.Intn(api.Size), byte(r.Intn(256)))
			}
		}
		wantRead(t, "turned", d, 1, extents, l...)
	}
}

func TestP18_4AFileTurnedOrGone(t *testing.T) {
	l := [][]byte{rising(300), rising(1), rising(102), rising(103)}
	good, extents := appended(t, 40, l)
	for _, file := range []string{"w1.a", "w1.b"} {
		gone := good.Copy()
		gone.Remove(file)
		wantRead(t, file+" gone", gone, 1, extents, l...)
		want(t, "Write", gone.Write(file, 0, make([]byte, api.Size)), api.OK)
		wantRead(t, file+" short", gone, 1, extents, l...)
		for at := range api.Size {
			d := good.Copy()
			for i := range extents {
				d.Rot(file, i, at, byte(at*37%255+1))
			}
			wantRead(t, file+" turned", d, 1, extents, l...)
		}
	}
}

// image is what is read of all of a disk's extents.
func image(t *testing.T, d *disk.Disk) map[api.Spot]string {
	t.Helper()
	all := map[api.Spot]string{}
	for _, name := range d.List() {
		for i := range d.Extents(name) {
			b, e := d.Read(name, i)
			want(t, name, e, api.OK)
			all[api.Spot{Name: name, Index: i}] = string(b)
		}
	}
	return all
}

func TestP18_5NothingAheadIsTurned(t *testing.T) {
	r := rand.New(rand.NewSource(185))
	for range 300 {
		l := append(someRecords(r), rising(40))
		d, extents := appended(t, 300, l)
		wantAppend(t, d, 2, 0, 1, rising(200), 2)
		before := image(t, d)
		rec := rising(1 + r.Intn(900))
		d.Fuse(r.Intn(30))
		Append(d, 1, extents, 99, rec)
		behind := image(t, d)
		for spot, b := range before {
			if behind[spot] != b {
				t.Fatalf("%v is another one", spot)
			}
		}
		wantRead(t, "ahead", d, 1, extents, l...)
		d.Crash(nil)
		wantRead(t, "ahead, crashed", d, 1, extents, l...)
		wantRead(t, "another segment", d, 2, 2, rising(200))
		wantAppend(t, d, 1, extents, 99, rec, Need(len(rec)))
		wantRead(t, "once more", d, 1, extents+Need(len(rec)), append(l, rec)...)
	}
}

// Over a record in the midst what stands ahead of it is as it was.
func TestP18_5NothingAheadIsTurnedByWhatGoesOver(t *testing.T) {
	l := [][]byte{rising(300), rising(50), rising(250)}
	d, _ := appended(t, 60, l)
	wantAppend(t, d, 1, 3, 9, rising(10), 1)
	wantRead(t, "over", d, 1, 7, rising(300), rising(10), rising(250))
	wantAppend(t, d, 1, 3, 10, rising(110), 2)
	wantRead(t, "over two", d, 1, 5, rising(300), rising(110))
	wantNoRead(t, "what is left of another one", d, 1, 7, api.ErrLost)
}

func TestReadingChangesNothing(t *testing.T) {
	d, extents := appended(t, 40, [][]byte{rising(300), rising(50)})
	d.Rot("w1.a", 1, 40, 1)
	d.Write("w1.b", 3, make([]byte, api.Size))
	before := d.Copy()
	Read(d, 1, extents)
	Read(d, 1, 1)
	Read(d, 2, 2)
	wantSame(t, "read", d, before)
}

func TestArgumentsAreLeftAsTheyAre(t *testing.T) {
	room := append(rising(150), 200, 201, 202)
	d := newDisk(t, 20)
	wantAppend(t, d, 1, 0, 1, room[:150], 2)
	if !bytes.Equal(room, append(rising(150), 200, 201, 202)) {
		t.Error("changed")
	}
	for i := range room {
		room[i] = 0xee
	}
	wantRead(t, "kept", d, 1, 2, rising(150))
}

func TestAnswersAreNewMemory(t *testing.T) {
	l := [][]byte{rising(300), rising(50), rising(102), rising(1)}
	d, extents := appended(t, 40, l)
	first, _ := Read(d, 1, extents)
	second, _ := Read(d, 1, extents)
	for i, rec := range first {
		for j := range rec[:cap(rec)] {
			rec[:cap(rec)][j] = 0xee
		}
		for j, other := range first[i+1:] {
			if !bytes.Equal(other, l[i+1+j]) {
				t.Error("two records share memory")
			}
		}
	}
	clear(first[:cap(first)])
	if !slices.EqualFunc(second, l, bytes.Equal) {
		t.Error("two answers share memory")
	}
	wantRead(t, "once more", d, 1, extents, l...)
}
