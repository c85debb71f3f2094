package stripe

import (
	"bytes"
	"fmt"
	"math"
	"math/rand"
	"reflect"
	"slices"
	"strings"
	"testing"

	"dryrot/api"
	"dryrot/disk"
	"dryrot/extent"
)

var allFiles = []string{"x.0", "x.1", "x.2", "x.p"}

func newDisk(t *testing.T, room int) *disk.Disk {
	t.Helper()
	d, e := disk.New(room)
	if e != api.OK {
		t.Fatal(e)
	}
	return d
}

func want(t *testing.T, what string, got, wanted api.Errno) {
	t.Helper()
	if got != wanted {
		t.Errorf("%s: %d, not %d", what, int(got), int(wanted))
	}
}

// rising is bytes none of which is its neighbour, so that a part in a wrong place shows.
func rising(n int) []byte {
	b := make([]byte, n)
	for i := range b {
		b[i] = byte(i%251 + 1)
	}
	return b
}

func framed(t *testing.T, file string, i, gen int, payload []byte) []byte {
	t.Helper()
	b, e := extent.Frame(file, i, gen, payload)
	if e != api.OK {
		t.Fatal(e)
	}
	return b
}

// put writes and syncs an extent of one file alone.
func put(t *testing.T, d *disk.Disk, file string, i, gen int, payload []byte) {
	t.Helper()
	if e := d.Write(file, i, framed(t, file, i, gen, payload)); e != api.OK {
		t.Fatal(file, i, e)
	}
	if e := d.Sync(file); e != api.OK {
		t.Fatal(file, e)
	}
}

func stored(t *testing.T, room int, gen int, text []byte) *disk.Disk {
	t.Helper()
	d := newDisk(t, room)
	if e := Store(d, "x", gen, text); e != api.OK {
		t.Fatal(e)
	}
	return d
}

func wantPart(t *testing.T, d *disk.Disk, gen, from int, wanted []byte) {
	t.Helper()
	if b, e := Part(d, "x", gen, from, len(wanted)); e != api.OK || !bytes.Equal(b, wanted) {
		t.Errorf("Part from %d = % x, %d, not % x", from, b, int(e), wanted)
	}
}

func wantNoPart(t *testing.T, what string, d *disk.Disk, gen, from, size int, wanted api.Errno) {
	t.Helper()
	if b, e := Part(d, "x", gen, from, size); e != wanted || len(b) != 0 {
		t.Errorf("%s: Part from %d, %d bytes = % x, %d, not %d", what, from, size, b, int(e), int(wanted))
	}
}

func wantMend(t *testing.T, what string, d *disk.Disk, gen, i int, wrote bool, wanted api.Errno) {
	t.Helper()
	if w, e := Mend(d, "x", gen, i); w != wrote || e != wanted {
		t.Errorf("%s: Mend of %d = %v, %d, not %v, %d", what, i, w, int(e), wrote, int(wanted))
	}
}

func wantSame(t *testing.T, what string, d, wanted *disk.Disk) {
	t.Helper()
	if !reflect.DeepEqual(d, wanted) {
		t.Errorf("%s: the disk is another one: %v, not %v", what, d.List(), wanted.List())
	}
}

// plainSlot is the chapter's words: a part's length, the part, noughts.
func plainSlot(part []byte) []byte {
	s := append([]byte{byte(len(part))}, part...)
	for len(s) < 106 {
		s = append(s, 0)
	}
	return s
}

func plainXor(slots ...[]byte) []byte {
	sum := make([]byte, 106)
	for _, s := range slots {
		for i := range sum {
			sum[i] ^= s[i]
		}
	}
	return sum
}

// plainPayloads is what each file's extents have of a text, file by file.
func plainPayloads(text []byte) [4][][]byte {
	parts := slices.Collect(slices.Chunk(text, 105))
	for len(parts) == 0 || len(parts)%3 != 0 {
		parts = append(parts, nil)
	}
	var out [4][][]byte
	for e, p := range parts {
		out[e%3] = append(out[e%3], p)
	}
	for i := range out[0] {
		out[3] = append(out[3], plainXor(plainSlot(out[0][i]), plainSlot(out[1][i]), plainSlot(out[2][i])))
	}
	return out
}

// step is a change of a disk.
type step func(d *disk.Disk) api.Errno

func writing(t *testing.T, file string, i, gen int, payload []byte) step {
	b := framed(t, file, i, gen, payload)
	return func(d *disk.Disk) api.Errno { return d.Write(file, i, b) }
}

func syncing(file string) step { return func(d *disk.Disk) api.Errno { return d.Sync(file) } }

func removing(file string) step { return func(d *disk.Disk) api.Errno { return d.Remove(file) } }

// wantSteps holds a call against steps, on a disk that stops behind each number of them.
func wantSteps(t *testing.T, d *disk.Disk, call step, steps ...step) {
	t.Helper()
	for n := range len(steps) + 2 {
		got, wanted := d.Copy(), d.Copy()
		got.Fuse(n)
		wanted.Fuse(n)
		e := api.OK
		for _, s := range steps {
			if e = s(wanted); e != api.OK {
				break
			}
		}
		want(t, fmt.Sprint("fuse of ", n), call(got), e)
		wantSame(t, fmt.Sprint("fuse of ", n), got, wanted)
	}
}

func storing(t *testing.T, gen int, text []byte) []step {
	var steps []step
	for f, payloads := range plainPayloads(text) {
		for i, p := range payloads {
			steps = append(steps, writing(t, allFiles[f], i, gen, p))
		}
		steps = append(steps, syncing(allFiles[f]))
	}
	return steps
}

func TestP6_1StoreStepByStep(t *testing.T) {
	for _, size := range []int{0, 1, 104, 105, 106, 210, 211, 315, 316, 630, 631, 700} {
		d := newDisk(t, 30)
		text := rising(size)
		store := func(d *disk.Disk) api.Errno { return Store(d, "x", 7, text) }
		steps := storing(t, 7, text)
		wantSteps(t, d, store, steps...)

		put(t, d, "x.1", 0, 1, []byte("old"))
		put(t, d, "x.3", 0, 1, []byte("another file"))
		put(t, d, "x", 0, 1, []byte("another file"))
		wantSteps(t, d, store, append([]step{removing("x.1")}, steps...)...)

		Store(d, "x", 9, rising(400))
		wantSteps(t, d, store, append([]step{removing("x.0"), removing("x.1"), removing("x.2"), removing("x.p")}, steps...)...)
	}
}

func TestP6_1BytesWrittenOut(t *testing.T) {
	d := stored(t, 8, 2, append(rising(315), 'z'))
	read := func(file string, i int) []byte {
		b, _ := d.Read(file, i)
		payload, gen, e := extent.Open(b, file, i)
		if e != api.OK || gen != 2 {
			t.Fatal(file, i, e)
		}
		return payload
	}
	if b := read("x.0", 0); !bytes.Equal(b, rising(105)) {
		t.Errorf("% x", b)
	}
	if b := read("x.2", 0); !bytes.Equal(b, rising(315)[210:]) {
		t.Errorf("% x", b)
	}
	if b := read("x.p", 0); len(b) != 106 || b[0] != 105 || b[1] != 1^106^211 || b[105] != 105^210^64 {
		t.Errorf("% x", b)
	}
	if b := read("x.0", 1); string(b) != "z" {
		t.Errorf("% x", b)
	}
	if b := read("x.1", 1); len(b) != 0 {
		t.Errorf("% x", b)
	}
	if b := read("x.p", 1); len(b) != 106 || b[0] != 1 || b[1] != 'z' || b[2] != 0 {
		t.Errorf("% x", b)
	}
}

func TestP6_1ExampleOfTheChapter(t *testing.T) {
	d := stored(t, 8, 0, rising(316))
	if d.Free() != 0 || Need(316) != 8 || Groups(316) != 2 {
		t.Error(d.Free(), Need(316), Groups(316))
	}
	for _, file := range allFiles {
		if n := d.Extents(file); n != 2 {
			t.Errorf("%s: %d", file, n)
		}
	}
}

func TestP6_1Generations(t *testing.T) {
	for _, gen := range []int{0, 1, api.MaxNumber} {
		wantPart(t, stored(t, 4, gen, []byte("text")), gen, 0, []byte("text"))
	}
	d := stored(t, 20, 3, rising(200))
	before := d.Copy()
	for _, gen := range []int{-1, math.MinInt, api.MaxNumber + 1, math.MaxInt} {
		want(t, "Store", Store(d, "x", gen, []byte("new")), api.ErrArg)
	}
	d.Fuse(0)
	before.Fuse(0)
	want(t, "Store on a dead disk", Store(d, "x", -1, []byte("new")), api.ErrArg)
	wantSame(t, "refused", d, before)
}

func TestP6_1NamesTheDiskRefuses(t *testing.T) {
	d := newDisk(t, 20)
	before := d.Copy()
	for _, name := range []string{"X", "x/", "\xff", strings.Repeat("n", api.MaxName-1), strings.Repeat("n", 1000)} {
		want(t, name, Store(d, name, 1, []byte("text")), api.ErrArg)
		want(t, name, Drop(d, name), api.OK)
		if b, e := Part(d, name, 1, 0, 1); e != api.ErrLost || len(b) != 0 {
			t.Errorf("%q: %q, %d", name, b, int(e))
		}
	}
	wantSame(t, "refused", d, before)
	for _, name := range []string{"", ".", strings.Repeat("n", api.MaxName-2)} {
		want(t, name, Store(d, name, 1, []byte("text")), api.OK)
		if b, e := Part(d, name, 1, 0, 4); e != api.OK || string(b) != "text" {
			t.Errorf("%q: %q, %d", name, b, int(e))
		}
	}
}

func TestP6_1FullDisk(t *testing.T) {
	d := newDisk(t, 7)
	want(t, "Store", Store(d, "x", 1, rising(400)), api.ErrFull)
	for f, n := range []int{2, 2, 2, 1} {
		if d.Extents(allFiles[f]) != n {
			t.Error(f, d.Extents(allFiles[f]))
		}
	}
	wantPart(t, d, 1, 0, rising(400))
	want(t, "Store", Store(d, "x", 2, rising(315)), api.OK)
	wantPart(t, d, 2, 0, rising(315))
}

func TestP6_2EachRange(t *testing.T) {
	const size = 430
	d := stored(t, 8, 3, rising(size))
	for from := 0; from <= size; from += 7 {
		for n := range size - from + 1 {
			wantPart(t, d, 3, from, rising(size)[from:from+n])
		}
	}
	for _, from := range []int{0, 1, 104, 105, 106, 209, 210, 211, 314, 315, 316, 419, 420, 429} {
		wantPart(t, d, 3, from, rising(size)[from:])
		wantPart(t, d, 3, from, rising(size)[from:from+1])
		wantNoPart(t, "a byte too many", d, 3, from, size-from+1, api.ErrLost)
	}
}

func TestP6_2BeyondTheEnd(t *testing.T) {
	for _, size := range []int{0, 1, 104, 105, 106, 210, 211, 314, 315, 316} {
		d := stored(t, 8, 3, rising(size))
		wantPart(t, d, 3, 0, rising(size))
		wantNoPart(t, "one more", d, 3, 0, size+1, api.ErrLost)
		wantNoPart(t, "behind it", d, 3, size, 1, api.ErrLost)
		wantNoPart(t, "far behind it", d, 3, size+1000, 1, api.ErrLost)
		wantNoPart(t, "the greatest", d, 3, math.MaxInt32, math.MaxInt32, api.ErrLost)
		wantNoPart(t, "the greatest size", d, 3, 0, math.MaxInt32, api.ErrLost)
	}
}

func TestP6_2NoBytes(t *testing.T) {
	for _, d := range []*disk.Disk{newDisk(t, 8), stored(t, 8, 3, rising(300))} {
		for _, from := range []int{0, 1, 105, 1000, math.MaxInt32} {
			for _, gen := range []int{3, 4, -1} {
				wantPart(t, d, gen, from, nil)
			}
		}
	}
}

func TestP6_2WrongArguments(t *testing.T) {
	d := stored(t, 8, 3, rising(300))
	for _, n := range []int{-1, math.MinInt, 1 << 31, math.MaxInt} {
		wantNoPart(t, "from", d, 3, n, 1, api.ErrArg)
		wantNoPart(t, "from, no bytes", d, 3, n, 0, api.ErrArg)
		wantNoPart(t, "size", d, 3, 0, n, api.ErrArg)
		wantNoPart(t, "both", d, 3, n, n, api.ErrArg)
		wantNoPart(t, "with another generation", d, 4, n, 1, api.ErrArg)
	}
}

func TestP6_2AnotherGeneration(t *testing.T) {
	d := stored(t, 8, 3, rising(300))
	for _, gen := range []int{2, 4, 0, -1, math.MinInt, math.MaxInt} {
		wantNoPart(t, "another generation", d, gen, 0, 1, api.ErrLost)
	}
	put(t, d, "x.1", 0, 4, rising(300)[105:210])
	wantPart(t, d, 3, 0, rising(300))
	wantPart(t, d, 4, 105, rising(300)[105:210])
	wantNoPart(t, "the others", d, 4, 104, 2, api.ErrLost)
	put(t, d, "x.p", 0, 2, make([]byte, 106))
	wantNoPart(t, "two of another one", d, 3, 105, 1, api.ErrLost)
	wantPart(t, d, 3, 0, rising(105))
}

func TestP6_2OneOfAGroupTurned(t *testing.T) {
	text := rising(316 + 50)
	good := stored(t, 8, 3, text)
	for _, file := range allFiles {
		for i := range 2 {
			d := good.Copy()
			d.Rot(file, i, 60, 1)
			wantPart(t, d, 3, 0, text)
		}
	}
}

func TestP6_2TwoOfAGroupTurned(t *testing.T) {
	text := rising(630)
	good := stored(t, 8, 3, text)
	for f, one := range allFiles {
		for g, two := range allFiles[:f] {
			d := good.Copy()
			d.Rot(one, 0, 60, 1)
			d.Rot(two, 0, 61, 1)
			for part := range 3 {
				if part == f || part == g {
					wantNoPart(t, one+two, d, 3, part*105, 1, api.ErrLost)
					wantNoPart(t, one+two, d, 3, part*105+104, 1, api.ErrLost)
				} else {
					wantPart(t, d, 3, part*105, text[part*105:][:105])
				}
			}
			wantPart(t, d, 3, 315, text[315:])
			wantNoPart(t, one+two, d, 3, 0, 630, api.ErrLost)
		}
	}
}

func TestP6_2TwoTurnedAndTheOthersSayAPart(t *testing.T) {
	for f, one := range allFiles {
		for _, two := range allFiles[:f] {
			d := stored(t, 4, 3, []byte("short"))
			d.Rot(one, 0, 60, 1)
			d.Rot(two, 0, 61, 1)
			if two == "x.0" {
				wantNoPart(t, one+two, d, 3, 0, 5, api.ErrLost)
			} else {
				wantPart(t, d, 3, 0, []byte("short"))
			}
			wantMend(t, one+two, d, 3, 0, false, api.ErrLost)
		}
	}
}

func TestP6_2ParityOfAWrongLengthIsNotRight(t *testing.T) {
	for _, size := range []int{0, 1, 105} {
		d := stored(t, 4, 3, nil)
		good := d.Copy()
		put(t, d, "x.p", 0, 3, make([]byte, size))
		turned := d.Copy()
		turned.Rot("x.2", 0, 1, 1)
		wantMend(t, "and another one turned", turned, 3, 0, false, api.ErrLost)
		wantMend(t, "parity alone", d, 3, 0, true, api.OK)
		wantSame(t, "mended", d, good)
	}
}

func TestP6_2RightIsMoreThanOpened(t *testing.T) {
	text := rising(300)
	good := stored(t, 8, 3, text)
	for _, c := range []struct {
		file string
		size int
	}{{"x.0", 106}, {"x.1", 106}, {"x.2", 106}, {"x.p", 105}, {"x.p", 0}} {
		d := good.Copy()
		put(t, d, c.file, 0, 3, make([]byte, c.size))
		wantPart(t, d, 3, 0, text)
		other := allFiles[0]
		if c.file == other {
			other = allFiles[1]
		}
		d.Rot(other, 0, 5, 5)
		wantNoPart(t, c.file, d, 3, 0, 300, api.ErrLost)
		wantMend(t, c.file, d, 3, 0, false, api.ErrLost)
	}
	d := good.Copy()
	d.Write("x.0", 0, framed(t, "x.1", 0, 3, text[105:210]))
	wantPart(t, d, 3, 0, text)
	d.Write("x.0", 0, framed(t, "x.0", 1, 3, text[105:210]))
	wantPart(t, d, 3, 0, text)
}

func TestP6_2ARightPartIsTakenAsItIs(t *testing.T) {
	d := stored(t, 8, 3, rising(300))
	put(t, d, "x.0", 0, 3, []byte("shorter"))
	wantPart(t, d, 3, 0, []byte("shorter"))
	wantNoPart(t, "longer than it", d, 3, 0, 8, api.ErrLost)
	wantNoPart(t, "behind its end", d, 3, 50, 1, api.ErrLost)
	wantPart(t, d, 3, 105, rising(300)[105:])
}

// saying is a disk of which the part 0 is turned, and the others' xor says this.
func saying(t *testing.T, slot []byte) *disk.Disk {
	d := newDisk(t, 8)
	one, two := []byte("one"), rising(105)
	put(t, d, "x.0", 0, 3, []byte("turned"))
	put(t, d, "x.1", 0, 3, one)
	put(t, d, "x.2", 0, 3, two)
	put(t, d, "x.p", 0, 3, plainXor(slot, plainSlot(one), plainSlot(two)))
	d.Rot("x.0", 0, 0, 1)
	return d
}

func TestP6_2WhatTheXorSays(t *testing.T) {
	for _, n := range []int{0, 1, 104, 105} {
		d := saying(t, plainSlot(rising(n)))
		wantPart(t, d, 3, 0, rising(n))
		if n < 105 {
			wantNoPart(t, "one more", d, 3, 0, n+1, api.ErrLost)
		}
		wantMend(t, "can be", d, 3, 0, true, api.OK)
		wantPart(t, d, 3, 0, rising(n))
	}
	full := plainSlot(rising(105))
	for _, length := range []byte{106, 107, 128, 255} {
		full[0] = length
		d := saying(t, full)
		wantNoPart(t, "too long", d, 3, 0, 1, api.ErrLost)
		before := d.Copy()
		wantMend(t, "too long", d, 3, 0, false, api.ErrLost)
		wantSame(t, "too long", d, before)
	}
	for _, n := range []int{0, 1, 50, 104} {
		for _, at := range []int{n + 1, 105} {
			slot := plainSlot(rising(n))
			slot[at] = 1
			d := saying(t, slot)
			wantNoPart(t, "no noughts", d, 3, 0, 1, api.ErrLost)
			wantMend(t, "no noughts", d, 3, 0, false, api.ErrLost)
			wantPart(t, d, 3, 105, []byte("one"))
		}
	}
}

func TestP6_3MendStepByStep(t *testing.T) {
	text := rising(400)
	good := stored(t, 8, 3, text)
	payloads := plainPayloads(text)
	for i := range 2 {
		mend := func(d *disk.Disk) api.Errno { _, e := Mend(d, "x", 3, i); return e }
		wantSteps(t, good, mend)
		for f, file := range allFiles {
			d := good.Copy()
			d.Rot(file, i, 127, 1)
			wantSteps(t, d, mend, writing(t, file, i, 3, payloads[f][i]), syncing(file))
		}
	}
}

func TestP6_3MendTellsWhatItWrote(t *testing.T) {
	good := stored(t, 8, 3, rising(400))
	for f, file := range allFiles {
		d := good.Copy()
		wantMend(t, "good", d, 3, f%2, false, api.OK)
		d.Rot(file, f%2, 7, 7)
		wantMend(t, "the other group", d, 3, 1-f%2, false, api.OK)
		wantMend(t, "turned", d, 3, f%2, true, api.OK)
		wantMend(t, "mended", d, 3, f%2, false, api.OK)
		wantSame(t, "mended", d, good)
	}
}

func TestP6_3MendLost(t *testing.T) {
	good := stored(t, 12, 3, rising(400))
	for _, i := range []int{2, 1000, math.MaxInt32} {
		wantMend(t, "not there", good, 3, i, false, api.ErrLost)
	}
	for _, gen := range []int{2, 4, -1, math.MinInt, math.MaxInt} {
		wantMend(t, "another generation", good, gen, 0, false, api.ErrLost)
	}
	for f := range 4 {
		for n := 2; n <= 4; n++ {
			d := good.Copy()
			for k := range n {
				d.Rot(allFiles[(f+k)%4], 1, 20, 1)
			}
			before := d.Copy()
			wantMend(t, fmt.Sprint(n, " turned"), d, 3, 1, false, api.ErrLost)
			wantSame(t, "lost", d, before)
			wantMend(t, "the other group", d, 3, 0, false, api.OK)
		}
	}
}

func TestP6_3MendWrongNumbers(t *testing.T) {
	d := stored(t, 8, 3, rising(400))
	for _, i := range []int{-1, math.MinInt, 1 << 31, math.MaxInt} {
		wantMend(t, "wrong", d, 3, i, false, api.ErrArg)
		wantMend(t, "wrong, of another generation", d, 4, i, false, api.ErrArg)
	}
}

func TestP6_3FourRightOnesStay(t *testing.T) {
	d := stored(t, 8, 3, rising(300))
	put(t, d, "x.0", 0, 3, []byte("no parity of it"))
	before := d.Copy()
	wantMend(t, "right", d, 3, 0, false, api.OK)
	wantSame(t, "right", d, before)
}

func TestP6_3MendOfAFileTooShort(t *testing.T) {
	good := stored(t, 12, 3, rising(900))
	for _, file := range allFiles {
		d := good.Copy()
		d.Remove(file)
		before := d.Copy()
		wantMend(t, "behind its end", d, 3, 1, false, api.ErrArg)
		wantSame(t, "behind its end", d, before)
		d.Fuse(0)
		wantMend(t, "dead", d, 3, 0, false, api.ErrDead)
		d.Fuse(1)
		wantMend(t, "dead ahead of the sync", d, 3, 0, false, api.ErrDead)
		d.Crash(nil)
		for i := range 3 {
			wantMend(t, "rising", d, 3, i, true, api.OK)
		}
		wantPart(t, d, 3, 0, rising(900))
		if l := d.Damaged(); len(l) != 0 || d.Extents(file) != 3 {
			t.Error(l, d.Extents(file))
		}
	}
}

func TestP6_3MendOnAFullDisk(t *testing.T) {
	d := stored(t, 4, 3, rising(300))
	d.Remove("x.2")
	put(t, d, "y", 0, 1, nil)
	wantMend(t, "no room", d, 3, 0, false, api.ErrFull)
}

func TestP6_3MendOnADeadDisk(t *testing.T) {
	d := stored(t, 8, 3, rising(300))
	d.Fuse(0)
	wantMend(t, "dead, and good", d, 3, 0, false, api.OK)
	d.Rot("x.p", 0, 0, 1)
	wantMend(t, "dead", d, 3, 0, false, api.ErrDead)
}

func TestP6_3Drop(t *testing.T) {
	drop := func(d *disk.Disk) api.Errno { return Drop(d, "x") }
	d := newDisk(t, 20)
	put(t, d, "x", 0, 1, nil)
	put(t, d, "x.3", 0, 1, nil)
	put(t, d, "xx.0", 0, 1, nil)
	wantSteps(t, d, drop)
	for set := range 16 {
		some := d.Copy()
		var steps []step
		for f, file := range allFiles {
			if set>>f&1 == 1 {
				put(t, some, file, 0, 1, nil)
				steps = append(steps, removing(file))
			}
		}
		wantSteps(t, some, drop, steps...)
	}
}

func TestP6_3NeedAndGroups(t *testing.T) {
	for _, c := range []struct{ size, groups int }{
		{math.MinInt, 1}, {-1, 1}, {0, 1}, {1, 1}, {105, 1}, {106, 1}, {315, 1}, {316, 2}, {630, 2}, {631, 3}, {math.MaxInt, math.MaxInt/315 + 1},
	} {
		if n, g := Need(c.size), Groups(c.size); n != 4*c.groups || g != c.groups {
			t.Errorf("%d bytes: %d extents, %d groups, not %d, %d", c.size, n, g, 4*c.groups, c.groups)
		}
	}
	for size := range 1000 {
		d := stored(t, 100, 1, rising(size))
		if used := 100 - d.Free(); used != Need(size) || d.Extents("x.p") != Groups(size) {
			t.Errorf("%d bytes: %d extents, %d groups", size, used, d.Extents("x.p"))
		}
	}
}

// turn turns bytes of an extent, one at least.
func turn(r *rand.Rand, d *disk.Disk, file string, i int) {
	d.Rot(file, i, r.Intn(api.Size), byte(1+r.Intn(255)))
	for range r.Intn(3) * r.Intn(60) {
		d.Rot(file, i, r.Intn(api.Size), byte(r.Intn(256)))
	}
}

func TestP6_4OneOfEachGroupTurned(t *testing.T) {
	r := rand.New(rand.NewSource(64))
	for range 300 {
		text := make([]byte, r.Intn(1500))
		r.Read(text)
		gen := r.Intn(100)
		good := stored(t, 20, gen, text)
		d := good.Copy()
		for i := range Groups(len(text)) {
			if r.Intn(4) > 0 {
				turn(r, d, allFiles[r.Intn(4)], i)
			}
		}
		damaged := len(d.Damaged())
		wantPart(t, d, gen, 0, text)
		from := r.Intn(len(text) + 1)
		wantPart(t, d, gen, from, text[from:from+r.Intn(len(text)-from+1)])
		wrote := 0
		for i := range Groups(len(text)) {
			w, e := Mend(d, "x", gen, i)
			want(t, "Mend", e, api.OK)
			if w {
				wrote++
			}
		}
		if wrote != damaged {
			t.Errorf("%d were damaged, %d written", damaged, wrote)
		}
		wantSame(t, "mended", d, good)
	}
}

func TestP6_4EachByteTurned(t *testing.T) {
	text := rising(250)
	good := stored(t, 4, 5, text)
	for _, file := range allFiles {
		for at := range api.Size {
			d := good.Copy()
			d.Rot(file, 0, at, byte(at*37%255+1))
			wantPart(t, d, 5, 0, text)
			wantMend(t, "turned", d, 5, 0, true, api.OK)
			wantSame(t, "mended", d, good)
		}
	}
}

func TestP6_4AFileGone(t *testing.T) {
	text := rising(1000)
	good := stored(t, 20, 5, text)
	for _, file := range allFiles {
		d := good.Copy()
		d.Remove(file)
		wantPart(t, d, 5, 0, text)
		for i := range Groups(1000) {
			wantMend(t, "gone", d, 5, i, true, api.OK)
		}
		wantSame(t, "mended", d, good)
	}
}

func TestNoCallMadeIt(t *testing.T) {
	for _, d := range []*disk.Disk{nil, {}} {
		want(t, "Store", Store(d, "x", 1, []byte("text")), api.ErrNil)
		want(t, "Drop", Drop(d, "x"), api.ErrNil)
		wantNoPart(t, "Part", d, 1, 0, 1, api.ErrNil)
		wantNoPart(t, "Part of no bytes", d, 1, 0, 0, api.ErrNil)
		wantMend(t, "Mend", d, 1, 0, false, api.ErrNil)
		want(t, "Store of a wrong generation", Store(d, "x", -1, nil), api.ErrNil)
		wantNoPart(t, "Part of a wrong place", d, 1, -1, 0, api.ErrNil)
		wantMend(t, "Mend of a wrong number", d, 1, -1, false, api.ErrNil)
	}
}

func TestReadingChangesNothing(t *testing.T) {
	d := stored(t, 20, 3, rising(300))
	d.Rot("x.0", 0, 40, 1)
	d.Write("x.1", 0, make([]byte, api.Size))
	before := d.Copy()
	Part(d, "x", 3, 0, 300)
	Part(d, "x", 3, 210, 90)
	wantSame(t, "read", d, before)
}

func TestArgumentsAreLeftAsTheyAre(t *testing.T) {
	room := append(rising(150), 200, 201, 202)
	d := stored(t, 20, 1, room[:150])
	if !bytes.Equal(room, append(rising(150), 200, 201, 202)) {
		t.Error("changed")
	}
	for i := range room {
		room[i] = 0xee
	}
	wantPart(t, d, 1, 0, rising(150))
}

func TestAnswersAreNewMemory(t *testing.T) {
	d := stored(t, 20, 1, rising(150))
	for _, from := range []int{0, 50} {
		b, _ := Part(d, "x", 1, from, 100)
		b = b[:cap(b)]
		for i := range b {
			b[i] = 0xee
		}
	}
	wantPart(t, d, 1, 0, rising(150))
}
