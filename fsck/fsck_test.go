package fsck

import (
	"bytes"
	"encoding/binary"
	"fmt"
	"math"
	"reflect"
	"slices"
	"testing"

	"dryrot/anchor"
	"dryrot/api"
	"dryrot/block"
	"dryrot/disk"
	"dryrot/pair"
)

func newDisk(t *testing.T, room int) *disk.Disk {
	t.Helper()
	d, e := disk.New(room)
	if e != api.OK {
		t.Fatal(e)
	}
	return d
}

func want(t *testing.T, what string, got, wanted api.Errno) {
	t.Helper()
	if got != wanted {
		t.Errorf("%s: %d, not %d", what, int(got), int(wanted))
	}
}

func wantSame(t *testing.T, what string, d, wanted *disk.Disk) {
	t.Helper()
	if !reflect.DeepEqual(d, wanted) {
		t.Errorf("%s: the disk is another one: %s, not %s", what, brief(d.List()), brief(wanted.List()))
	}
}

func brief(x any) string { return fmt.Sprintf("%.300s", fmt.Sprintf("%+v", x)) }

func sameBlock(a, b api.Footer) bool {
	return slices.Equal(a.Parents, b.Parents) && reflect.DeepEqual(bare(a), bare(b))
}

func same(a, b []api.Footer) bool { return slices.EqualFunc(a, b, sameBlock) }

func bare(f api.Footer) api.Footer {
	f.Parents = nil
	return f
}

func bares(l []api.Footer) []api.Footer {
	var all []api.Footer
	for _, f := range l {
		all = append(all, bare(f))
	}
	return all
}

// of is a block that may be, with its number for its rank.
func of(number int) api.Footer {
	return api.Footer{Number: number, Gen: 1, Level: 1, Rank: number, Min: 1, Max: 9, Bytes: 10}
}

// with is a block as it is but for what change does.
func with(change func(f *api.Footer)) api.Footer {
	f := of(7)
	change(&f)
	return f
}

// many is n blocks.
func many(n int) []api.Footer {
	var l []api.Footer
	for i := range n {
		l = append(l, of(i+1))
	}
	return l
}

// rightLists is blocks that may be a store's, the edges among them.
func rightLists() [][]api.Footer {
	lists := [][]api.Footer{nil, {}, many(1), many(3), many(999), many(1000), {with(func(f *api.Footer) { f.Number = 9 }), of(8)}}
	for _, n := range []int{1, 2, 1 << 40, api.MaxNumber - 1, api.MaxNumber} {
		lists = append(lists, []api.Footer{with(func(f *api.Footer) { f.Number = n })}, []api.Footer{with(func(f *api.Footer) { f.Rank = n })}, []api.Footer{with(func(f *api.Footer) { f.Gen = n })})
	}
	for _, n := range []int{1, 2, 3} {
		lists = append(lists, []api.Footer{with(func(f *api.Footer) { f.Level = n })})
	}
	for _, n := range []int{0, 1, 255, 256, 1<<31 - 1} {
		lists = append(lists, []api.Footer{with(func(f *api.Footer) { f.Bytes = n })})
	}
	for _, n := range []int{math.MinInt, -1, 0, 1, math.MaxInt} {
		lists = append(lists, []api.Footer{with(func(f *api.Footer) { f.Min, f.Max = n, n })}, []api.Footer{with(func(f *api.Footer) { f.Min, f.Max = math.MinInt, math.MaxInt })})
	}
	return lists
}

// wrongBlocks is blocks each of which may not be.
func wrongBlocks() []api.Footer {
	l := []api.Footer{{}}
	for _, n := range []int{0, -1, api.MaxNumber + 1, math.MaxInt, math.MinInt} {
		l = append(l, with(func(f *api.Footer) { f.Number = n }), with(func(f *api.Footer) { f.Rank = n }), with(func(f *api.Footer) { f.Gen = n }))
	}
	for _, n := range []int{0, 4, -1, 256, 1<<32 + 1, math.MaxInt} {
		l = append(l, with(func(f *api.Footer) { f.Level = n }))
	}
	for _, n := range []int{-1, 1 << 31, 1 << 32, math.MaxInt, math.MinInt} {
		l = append(l, with(func(f *api.Footer) { f.Bytes = n }))
	}
	return append(l, with(func(f *api.Footer) { f.Min, f.Max = 1, 0 }), with(func(f *api.Footer) { f.Min, f.Max = math.MaxInt, math.MinInt }))
}

// wrongLists is blocks that may not be a store's.
func wrongLists() [][]api.Footer {
	lists := [][]api.Footer{{of(2), of(1)}, {of(1), of(1)}, {of(1), with(func(f *api.Footer) { f.Number = 1 })}, {of(7), with(func(f *api.Footer) { f.Number = 8 })}}
	for _, f := range wrongBlocks() {
		lists = append(lists, []api.Footer{f}, []api.Footer{of(1), f}, []api.Footer{f, with(func(f *api.Footer) { f.Number, f.Rank = 50, api.MaxNumber })})
	}
	return lists
}

// plainBytes is the chapter's words, whether the blocks may be or not.
func plainBytes(l []api.Footer) []byte {
	b := binary.BigEndian.AppendUint32(nil, uint32(len(l)))
	for _, f := range l {
		for _, n := range []int{f.Number, f.Rank, f.Gen, f.Level, f.Bytes, f.Min, f.Max} {
			b = binary.BigEndian.AppendUint64(b, uint64(n))
		}
	}
	return b
}

func TestP21_1ExampleOfTheChapter(t *testing.T) {
	for _, l := range [][]api.Footer{nil, {}} {
		if b, e := Manifest(l); e != api.OK || !bytes.Equal(b, []byte{0, 0, 0, 0}) {
			t.Errorf("Manifest = % x, %d", b, int(e))
		}
	}
	if l, e := Read([]byte{0, 0, 0, 0}); e != api.OK || len(l) != 0 {
		t.Errorf("Read = %v, %d", l, int(e))
	}
}

func TestP21_1BytesWrittenOut(t *testing.T) {
	b, e := Manifest([]api.Footer{{Number: 258, Rank: 3, Gen: 4, Level: 2, Bytes: 5, Min: -1, Max: 6, Parents: []int{7, 8, 9}}})
	wanted := []byte{
		0, 0, 0, 1,
		0, 0, 0, 0, 0, 0, 1, 2,
		0, 0, 0, 0, 0, 0, 0, 3,
		0, 0, 0, 0, 0, 0, 0, 4,
		0, 0, 0, 0, 0, 0, 0, 2,
		0, 0, 0, 0, 0, 0, 0, 5,
		255, 255, 255, 255, 255, 255, 255, 255,
		0, 0, 0, 0, 0, 0, 0, 6,
	}
	if e != api.OK || !bytes.Equal(b, wanted) {
		t.Errorf("Manifest = % x, %d", b, int(e))
	}
}

func TestP21_1ManifestAndReadOfWhatMayBe(t *testing.T) {
	for _, l := range rightLists() {
		b, e := Manifest(l)
		if e != api.OK || !bytes.Equal(b, plainBytes(l)) {
			t.Errorf("Manifest(%s) = %.80x, %d", brief(l), b, int(e))
		}
		if got, e := Read(b); e != api.OK || !same(got, l) {
			t.Errorf("Read of %s = %s, %d", brief(l), brief(got), int(e))
		}
	}
}

func TestP21_1ParentsAreNotInIt(t *testing.T) {
	for _, parents := range [][]int{nil, {}, {1}, {1, 2, 3}, {-1, 0}, make([]int, 1000)} {
		f := with(func(f *api.Footer) { f.Parents = parents })
		b, e := Manifest([]api.Footer{f})
		if e != api.OK || !bytes.Equal(b, plainBytes([]api.Footer{bare(f)})) {
			t.Errorf("%s: % x, %d", brief(f), b, int(e))
		}
		if l, e := Read(b); e != api.OK || len(l) != 1 || len(l[0].Parents) != 0 {
			t.Errorf("%s: %s, %d", brief(f), brief(l), int(e))
		}
	}
}

func TestP21_1OfWhatMayNotBe(t *testing.T) {
	for _, l := range append(wrongLists(), many(1001), many(2000)) {
		if b, e := Manifest(l); e != api.ErrArg || len(b) != 0 {
			t.Errorf("Manifest(%s) = %.80x, %d", brief(l), b, int(e))
		}
		if got, e := Read(plainBytes(l)); e != api.ErrForm || len(got) != 0 {
			t.Errorf("Read of %s = %s, %d", brief(l), brief(got), int(e))
		}
	}
}

func wantNoManifest(t *testing.T, why string, b []byte) {
	t.Helper()
	if l, e := Read(b); e != api.ErrForm || len(l) != 0 {
		t.Errorf("%s: Read(%.80x) = %s, %d", why, b, brief(l), int(e))
	}
}

func TestP21_1ReadOfOtherBytes(t *testing.T) {
	wantNoManifest(t, "nil", nil)
	wantNoManifest(t, "empty", []byte{})
	for _, l := range [][]api.Footer{nil, many(1), many(3), many(1000)} {
		b := plainBytes(l)
		for n := 0; n < len(b); n += 1 + len(b)/300 {
			wantNoManifest(t, "cut", b[:n])
		}
		wantNoManifest(t, "the last byte less", b[:len(b)-1])
		for _, more := range []int{1, 4, 8, 56, 106, 112} {
			wantNoManifest(t, "more behind", append(slices.Clone(b), make([]byte, more)...))
		}
		for _, count := range []uint32{uint32(len(l)) + 1, uint32(len(l)) - 1, 1001, 1 << 16, 1 << 24, 1<<32 - 1} {
			other := slices.Clone(b)
			binary.BigEndian.PutUint32(other, count)
			wantNoManifest(t, fmt.Sprint("count of ", count), other)
		}
	}
}

func TestP21_1ArgumentsAndMemory(t *testing.T) {
	l := []api.Footer{with(func(f *api.Footer) { f.Parents = []int{1, 2} }), of(9)}
	before := []api.Footer{with(func(f *api.Footer) { f.Parents = []int{1, 2} }), of(9)}
	b, _ := Manifest(l[:1])
	if !same(l, before) {
		t.Error(brief(l))
	}
	read, _ := Read(b)
	clear(b[:cap(b)])
	if !same(read, bares(before[:1])) {
		t.Error(brief(read))
	}
	again, _ := Manifest(l[:1])
	if !bytes.Equal(again, plainBytes(l[:1])) {
		t.Error("an answer's bytes are those of another one")
	}
}

// series is one of so many samples from a time on.
func series(from, n int) []api.Series {
	s := api.Series{Labels: []api.Label{{Name: "a", Value: "x"}}}
	for i := range n {
		s.Samples = append(s.Samples, api.Sample{T: from + 10*i, V: uint64(i) * 77777777777})
	}
	if n == 0 {
		return nil
	}
	return []api.Series{s}
}

// put writes a block of a number, a generation and parents to a disk.
func put(t *testing.T, d *disk.Disk, number, gen, level, rank int, l []api.Series, parents ...int) api.Footer {
	t.Helper()
	f, e := block.Make(l, number, gen, level, rank, parents)
	want(t, "Make", e, api.OK)
	want(t, "Write", block.Write(d, f, l), api.OK)
	return f
}

func wantFound(t *testing.T, what string, d *disk.Disk, next int, wanted ...api.Footer) {
	t.Helper()
	if l, e := Found(d, next); e != api.OK || !same(l, wanted) {
		t.Errorf("%s: Found(%d) = %s, %d, not %s", what, next, brief(l), int(e), brief(wanted))
	}
}

func wantNotFound(t *testing.T, what string, d *disk.Disk, next int, wanted api.Errno) {
	t.Helper()
	if l, e := Found(d, next); e != wanted || len(l) != 0 {
		t.Errorf("%s: Found(%d) = %s, %d, not %d", what, next, brief(l), int(e), int(wanted))
	}
}

func TestP21_2Found(t *testing.T) {
	d := newDisk(t, 2000)
	wantFound(t, "nothing", d, 100)
	ten := put(t, d, 10, 3, 2, 4, series(0, 3), 7, 8, 9)
	two := put(t, d, 2, 1, 1, 50, series(100, 30))
	last := put(t, d, api.MaxNumber, 9, 1, 60, nil)
	for _, next := range []int{math.MinInt, -1, 0, 1, 2} {
		wantFound(t, "below all", d, next)
	}
	wantFound(t, "the first", d, 3, two)
	wantFound(t, "below the second", d, 10, two)
	wantFound(t, "both", d, 11, two, ten)
	wantFound(t, "both", d, api.MaxNumber, two, ten)
	wantFound(t, "all", d, api.MaxNumber+1, two, ten, last)
	wantFound(t, "all", d, math.MaxInt, two, ten, last)
}

// What is no footer's file is not asked for, nor is anything of a block but its footer.
func TestP21_2FilesThatAreFooters(t *testing.T) {
	d := newDisk(t, 2000)
	two := put(t, d, 2, 1, 1, 50, series(100, 30))
	for _, file := range []string{"f", "f3", "f3.", "f3.c", "f3.a.a", "f.a", "f03.a", "f0.a", "f00.b", "f3a.a", "ff3.a", "g3.a", "3.a", "a.f3", ".a", "f3.0", "c3.0", "i3.a", "m3.a", "t3.b", "w3.a", "anchor.a", "f9223372036854775808.a", "f99999999999999999999.b", "f3x.b", "f.3.a", "xf3.a"} {
		if e := d.Write(file, 0, make([]byte, api.Size)); e != api.OK {
			t.Fatal(file, e)
		}
	}
	for _, file := range []string{"c2.0", "c2.1", "c2.2", "c2.p", "i2.a", "i2.b"} {
		d.Remove(file)
	}
	wantFound(t, "others", d, math.MaxInt, two)
}

func TestP21_2OneHalf(t *testing.T) {
	d := newDisk(t, 2000)
	two := put(t, d, 2, 1, 1, 50, series(100, 30))
	for _, half := range []string{"f2.a", "f2.b"} {
		one := d.Copy()
		one.Remove(half)
		wantFound(t, half, one, 3, two)
		turned := d.Copy()
		turned.Rot(half, 0, 40, 4)
		wantFound(t, half, turned, 3, two)
	}
}

func TestP21_2WhatCannotBeRead(t *testing.T) {
	d := newDisk(t, 2000)
	one := put(t, d, 1, 1, 1, 50, series(100, 30))
	two := put(t, d, 2, 1, 1, 51, series(100, 30))
	turned := d.Copy()
	turned.Rot("f2.a", 0, 40, 4)
	turned.Rot("f2.b", 0, 41, 4)
	wantFound(t, "not asked", turned, 2, one)
	wantNotFound(t, "both turned", turned, 3, api.ErrLost)
	turned.Remove("f2.a")
	wantNotFound(t, "one alone, turned", turned, math.MaxInt, api.ErrLost)
	turned.Remove("f2.b")
	wantFound(t, "gone", turned, math.MaxInt, one)
	pair.Store(d, "f3", 1, []byte("no footer"))
	wantFound(t, "not asked", d, 3, one, two)
	wantNotFound(t, "no footer", d, 4, api.ErrLost)
	d = newDisk(t, 10)
	d.Write(fmt.Sprint("f", api.MaxNumber+1, ".b"), 0, make([]byte, api.Size))
	wantFound(t, "not asked", d, api.MaxNumber+1)
	wantNotFound(t, "a number beyond all", d, math.MaxInt, api.ErrLost)
}

func TestNoCallMadeIt(t *testing.T) {
	for _, d := range []*disk.Disk{nil, {}} {
		want(t, "Run", Run(d), api.ErrNil)
		for _, next := range []int{0, 5, math.MaxInt, math.MinInt} {
			wantNotFound(t, "none", d, next, api.ErrNil)
		}
	}
}

// store is a disk with an anchor of generation 5 and Next 10, four blocks of which the first is replaced by the third, and no manifest.
func store(t *testing.T) (*disk.Disk, []api.Footer) {
	t.Helper()
	d := newDisk(t, 2000)
	a := anchor.Fresh()
	a.Gen, a.Next, a.Floor = 5, 10, 50
	_, e := anchor.Save(d, a)
	want(t, "Save", e, api.OK)
	put(t, d, 1, 2, 1, 1, series(100, 3))
	put(t, d, 2, 3, 1, 2, series(0, 3)) // below the floor
	third := put(t, d, 3, 4, 2, 9, series(100, 300), 1, 7, 8)
	put(t, d, 4, 6, 1, 12, series(100, 3)) // of a later generation
	fifth := put(t, d, 5, 5, 1, 4, series(60, 45))
	empty := put(t, d, 6, 5, 1, 3, nil)
	put(t, d, 10, 5, 1, 10, series(100, 3)) // not below Next
	return d, []api.Footer{empty, fifth, third}
}

func manifestOf(t *testing.T, d *disk.Disk, gen int) []api.Footer {
	t.Helper()
	name, _ := anchor.Names(gen)
	b, e := pair.Load(d, name, gen)
	want(t, "Load", e, api.OK)
	l, e := Read(b)
	want(t, "Read", e, api.OK)
	return l
}

// written is store with its manifest.
func written(t *testing.T) (*disk.Disk, []api.Footer) {
	t.Helper()
	d, l := store(t)
	want(t, "Run", Run(d), api.OK)
	return d, l
}

func TestP21_3TheManifestAnew(t *testing.T) {
	d, l := store(t)
	wanted := d.Copy()
	pair.Store(wanted, "m5", 5, plainBytes(l))
	want(t, "Run", Run(d), api.OK)
	wantSame(t, "nothing but the manifest", d, wanted)
	if got := manifestOf(t, d, 5); !same(got, bares(l)) {
		t.Errorf("the manifest has %s, not %s", brief(got), brief(l))
	}
}

// step is what changes a disk.
type step func(d *disk.Disk) api.Errno

// wantSteps holds Run against steps, on a disk that stops behind each number of changes.
func wantSteps(t *testing.T, what string, d *disk.Disk, steps ...step) {
	t.Helper()
	for n := 0; ; n++ {
		got, wanted := d.Copy(), d.Copy()
		got.Fuse(n)
		wanted.Fuse(n)
		e := api.OK
		for _, s := range steps {
			if e = s(wanted); e != api.OK {
				break
			}
		}
		want(t, fmt.Sprint(what, ", fuse of ", n), Run(got), e)
		wantSame(t, fmt.Sprint(what, ", fuse of ", n), got, wanted)
		if e != api.ErrDead {
			return
		}
	}
}

func mending(name string, i int) step {
	return func(d *disk.Disk) api.Errno {
		_, e := pair.Mend(d, name, i)
		return e
	}
}

func storing(name string, gen int, b []byte) step {
	return func(d *disk.Disk) api.Errno { return pair.Store(d, name, gen, b) }
}

func indexing(f api.Footer) step {
	return func(d *disk.Disk) api.Errno {
		if _, e := block.Index(d, f); e != api.ErrLost && e != api.ErrArg {
			return e
		}
		return api.OK
	}
}

// turn has both halves of all extents of a pair turned.
func turn(d *disk.Disk, name string) {
	for _, half := range []string{".a", ".b"} {
		for i := range d.Extents(name + half) {
			d.Rot(name+half, i, 5*i+len(half), 1)
		}
	}
}

func TestP21_3StepByStep(t *testing.T) {
	d, l := store(t)
	all := []step{mending("anchor", 0), storing("m5", 5, plainBytes(l)), mending("m5", 0), mending("m5", 1), indexing(l[0]), indexing(l[1]), indexing(l[2])}
	wantSteps(t, "no manifest", d, all...)
	d.Rot("anchor.a", 0, 60, 9)
	turn(d, "i3")
	turn(d, "i5")
	wantSteps(t, "no manifest, anchor, indexes", d, all...)
	d.Remove("anchor.a")
	d.Remove("i5.a")
	d.Remove("i5.b")
	wantSteps(t, "no file of the anchor, the index", d, all...)
	d.Write("m5.a", 0, make([]byte, api.Size))
	wantSteps(t, "a manifest that is none", d, all...)
	pair.Store(d, "m5", 4, plainBytes(l))
	wantSteps(t, "a manifest of another generation", d, all...)
	pair.Store(d, "m5", 5, plainBytes(l)[:9])
	wantSteps(t, "bytes that are no manifest", d, all...)
	pair.Store(d, "m5", 5, plainBytes(wrongLists()[0]))
	wantSteps(t, "a manifest that may not be", d, all...)
	pair.Store(d, "m5", 5, plainBytes(l))
	turn(d, "m5")
	wantSteps(t, "a turned one", d, all...)
}

// A manifest that can be read is taken as it is: the blocks that are found play no part.
func TestP21_3AManifestThatStands(t *testing.T) {
	d, l := store(t)
	pair.Store(d, "m5", 5, plainBytes(l[1:2]))
	turn(d, "i3")
	turn(d, "i5")
	turn(d, "f1")
	rest := []step{mending("m5", 0), indexing(l[1])}
	wantSteps(t, "stands", d, append([]step{mending("anchor", 0)}, rest...)...)
	d.Rot("m5.b", 0, 60, 9)
	wantSteps(t, "a half is turned", d, append([]step{mending("anchor", 0)}, rest...)...)
	d.Remove("m5.b")
	wantSteps(t, "a half is gone", d, append([]step{mending("anchor", 0)}, rest...)...)
}

// A file of the manifest that is shorter than the other one grows to its length.
func TestP21_3AShortFile(t *testing.T) {
	d, l := written(t)
	whole := d.Copy()
	d.Remove("m5.b")
	b, _ := whole.Read("m5.b", 0)
	d.Write("m5.b", 0, b)
	d.Sync("m5.b")
	want(t, "Run", Run(d), api.OK)
	wantSame(t, "grown", d, whole)
	wantSteps(t, "both", whole, mending("anchor", 0), mending("m5", 0), mending("m5", 1), indexing(l[0]), indexing(l[1]), indexing(l[2]))
}

func wantRun(t *testing.T, what string, d *disk.Disk, wanted api.Errno) {
	t.Helper()
	before := d.Copy()
	want(t, what, Run(d), wanted)
	if wanted != api.OK {
		wantSame(t, what, d, before)
	}
}

func TestP21_3WhatCannotBeReckonedAnew(t *testing.T) {
	wantRun(t, "an empty disk", newDisk(t, 10), api.ErrAnchor)
	d, _ := written(t)
	both := d.Copy()
	turn(both, "anchor")
	wantRun(t, "no anchor", both, api.ErrAnchor)
	lost := d.Copy()
	turn(lost, "f1")
	wantRun(t, "a footer that is not needed", lost.Copy(), api.OK)
	turn(lost, "m5")
	wantRun(t, "a footer that is needed", lost, api.ErrLost)
	lost.Remove("f1.a")
	wantRun(t, "half of it", lost, api.ErrLost)
	lost.Remove("f1.b")
	wantRun(t, "none of it", lost, api.OK)
	turn(lost, "f10")
	turn(lost, "m5")
	wantRun(t, "one that is not below Next", lost, api.OK)
}

// Blocks of one rank, or too many of them, are no manifest's.
func TestP21_3FoundBlocksThatMayNotBe(t *testing.T) {
	d, _ := store(t)
	put(t, d, 9, 5, 1, 9, series(100, 3))
	wantRun(t, "two of one rank", d, api.ErrLost)
	d = newDisk(t, 9000)
	a := anchor.Fresh()
	a.Next = 5000
	anchor.Save(d, a)
	for n := range 1000 {
		pair.Store(d, fmt.Sprint("f", n+1), 1, footerBytes(t, n+1))
	}
	full := d.Copy()
	wantRun(t, "1000 blocks", full, api.OK)
	if l := manifestOf(t, full, 1); len(l) != 1000 || l[999].Number != 1000 {
		t.Error(len(l))
	}
	pair.Store(d, "f1001", 1, footerBytes(t, 1001))
	wantRun(t, "1001 blocks", d, api.ErrLost)
}

func footerBytes(t *testing.T, n int) []byte {
	t.Helper()
	f := of(n)
	b, e := block.Encode(f)
	want(t, "Encode", e, api.OK)
	return b
}

// A block whose stream is lost, or which can't be one, keeps no other from being looked after.
func TestP21_3IndexesThatCannotBeMade(t *testing.T) {
	d, l := written(t)
	turn(d, "i3")
	turn(d, "i5")
	whole := d.Copy()
	d.Rot("c5.0", 0, 3, 1)
	d.Rot("c5.2", 0, 3, 1)
	want(t, "Run", Run(d), api.OK)
	if wrote, e := block.Index(d, l[2]); wrote || e != api.OK {
		t.Error("index 3 is not made anew", wrote, e)
	}
	if _, e := block.Index(d, l[1]); e != api.ErrLost {
		t.Error(e)
	}
	d = whole
	odd := api.Footer{Number: 9, Rank: 1, Gen: 1, Level: 1, Min: 5, Max: 6}
	pair.Store(d, "m5", 5, plainBytes([]api.Footer{odd, l[2]}))
	want(t, "Run", Run(d), api.OK)
	if wrote, e := block.Index(d, l[2]); wrote || e != api.OK {
		t.Error("index 3 is not made anew", wrote, e)
	}
}

func TestP21_3NoRoom(t *testing.T) {
	d, _ := written(t)
	for n := 0; d.Free() > 0; n++ {
		d.Write("x", n, make([]byte, api.Size))
	}
	full := d.Copy()
	want(t, "full, and right", Run(full), api.OK)
	wantSame(t, "full, and right", full, d)
	turn(full, "m5")
	turn(full, "i3")
	want(t, "full, and turned", Run(full), api.OK)
	wantSame(t, "what it needs is what was there", clean(full), clean(d))
	full.Remove("anchor.b")
	full.Write("y", 0, make([]byte, api.Size))
	want(t, "no room for the anchor", Run(full), api.ErrFull)
	d.Remove("m5.b")
	d.Write("y", 0, make([]byte, api.Size))
	d.Write("y", 1, make([]byte, api.Size))
	want(t, "no room for the manifest", Run(d), api.ErrFull)
}

// clean is a disk on which nothing waits.
func clean(d *disk.Disk) *disk.Disk {
	for _, file := range d.List() {
		d.Sync(file)
	}
	return d
}

func TestP21_4RunAgainWritesNothing(t *testing.T) {
	d, _ := written(t)
	turn(d, "m5")
	turn(d, "i3")
	d.Rot("anchor.b", 0, 1, 1)
	d.Rot("c5.0", 0, 3, 1)
	d.Rot("c5.2", 0, 3, 1)
	turn(d, "i5")
	want(t, "Run", Run(d), api.OK)
	before := d.Copy()
	d.Fuse(0)
	want(t, "again", Run(d), api.OK)
	before.Fuse(0)
	wantSame(t, "again", d, before)
}

// kept is what a crash keeps of everything that waits: a number of bytes.
func kept(d *disk.Disk, bytes int) []api.Kept {
	var l []api.Kept
	for _, file := range d.List() {
		for i := range d.Extents(file) {
			l = append(l, api.Kept{Name: file, Index: i, Bytes: bytes})
		}
	}
	return l
}

// wantAnswers holds what a disk tells against what a whole one does.
func wantAnswers(t *testing.T, what string, d, whole *disk.Disk, l []api.Footer) {
	t.Helper()
	want(t, what, Run(d), api.OK)
	if blocks := manifestOf(t, d, 5); !same(blocks, bares(l)) {
		t.Errorf("%s: %s", what, brief(blocks))
	}
	for _, f := range l {
		found, e := block.Select(d, f, nil, math.MinInt, math.MaxInt)
		wanted, _ := block.Select(whole, f, nil, math.MinInt, math.MaxInt)
		if e != api.OK || !reflect.DeepEqual(found, wanted) {
			t.Errorf("%s: %s, %d", what, brief(found), int(e))
		}
	}
}

func TestP21_5StoppedAnywhere(t *testing.T) {
	whole, l := written(t)
	d := whole.Copy()
	d.Rot("anchor.a", 0, 1, 1)
	turn(d, "m5")
	turn(d, "i3")
	turn(d, "i5")
	for n, stopped := 0, true; stopped; n++ {
		got := d.Copy()
		got.Fuse(n)
		stopped = Run(got) == api.ErrDead
		for _, bytes := range []int{0, 3, 64, 127, 128} {
			crashed := got.Copy()
			crashed.Crash(kept(crashed, bytes))
			wantAnswers(t, fmt.Sprintf("stopped behind %d, %d bytes kept", n, bytes), crashed, whole, l)
		}
		got.Fuse(1 << 30)
		wantAnswers(t, fmt.Sprintf("stopped behind %d, no crash", n), got, whole, l)
		got.Crash(nil)
		wantAnswers(t, fmt.Sprintf("stopped behind %d, a crash behind it", n), got, whole, l)
	}
	if len(d.Damaged()) == 0 {
		t.Error("nothing is turned")
	}
}
