package disk

import (
	"bytes"
	"fmt"
	"math"
	"math/rand"
	"slices"
	"sort"
	"strings"
	"testing"

	"dryrot/api"
)

func fill(c byte) []byte { return bytes.Repeat([]byte{c}, api.Size) }

func someBytes(r *rand.Rand) []byte {
	b := make([]byte, api.Size)
	r.Read(b)
	return b
}

func newDisk(t *testing.T, room int) *Disk {
	t.Helper()
	d, e := New(room)
	if d == nil || e != api.OK {
		t.Fatalf("New(%d) = %v, %v", room, d, e)
	}
	return d
}

func want(t *testing.T, what string, got, wanted api.Errno) {
	t.Helper()
	if got != wanted {
		t.Errorf("%s: %d, not %d", what, int(got), int(wanted))
	}
}

func wantRead(t *testing.T, d *Disk, name string, i int, wanted []byte) {
	t.Helper()
	b, e := d.Read(name, i)
	if e != api.OK || !bytes.Equal(b, wanted) {
		t.Errorf("Read(%q, %d) = % x, %d, not % x", name, i, b, int(e), wanted)
	}
}

func wantDamaged(t *testing.T, d *Disk, wanted ...api.Spot) {
	t.Helper()
	if got := d.Damaged(); !slices.Equal(got, wanted) {
		t.Errorf("Damaged() = %v, not %v", got, wanted)
	}
}

func spot(name string, i int) api.Spot { return api.Spot{Name: name, Index: i} }

func kept(name string, i, n int) api.Kept { return api.Kept{Name: name, Index: i, Bytes: n} }

// written is a disk with a file of synced extents, each filled with its number and 1.
func written(t *testing.T, name string, extents int) *Disk {
	t.Helper()
	d := newDisk(t, 100)
	for i := range extents {
		want(t, "Write", d.Write(name, i, fill(byte(i+1))), api.OK)
	}
	want(t, "Sync", d.Sync(name), api.OK)
	return d
}

func TestP3_1NewRoom(t *testing.T) {
	for _, room := range []int{0, 1, 2, api.MaxRoom - 1, api.MaxRoom} {
		d, e := New(room)
		if e != api.OK || d.Free() != room || len(d.List()) != 0 || len(d.Damaged()) != 0 {
			t.Errorf("New(%d) = %v, %d", room, d, int(e))
		}
	}
	for _, room := range []int{-1, api.MaxRoom + 1, math.MinInt, math.MaxInt} {
		if d, e := New(room); d != nil || e != api.ErrArg {
			t.Errorf("New(%d) = %v, %d", room, d, int(e))
		}
	}
}

func TestP3_1WriteNames(t *testing.T) {
	good := []string{"a", "z", "0", "9", ".", "..", "a.0", "abcdefghijklmnopqrstuvwx", "yz0123456789."}
	bad := []string{"", "A", "Z", "a b", "a/b", "a-", "_", "`", "{", ":", "/", "a\x00", "\xff", "é", "abcdefghijklmnopqrstuvwxy", strings.Repeat("a", 1000)}
	d := newDisk(t, 100)
	for _, name := range good {
		want(t, name, d.Write(name, 0, fill(1)), api.OK)
	}
	for _, name := range bad {
		want(t, name, d.Write(name, 0, fill(1)), api.ErrArg)
	}
	sort.Strings(good)
	if got := d.List(); !slices.Equal(got, good) {
		t.Errorf("List() = %q", got)
	}
}

func TestP3_1EachByteOfAName(t *testing.T) {
	for c := range 256 {
		d := newDisk(t, 1)
		wanted := api.ErrArg
		if strings.Contains("abcdefghijklmnopqrstuvwxyz0123456789.", string([]byte{byte(c)})) {
			wanted = api.OK
		}
		want(t, fmt.Sprintf("byte %02x", c), d.Write("a"+string([]byte{byte(c)}), 0, fill(1)), wanted)
	}
}

func TestP3_1WriteWrong(t *testing.T) {
	d := written(t, "a", 2)
	for _, size := range []int{0, 1, api.Size - 1, api.Size + 1, 2 * api.Size} {
		want(t, fmt.Sprint("size ", size), d.Write("a", 0, make([]byte, size)), api.ErrArg)
	}
	for _, i := range []int{-1, 3, math.MinInt, math.MaxInt} {
		want(t, fmt.Sprint("extent ", i), d.Write("a", i, fill(1)), api.ErrArg)
	}
	for _, i := range []int{-1, 1, 2} {
		want(t, fmt.Sprint("extent of a new file ", i), d.Write("b", i, fill(1)), api.ErrArg)
	}
	if d.Extents("a") != 2 || d.Free() != 98 || len(d.List()) != 1 {
		t.Error("what is refused has changed something")
	}
	want(t, "the next one", d.Write("a", 2, fill(1)), api.OK)
}

func TestP3_1WriteIsReadAtOnce(t *testing.T) {
	d := written(t, "a", 3)
	want(t, "Write", d.Write("a", 1, fill(9)), api.OK)
	wantRead(t, d, "a", 0, fill(1))
	wantRead(t, d, "a", 1, fill(9))
	wantRead(t, d, "a", 2, fill(3))
	want(t, "Write", d.Write("a", 1, fill(8)), api.OK)
	wantRead(t, d, "a", 1, fill(8))
	if d.Extents("a") != 3 || d.Free() != 97 {
		t.Error("an extent that is there takes room anew")
	}
}

func TestP3_1Full(t *testing.T) {
	d := newDisk(t, 2)
	want(t, "first", d.Write("a", 0, fill(1)), api.OK)
	want(t, "second", d.Write("b", 0, fill(1)), api.OK)
	want(t, "third", d.Write("a", 1, fill(1)), api.ErrFull)
	want(t, "new file", d.Write("c", 0, fill(1)), api.ErrFull)
	want(t, "wrong and full", d.Write("c", 1, fill(1)), api.ErrArg)
	want(t, "one that is there", d.Write("a", 0, fill(2)), api.OK)
	if d.Free() != 0 || d.Extents("a") != 1 || d.Extents("c") != 0 || !slices.Equal(d.List(), []string{"a", "b"}) {
		t.Error("what is refused has changed something")
	}
	want(t, "Remove", d.Remove("b"), api.OK)
	want(t, "room again", d.Write("c", 0, fill(1)), api.OK)
	want(t, "no room", newDisk(t, 0).Write("a", 0, fill(1)), api.ErrFull)
}

func TestP3_1SyncOneFile(t *testing.T) {
	d := newDisk(t, 10)
	for _, name := range []string{"a", "b"} {
		d.Write(name, 0, fill(1))
		d.Write(name, 1, fill(2))
	}
	want(t, "Sync", d.Sync("a"), api.OK)
	want(t, "Crash", d.Crash(nil), api.OK)
	wantRead(t, d, "a", 0, fill(1))
	wantRead(t, d, "a", 1, fill(2))
	wantRead(t, d, "b", 0, fill(0))
	wantRead(t, d, "b", 1, fill(0))
	wantDamaged(t, d)
}

func TestP3_1SyncOfWhatDoesNotWait(t *testing.T) {
	d := written(t, "a", 2)
	d.Rot("a", 0, 3, 0xff)
	d.Write("a", 1, fill(5))
	want(t, "Sync", d.Sync("a"), api.OK)
	turned := fill(1)
	turned[3] = 0xfe
	wantRead(t, d, "a", 0, turned)
	wantDamaged(t, d, spot("a", 0))
}

func TestP3_1NoSuchFile(t *testing.T) {
	d := written(t, "a", 1)
	for _, name := range []string{"", "b", "A", "a.", strings.Repeat("a", 100)} {
		want(t, "Sync "+name, d.Sync(name), api.ErrFile)
		want(t, "Remove "+name, d.Remove(name), api.ErrFile)
	}
}

func TestP3_1Remove(t *testing.T) {
	d := written(t, "a", 3)
	d.Write("b", 0, fill(7))
	want(t, "Remove", d.Remove("a"), api.OK)
	if d.Free() != 99 || d.Extents("a") != 0 || !slices.Equal(d.List(), []string{"b"}) {
		t.Error("the file is still there", d.Free(), d.Extents("a"), d.List())
	}
	want(t, "again", d.Remove("a"), api.ErrFile)
	want(t, "Crash", d.Crash(nil), api.OK)
	if _, e := d.Read("a", 0); e != api.ErrFile {
		t.Error("a crash brings back what was removed")
	}
	want(t, "an extent of the old file", d.Write("a", 1, fill(1)), api.ErrArg)
	want(t, "anew", d.Write("a", 0, fill(4)), api.OK)
	d.Crash(nil)
	wantRead(t, d, "a", 0, fill(0))
}

func TestP3_1Fuse(t *testing.T) {
	d := written(t, "a", 2)
	want(t, "Fuse", d.Fuse(3), api.OK)
	want(t, "wrong name", d.Write("A", 0, fill(1)), api.ErrArg)
	want(t, "no file", d.Sync("b"), api.ErrFile)
	want(t, "no file", d.Remove("b"), api.ErrFile)
	want(t, "first", d.Write("a", 0, fill(8)), api.OK)
	want(t, "second", d.Sync("a"), api.OK)
	want(t, "third", d.Remove("a"), api.OK)
	want(t, "fourth", d.Write("a", 0, fill(8)), api.ErrDead)
	want(t, "fifth", d.Write("a", 0, fill(8)), api.ErrDead)
	want(t, "still wrong", d.Write("A", 0, fill(8)), api.ErrArg)
	want(t, "still no file", d.Sync("a"), api.ErrFile)
	want(t, "still no file", d.Remove("a"), api.ErrFile)
}

func TestP3_1DeadDiskChangesNothing(t *testing.T) {
	d := written(t, "a", 2)
	d.Write("a", 0, fill(8))
	want(t, "Fuse", d.Fuse(0), api.OK)
	want(t, "Write", d.Write("a", 1, fill(9)), api.ErrDead)
	want(t, "Write of a new one", d.Write("a", 2, fill(9)), api.ErrDead)
	want(t, "Write of a new file", d.Write("b", 0, fill(9)), api.ErrDead)
	want(t, "Sync", d.Sync("a"), api.ErrDead)
	want(t, "Remove", d.Remove("a"), api.ErrDead)
	wantRead(t, d, "a", 0, fill(8))
	wantRead(t, d, "a", 1, fill(2))
	if d.Extents("a") != 2 || d.Free() != 98 || !slices.Equal(d.List(), []string{"a"}) {
		t.Error("a disk that has stopped changed")
	}
	d.Crash(nil)
	wantRead(t, d, "a", 0, fill(1))
}

func TestP3_1DeadAheadOfFull(t *testing.T) {
	d := newDisk(t, 0)
	d.Fuse(0)
	want(t, "Write", d.Write("a", 0, fill(1)), api.ErrDead)
}

// A change is what neither ErrArg nor ErrFile refuses, so that one without room is one.
func TestP3_1FullIsAChange(t *testing.T) {
	d := newDisk(t, 1)
	d.Write("a", 0, fill(1))
	d.Fuse(2)
	want(t, "full", d.Write("b", 0, fill(1)), api.ErrFull)
	want(t, "second", d.Sync("a"), api.OK)
	want(t, "third", d.Sync("a"), api.ErrDead)
}

func TestP3_1SyncOfNothingIsAChange(t *testing.T) {
	d := written(t, "a", 1)
	d.Fuse(1)
	want(t, "first", d.Sync("a"), api.OK)
	want(t, "second", d.Sync("a"), api.ErrDead)
}

func TestP3_2Read(t *testing.T) {
	d := written(t, "a", 2)
	wantRead(t, d, "a", 0, fill(1))
	wantRead(t, d, "a", 1, fill(2))
	for _, s := range []api.Spot{spot("a", -1), spot("a", 2), spot("a", math.MaxInt), spot("a", math.MinInt), spot("b", 0), spot("", 0), spot("A", 0)} {
		if b, e := d.Read(s.Name, s.Index); len(b) != 0 || e != api.ErrFile {
			t.Errorf("Read(%v) = % x, %d", s, b, int(e))
		}
	}
}

func TestP3_2ExtentsListFree(t *testing.T) {
	d := newDisk(t, 9)
	for _, name := range []string{"b", "a.1", "a", "0", "ab", "."} {
		d.Write(name, 0, fill(1))
	}
	d.Write("b", 1, fill(1))
	if got := d.List(); !slices.Equal(got, []string{".", "0", "a", "a.1", "ab", "b"}) {
		t.Errorf("List() = %q", got)
	}
	for name, n := range map[string]int{"b": 2, "a": 1, "c": 0, "": 0, "B": 0} {
		if d.Extents(name) != n {
			t.Errorf("Extents(%q) = %d, not %d", name, d.Extents(name), n)
		}
	}
	if d.Free() != 2 {
		t.Errorf("Free() = %d", d.Free())
	}
}

func TestP3_3RotOfWhatDoesNotWait(t *testing.T) {
	d := written(t, "a", 2)
	for _, at := range []int{0, 64, api.Size - 1} {
		want(t, "Rot", d.Rot("a", 1, at, 0x81), api.OK)
		turned := fill(2)
		turned[at] = 0x83
		wantRead(t, d, "a", 1, turned)
		wantDamaged(t, d, spot("a", 1))
		want(t, "Rot back", d.Rot("a", 1, at, 0x81), api.OK)
		wantRead(t, d, "a", 1, fill(2))
		wantDamaged(t, d)
	}
	want(t, "Rot of no bit", d.Rot("a", 1, 0, 0), api.OK)
	wantRead(t, d, "a", 1, fill(2))
	wantRead(t, d, "a", 0, fill(1))
}

func TestP3_3RotOfWhatWaits(t *testing.T) {
	d := written(t, "a", 1)
	d.Write("a", 0, fill(9))
	want(t, "Rot", d.Rot("a", 0, 5, 0xf0), api.OK)
	wantRead(t, d, "a", 0, fill(9))
	wantDamaged(t, d, spot("a", 0))
	twin := d.Copy()
	d.Crash(nil)
	turned := fill(1)
	turned[5] = 0xf1
	wantRead(t, d, "a", 0, turned)
	wantDamaged(t, d, spot("a", 0))
	twin.Sync("a")
	wantRead(t, twin, "a", 0, fill(9))
	wantDamaged(t, twin)
}

func TestP3_3RotWrong(t *testing.T) {
	d := written(t, "a", 1)
	for _, at := range []int{-1, api.Size, math.MinInt, math.MaxInt} {
		want(t, fmt.Sprint("at ", at), d.Rot("a", 0, at, 1), api.ErrArg)
		want(t, fmt.Sprint("no file, at ", at), d.Rot("b", 0, at, 1), api.ErrFile)
	}
	for _, i := range []int{-1, 1, math.MinInt, math.MaxInt} {
		want(t, fmt.Sprint("extent ", i), d.Rot("a", i, 0, 1), api.ErrFile)
	}
	wantRead(t, d, "a", 0, fill(1))
	wantDamaged(t, d)
}

func TestP3_3RotIsNoChange(t *testing.T) {
	d := written(t, "a", 1)
	d.Fuse(1)
	want(t, "Rot", d.Rot("a", 0, 0, 1), api.OK)
	want(t, "Write", d.Write("a", 0, fill(3)), api.OK)
	want(t, "Sync", d.Sync("a"), api.ErrDead)
	want(t, "Rot of a disk that has stopped", d.Rot("a", 0, 0, 2), api.OK)
	d.Crash(nil)
	turned := fill(1)
	turned[0] = 2
	wantRead(t, d, "a", 0, turned)
}

func TestP3_3Fuse(t *testing.T) {
	d := written(t, "a", 1)
	want(t, "Fuse", d.Fuse(0), api.OK)
	for _, n := range []int{-1, math.MinInt} {
		want(t, fmt.Sprint("Fuse ", n), d.Fuse(n), api.ErrArg)
	}
	want(t, "stays", d.Sync("a"), api.ErrDead)
	want(t, "another", d.Fuse(1), api.OK)
	want(t, "one", d.Sync("a"), api.OK)
	want(t, "no more", d.Sync("a"), api.ErrDead)
	want(t, "a long one", d.Fuse(math.MaxInt), api.OK)
	for range 10 {
		want(t, "of many", d.Sync("a"), api.OK)
	}
	want(t, "a short one in its place", d.Fuse(0), api.OK)
	want(t, "none", d.Sync("a"), api.ErrDead)
}

func TestP3_4CrashKeeps(t *testing.T) {
	for _, n := range []int{math.MinInt, -1, 0, 1, 2, 64, api.Size - 1, api.Size, api.Size + 1, math.MaxInt} {
		d := written(t, "a", 1)
		d.Write("a", 0, fill(9))
		want(t, "Crash", d.Crash([]api.Kept{kept("a", 0, n)}), api.OK)
		left := fill(1)
		for i := range left {
			if i < n {
				left[i] = 9
			}
		}
		wantRead(t, d, "a", 0, left)
		if n > 0 && n < api.Size {
			wantDamaged(t, d, spot("a", 0))
		} else {
			wantDamaged(t, d)
		}
	}
}

func TestP3_4ExampleOfTheChapter(t *testing.T) {
	d := newDisk(t, 1)
	d.Write("a", 0, fill(7))
	want(t, "Crash", d.Crash([]api.Kept{kept("a", 0, 2)}), api.OK)
	left := make([]byte, api.Size)
	left[0], left[1] = 7, 7
	wantRead(t, d, "a", 0, left)
	wantDamaged(t, d, spot("a", 0))
}

func TestP3_4FirstOfTheList(t *testing.T) {
	d := newDisk(t, 10)
	d.Write("a", 0, fill(1))
	d.Write("a", 1, fill(2))
	d.Write("b", 0, fill(3))
	want(t, "Crash", d.Crash([]api.Kept{
		kept("c", 0, 5), kept("A", 0, 5), kept("a", 2, 5), kept("a", -1, 5),
		kept("a", 1, 0), kept("a", 1, 5), kept("b", 0, -7), kept("b", 0, 128), kept("a", 0, 128), kept("a", 0, 0),
	}), api.OK)
	wantRead(t, d, "a", 0, fill(1))
	wantRead(t, d, "a", 1, fill(0))
	wantRead(t, d, "b", 0, fill(0))
	if !slices.Equal(d.List(), []string{"a", "b"}) || d.Extents("a") != 2 || d.Free() != 7 {
		t.Error("names and extents are durable at once")
	}
}

func TestP3_4WhatDoesNotWaitStays(t *testing.T) {
	d := written(t, "a", 2)
	d.Rot("a", 0, 0, 0xff)
	d.Write("a", 1, fill(9))
	want(t, "Crash", d.Crash([]api.Kept{kept("a", 0, 128), kept("a", 1, 128)}), api.OK)
	turned := fill(1)
	turned[0] = 0xfe
	wantRead(t, d, "a", 0, turned)
	wantRead(t, d, "a", 1, fill(9))
	want(t, "second Crash", d.Crash([]api.Kept{kept("a", 0, 64)}), api.OK)
	wantRead(t, d, "a", 0, turned)
}

// Bytes that a crash kept are durable, though they were not synced: a sync behind it has nothing to do.
func TestP3_4WaitsNoMore(t *testing.T) {
	d := written(t, "a", 1)
	d.Write("a", 0, fill(9))
	d.Crash([]api.Kept{kept("a", 0, 3)})
	want(t, "Sync", d.Sync("a"), api.OK)
	wantDamaged(t, d, spot("a", 0))
	d.Rot("a", 0, 100, 4)
	b, _ := d.Read("a", 0)
	if b[2] != 9 || b[3] != 1 || b[100] != 5 {
		t.Errorf("Read = % x", b)
	}
}

func TestP3_4NoFuse(t *testing.T) {
	d := written(t, "a", 1)
	d.Fuse(0)
	want(t, "ahead", d.Sync("a"), api.ErrDead)
	want(t, "Crash", d.Crash(nil), api.OK)
	want(t, "behind", d.Sync("a"), api.OK)
	d.Fuse(5)
	d.Crash(nil)
	for range 20 {
		want(t, "behind", d.Write("a", 0, fill(1)), api.OK)
	}
}

func TestP3_5Damaged(t *testing.T) {
	d := written(t, "b", 12)
	d.Write("a", 0, fill(1))
	d.Write("a.", 0, fill(1))
	for _, name := range []string{"a.", "a"} {
		d.Rot(name, 0, 1, 1)
	}
	for _, i := range []int{11, 2, 10} {
		d.Rot("b", i, 127, 0x80)
	}
	wantDamaged(t, d, spot("a", 0), spot("a.", 0), spot("b", 2), spot("b", 10), spot("b", 11))
	d.Remove("a.")
	d.Write("b", 10, fill(0))
	wantDamaged(t, d, spot("a", 0), spot("b", 2), spot("b", 10), spot("b", 11))
	d.Sync("b")
	wantDamaged(t, d, spot("a", 0), spot("b", 2), spot("b", 11))
	d.Rot("b", 2, 127, 0x80)
	wantDamaged(t, d, spot("a", 0), spot("b", 11))
}

// An extent that rots into what was written last is not damaged, nor one that rots back to what was synced.
func TestP3_5AsItWasWritten(t *testing.T) {
	d := written(t, "a", 1)
	b := fill(1)
	b[7] = 9
	d.Write("a", 0, b)
	d.Crash([]api.Kept{kept("a", 0, 7)})
	wantDamaged(t, d)
	d.Rot("a", 0, 7, 1^9)
	wantDamaged(t, d)
	wantRead(t, d, "a", 0, b)
	d.Rot("a", 0, 7, 1)
	wantDamaged(t, d, spot("a", 0))
}

func TestP3_5Copy(t *testing.T) {
	d := written(t, "a", 2)
	d.Write("a", 0, fill(5))
	d.Rot("a", 1, 0, 1)
	d.Fuse(2)
	twin := d.Copy()
	want(t, "Write", d.Write("a", 1, fill(6)), api.OK)
	want(t, "Remove", d.Remove("a"), api.OK)
	want(t, "of no fuse left", d.Write("b", 0, fill(1)), api.ErrDead)
	if twin.Extents("a") != 2 || twin.Free() != 98 || !slices.Equal(twin.List(), []string{"a"}) {
		t.Fatal("what is done to one is done to its copy")
	}
	wantRead(t, twin, "a", 0, fill(5))
	wantDamaged(t, twin, spot("a", 1))
	want(t, "first of the copy", twin.Write("b", 0, fill(7)), api.OK)
	want(t, "second of the copy", twin.Write("a", 2, fill(7)), api.OK)
	want(t, "third of the copy", twin.Sync("a"), api.ErrDead)
	twin.Crash(nil)
	wantRead(t, twin, "a", 0, fill(1))
	if d.Extents("b") != 0 || d.Free() != 100 {
		t.Error("what is done to the copy is done to the first one")
	}
}

func TestP3_5CopyHasNoFuse(t *testing.T) {
	twin := written(t, "a", 1).Copy()
	for range 20 {
		want(t, "Sync", twin.Sync("a"), api.OK)
	}
}

// An extent that the copy grows by may stand in no room that the first one's next extent takes.
func TestP3_5CopyGrowsAlone(t *testing.T) {
	d := written(t, "a", 3)
	twin := d.Copy()
	d.Write("a", 3, fill(8))
	twin.Write("a", 3, fill(9))
	wantRead(t, d, "a", 3, fill(8))
	wantRead(t, twin, "a", 3, fill(9))
}

func TestP3_6SyncedStays(t *testing.T) {
	d := written(t, "a", 2)
	d.Write("b", 0, fill(7))
	d.Write("a", 2, fill(3))
	d.Sync("b")
	d.Remove("b")
	d.Fuse(0)
	d.Write("a", 0, fill(9))
	d.Crash([]api.Kept{kept("a", 0, 50), kept("a", 1, 128)})
	wantRead(t, d, "a", 0, fill(1))
	wantRead(t, d, "a", 1, fill(2))
	wantRead(t, d, "a", 2, fill(0))
	d.Crash(nil)
	wantRead(t, d, "a", 0, fill(1))
}

func TestP3_7CrashOfAllOrNone(t *testing.T) {
	r := rand.New(rand.NewSource(37))
	for range 200 {
		d := newDisk(t, 20)
		for range 40 {
			name := string([]byte{"abc"[r.Intn(3)]})
			d.Write(name, r.Intn(d.Extents(name)+1), someBytes(r))
			if r.Intn(5) == 0 {
				d.Sync(name)
			}
		}
		var l []api.Kept
		for _, name := range d.List() {
			for i := range d.Extents(name) {
				l = append(l, kept(name, i, []int{-1, 0, api.Size, 1000}[r.Intn(4)]))
			}
		}
		d.Crash(l)
		wantDamaged(t, d)
	}
}

func TestNoCallMadeIt(t *testing.T) {
	for _, d := range []*Disk{nil, {}, new(Disk)} {
		want(t, "Write", d.Write("a", 0, fill(1)), api.ErrNil)
		want(t, "wrong Write", d.Write("A", -1, nil), api.ErrNil)
		want(t, "Sync", d.Sync("a"), api.ErrNil)
		want(t, "Remove", d.Remove("a"), api.ErrNil)
		want(t, "Rot", d.Rot("a", 0, -1, 1), api.ErrNil)
		want(t, "Fuse", d.Fuse(-1), api.ErrNil)
		want(t, "Crash", d.Crash([]api.Kept{{}}), api.ErrNil)
		if b, e := d.Read("a", 0); b != nil || e != api.ErrNil {
			t.Error("Read", b, e)
		}
		if d.Extents("a") != 0 || len(d.List()) != 0 || d.Free() != 0 || len(d.Damaged()) != 0 || d.Copy() != nil {
			t.Error("not zero")
		}
	}
}

func TestArgumentsAreLeftAsTheyAre(t *testing.T) {
	d := newDisk(t, 3)
	room := fill(4)
	room = append(room, 1, 2, 3)
	b := room[:api.Size]
	d.Write("a", 0, b)
	d.Sync("a")
	d.Rot("a", 0, 0, 0xff)
	if !bytes.Equal(room, append(fill(4), 1, 2, 3)) {
		t.Error("the bytes handed in have changed")
	}
	b[1] = 99
	read, _ := d.Read("a", 0)
	if read[1] != 4 {
		t.Error("the bytes handed in are kept")
	}
	l := []api.Kept{kept("a", 0, 2), kept("a", 0, 500)}
	d.Write("a", 0, fill(1))
	d.Crash(l)
	if !slices.Equal(l, []api.Kept{kept("a", 0, 2), kept("a", 0, 500)}) {
		t.Error("the list handed in has changed")
	}
}

func TestAnswersAreNewMemory(t *testing.T) {
	d := written(t, "a", 2)
	d.Write("a", 1, fill(9))
	for i, c := range []byte{1, 9} {
		b, _ := d.Read("a", i)
		b = append(b, 77)
		b[0] = 66
		wantRead(t, d, "a", i, fill(c))
	}
	d.Write("b", 0, fill(1))
	d.List()[0] = "z"
	if !slices.Equal(d.List(), []string{"a", "b"}) {
		t.Error("List shares memory")
	}
	d.Rot("a", 0, 0, 1)
	d.Damaged()[0] = spot("z", 9)
	wantDamaged(t, d, spot("a", 0))
}

// plain is the chapter's words: four images for each extent, in a list of files.
type plain struct {
	extents map[string][]*fourImages
	room    int
	fuse    int
}

type fourImages struct {
	read, durable, synced, written []byte
	waits                          bool
}

func (p *plain) used() int {
	n := 0
	for _, x := range p.extents {
		n += len(x)
	}
	return n
}

func (p *plain) dead() bool {
	if p.fuse == 0 {
		return true
	}
	if p.fuse > 0 {
		p.fuse--
	}
	return false
}

func (p *plain) write(name string, i int, b []byte) api.Errno {
	if i > len(p.extents[name]) {
		return api.ErrArg
	}
	if p.dead() {
		return api.ErrDead
	}
	if i == len(p.extents[name]) {
		if p.used() == p.room {
			return api.ErrFull
		}
		p.extents[name] = append(p.extents[name], &fourImages{durable: fill(0), synced: fill(0)})
	}
	x := p.extents[name][i]
	x.read, x.written, x.waits = slices.Clone(b), slices.Clone(b), true
	return api.OK
}

func (p *plain) sync(name string) api.Errno {
	if p.extents[name] == nil {
		return api.ErrFile
	}
	if p.dead() {
		return api.ErrDead
	}
	for _, x := range p.extents[name] {
		if x.waits {
			x.durable, x.synced, x.read = slices.Clone(x.written), slices.Clone(x.written), slices.Clone(x.written)
			x.waits = false
		}
	}
	return api.OK
}

func (p *plain) remove(name string) api.Errno {
	if p.extents[name] == nil {
		return api.ErrFile
	}
	if p.dead() {
		return api.ErrDead
	}
	delete(p.extents, name)
	return api.OK
}

func (p *plain) rot(name string, i, at int, mask byte) api.Errno {
	if i >= len(p.extents[name]) {
		return api.ErrFile
	}
	x := p.extents[name][i]
	x.durable[at] ^= mask
	if !x.waits {
		x.read[at] ^= mask
	}
	return api.OK
}

func (p *plain) crash(l []api.Kept) {
	for name, list := range p.extents {
		for i, x := range list {
			if !x.waits {
				continue
			}
			at := slices.IndexFunc(l, func(k api.Kept) bool { return k.Name == name && k.Index == i })
			if at >= 0 {
				n := min(max(l[at].Bytes, 0), api.Size)
				copy(x.durable[:n], x.written[:n])
			}
			x.read = slices.Clone(x.durable)
			x.waits = false
		}
	}
	p.fuse = -1
}

func (p *plain) damaged() []api.Spot {
	var l []api.Spot
	for name, list := range p.extents {
		for i, x := range list {
			if !bytes.Equal(x.durable, x.synced) && !bytes.Equal(x.durable, x.written) {
				l = append(l, spot(name, i))
			}
		}
	}
	sort.Slice(l, func(i, j int) bool {
		return l[i].Name < l[j].Name || l[i].Name == l[j].Name && l[i].Index < l[j].Index
	})
	return l
}

func compare(t *testing.T, d *Disk, p *plain) {
	t.Helper()
	files := d.List()
	if len(files) != len(p.extents) || d.Free() != p.room-p.used() {
		t.Fatal("List, Free:", files, d.Free())
	}
	for _, name := range files {
		if d.Extents(name) != len(p.extents[name]) {
			t.Fatal("Extents:", name, d.Extents(name))
		}
		for i, x := range p.extents[name] {
			wantRead(t, d, name, i, x.read)
		}
	}
	wantDamaged(t, d, p.damaged()...)
}

func TestManyCallsAsTheChapterSays(t *testing.T) {
	names := []string{"a", "b", "c.0"}
	for seed := range int64(30) {
		r := rand.New(rand.NewSource(seed))
		d := newDisk(t, 8)
		p := &plain{extents: map[string][]*fourImages{}, room: 8, fuse: -1}
		for range 300 {
			name, i := names[r.Intn(3)], r.Intn(4)
			switch k := r.Intn(20); {
			case k < 8:
				b := fill(byte(r.Intn(3)))
				want(t, "Write", d.Write(name, i, b), p.write(name, i, b))
			case k < 11:
				want(t, "Sync", d.Sync(name), p.sync(name))
			case k < 12:
				want(t, "Remove", d.Remove(name), p.remove(name))
			case k < 16:
				at, mask := r.Intn(3), byte(r.Intn(4))
				want(t, "Rot", d.Rot(name, i, at, mask), p.rot(name, i, at, mask))
			case k < 17:
				p.fuse = r.Intn(10)
				want(t, "Fuse", d.Fuse(p.fuse), api.OK)
			case k < 18:
				d = d.Copy()
			default:
				var l []api.Kept
				for range r.Intn(6) {
					l = append(l, kept(names[r.Intn(3)], r.Intn(4), r.Intn(200)-30))
				}
				p.crash(l)
				want(t, "Crash", d.Crash(l), api.OK)
			}
			compare(t, d, p)
			if t.Failed() {
				t.FailNow()
			}
		}
	}
}

func TestAFullDisk(t *testing.T) {
	d := newDisk(t, api.MaxRoom)
	b := fill(1)
	for i := range api.MaxRoom {
		if d.Write("a", i, b) != api.OK {
			t.Fatal("Write", i)
		}
	}
	want(t, "one more", d.Write("a", api.MaxRoom, b), api.ErrFull)
	want(t, "Sync", d.Sync("a"), api.OK)
	want(t, "Rot", d.Rot("a", api.MaxRoom-1, 0, 1), api.OK)
	wantDamaged(t, d, spot("a", api.MaxRoom-1))
}
