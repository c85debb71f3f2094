package pair

import (
	"bytes"
	"fmt"
	"math"
	"math/rand"
	"reflect"
	"strings"
	"testing"

	"dryrot/api"
	"dryrot/disk"
	"dryrot/extent"
)

func newDisk(t *testing.T, room int) *disk.Disk {
	t.Helper()
	d, e := disk.New(room)
	if e != api.OK {
		t.Fatal(e)
	}
	return d
}

func want(t *testing.T, what string, got, wanted api.Errno) {
	t.Helper()
	if got != wanted {
		t.Errorf("%s: %d, not %d", what, int(got), int(wanted))
	}
}

// rising is bytes none of which is its neighbour, so that a part in a wrong place shows.
func rising(n int) []byte {
	b := make([]byte, n)
	for i := range b {
		b[i] = byte(i%251 + 1)
	}
	return b
}

func framed(t *testing.T, file string, i, gen int, payload []byte) []byte {
	t.Helper()
	b, e := extent.Frame(file, i, gen, payload)
	if e != api.OK {
		t.Fatal(e)
	}
	return b
}

// put writes and syncs an extent of one file alone.
func put(t *testing.T, d *disk.Disk, file string, i, gen int, payload []byte) {
	t.Helper()
	if e := d.Write(file, i, framed(t, file, i, gen, payload)); e != api.OK {
		t.Fatal(file, i, e)
	}
	if e := d.Sync(file); e != api.OK {
		t.Fatal(file, e)
	}
}

func stored(t *testing.T, room int, gen int, text []byte) *disk.Disk {
	t.Helper()
	d := newDisk(t, room)
	if e := Store(d, "x", gen, text); e != api.OK {
		t.Fatal(e)
	}
	return d
}

func wantLoad(t *testing.T, d *disk.Disk, gen int, text []byte) {
	t.Helper()
	if b, e := Load(d, "x", gen); e != api.OK || !bytes.Equal(b, text) {
		t.Errorf("Load of generation %d = % x, %d, not % x", gen, b, int(e), text)
	}
}

func wantNoLoad(t *testing.T, what string, d *disk.Disk, name string, gen int, wanted api.Errno) {
	t.Helper()
	if b, e := Load(d, name, gen); e != wanted || len(b) != 0 {
		t.Errorf("%s: Load = % x, %d, not %d", what, b, int(e), int(wanted))
	}
}

func wantGet(t *testing.T, d *disk.Disk, i int, payload []byte, gen int) {
	t.Helper()
	if b, g, e := Get(d, "x", i); e != api.OK || !bytes.Equal(b, payload) || g != gen {
		t.Errorf("Get of %d = %q, %d, %d, not %q, %d", i, b, g, int(e), payload, gen)
	}
}

func wantNoGet(t *testing.T, what string, d *disk.Disk, i int) {
	t.Helper()
	if b, g, e := Get(d, "x", i); e != api.ErrLost || len(b) != 0 || g != 0 {
		t.Errorf("%s: Get of %d = %q, %d, %d", what, i, b, g, int(e))
	}
}

func wantMend(t *testing.T, what string, d *disk.Disk, i int, wrote bool, wanted api.Errno) {
	t.Helper()
	if w, e := Mend(d, "x", i); w != wrote || e != wanted {
		t.Errorf("%s: Mend of %d = %v, %d, not %v, %d", what, i, w, int(e), wrote, int(wanted))
	}
}

func wantSame(t *testing.T, what string, d, wanted *disk.Disk) {
	t.Helper()
	if !reflect.DeepEqual(d, wanted) {
		t.Errorf("%s: the disk is another one: %v, not %v", what, d.List(), wanted.List())
	}
}

// step is a change of a disk.
type step func(d *disk.Disk) api.Errno

func writing(t *testing.T, file string, i, gen int, payload []byte) step {
	b := framed(t, file, i, gen, payload)
	return func(d *disk.Disk) api.Errno { return d.Write(file, i, b) }
}

func syncing(file string) step { return func(d *disk.Disk) api.Errno { return d.Sync(file) } }

func removing(file string) step { return func(d *disk.Disk) api.Errno { return d.Remove(file) } }

// wantSteps holds a call against steps, on a disk that stops behind each number of them.
func wantSteps(t *testing.T, d *disk.Disk, call step, steps ...step) {
	t.Helper()
	for n := range len(steps) + 2 {
		got, wanted := d.Copy(), d.Copy()
		got.Fuse(n)
		wanted.Fuse(n)
		e := api.OK
		for _, s := range steps {
			if e = s(wanted); e != api.OK {
				break
			}
		}
		want(t, fmt.Sprint("fuse of ", n), call(got), e)
		wantSame(t, fmt.Sprint("fuse of ", n), got, wanted)
	}
}

func TestP5_1StoreStepByStep(t *testing.T) {
	d := newDisk(t, 20)
	text := rising(2*api.Load + 1)
	store := func(d *disk.Disk) api.Errno { return Store(d, "x", 7, text) }
	var steps []step
	for _, file := range []string{"x.a", "x.b"} {
		for i, cut := range [][]byte{text[:106], text[106:212], text[212:]} {
			steps = append(steps, writing(t, file, i, 7, cut))
		}
		steps = append(steps, syncing(file))
	}
	wantSteps(t, d, store, steps...)

	put(t, d, "x.b", 0, 1, []byte("old"))
	put(t, d, "xa", 0, 1, []byte("another file"))
	wantSteps(t, d, store, append([]step{removing("x.b")}, steps...)...)

	for i := range 4 {
		put(t, d, "x.a", i, 2, []byte("longer"))
	}
	wantSteps(t, d, store, append([]step{removing("x.a"), removing("x.b")}, steps...)...)
}

func TestP5_1Sizes(t *testing.T) {
	for _, c := range []struct{ size, extents int }{
		{0, 1}, {1, 1}, {105, 1}, {106, 1}, {107, 2}, {212, 2}, {213, 3}, {1060, 10}, {1061, 11},
	} {
		d := stored(t, 30, 1, rising(c.size))
		if a, b := d.Extents("x.a"), d.Extents("x.b"); a != c.extents || b != c.extents {
			t.Errorf("%d bytes: %d and %d extents, not %d", c.size, a, b, c.extents)
		}
		wantLoad(t, d, 1, rising(c.size))
		d.Crash(nil)
		wantLoad(t, d, 1, rising(c.size))
	}
}

func TestP5_1ExampleOfTheChapter(t *testing.T) {
	d := stored(t, 4, 0, rising(107))
	if d.Extents("x.a") != 2 || d.Extents("x.b") != 2 || Need(107) != 4 || d.Free() != 0 {
		t.Error(d.Extents("x.a"), d.Extents("x.b"), Need(107), d.Free())
	}
}

func TestP5_1Generations(t *testing.T) {
	for _, gen := range []int{0, 1, api.MaxNumber} {
		wantLoad(t, stored(t, 2, gen, []byte("text")), gen, []byte("text"))
	}
}

func TestP5_1FrameErrorsComeAhead(t *testing.T) {
	d := stored(t, 20, 3, rising(200))
	before := d.Copy()
	for _, gen := range []int{-1, math.MinInt, api.MaxNumber + 1, math.MaxInt} {
		want(t, "Store", Store(d, "x", gen, []byte("new")), api.ErrArg)
		want(t, "Put", Put(d, "x", 0, gen, []byte("new")), api.ErrArg)
	}
	for _, i := range []int{-1, math.MinInt, 1 << 31, math.MaxInt} {
		want(t, "Put", Put(d, "x", i, 3, nil), api.ErrArg)
	}
	want(t, "Put", Put(d, "x", 0, 3, make([]byte, api.Load+1)), api.ErrArg)
	d.Fuse(0)
	before.Fuse(0)
	want(t, "Store", Store(d, "x", -1, nil), api.ErrArg)
	want(t, "Put", Put(d, "x", 0, 3, make([]byte, 1000)), api.ErrArg)
	wantSame(t, "refused", d, before)
}

func TestP5_1NamesTheDiskRefuses(t *testing.T) {
	d := newDisk(t, 20)
	before := d.Copy()
	for _, name := range []string{"X", "x/", "\xff", strings.Repeat("n", api.MaxName-1), strings.Repeat("n", 1000)} {
		want(t, name, Store(d, name, 1, []byte("text")), api.ErrArg)
		want(t, name, Put(d, name, 0, 1, nil), api.ErrArg)
		want(t, name, Drop(d, name), api.OK)
		wantNoLoad(t, name, d, name, 1, api.ErrLost)
	}
	wantSame(t, "refused", d, before)
	for _, name := range []string{"", ".", strings.Repeat("n", api.MaxName-2)} {
		want(t, name, Store(d, name, 1, []byte("text")), api.OK)
		if b, e := Load(d, name, 1); e != api.OK || string(b) != "text" {
			t.Errorf("%q: %q, %d", name, b, int(e))
		}
	}
}

func TestP5_1FullDisk(t *testing.T) {
	d := newDisk(t, 3)
	want(t, "Store", Store(d, "x", 1, rising(150)), api.ErrFull)
	if d.Extents("x.a") != 2 || d.Extents("x.b") != 1 {
		t.Error(d.Extents("x.a"), d.Extents("x.b"))
	}
	wantLoad(t, d, 1, rising(150))
	want(t, "Put", Put(d, "x", 2, 1, nil), api.ErrFull)
	want(t, "Store", Store(d, "x", 2, rising(106)), api.OK)
	wantLoad(t, d, 2, rising(106))
}

func TestP5_1PutStepByStep(t *testing.T) {
	d := stored(t, 20, 3, rising(200))
	for i := range 3 {
		payload := fmt.Appendf(nil, "payload %d", i)
		wantSteps(t, d, func(d *disk.Disk) api.Errno { return Put(d, "x", i, 9, payload) },
			writing(t, "x.a", i, 9, payload), syncing("x.a"), writing(t, "x.b", i, 9, payload), syncing("x.b"))
	}
}

func TestP5_1PutBeyondTheEnd(t *testing.T) {
	d := stored(t, 20, 3, rising(200))
	before := d.Copy()
	want(t, "Put", Put(d, "x", 3, 1, nil), api.ErrArg)
	wantSame(t, "refused", d, before)
	put(t, d, "x.a", 2, 3, nil)
	want(t, "Put", Put(d, "x", 3, 4, []byte("a alone")), api.ErrArg)
	wantGet(t, d, 3, []byte("a alone"), 4)
}

func TestP5_1PutPayloads(t *testing.T) {
	d := newDisk(t, 20)
	for i, payload := range [][]byte{nil, {}, {0}, rising(api.Load), make([]byte, api.Load)} {
		want(t, "Put", Put(d, "x", i, i, payload), api.OK)
		wantGet(t, d, i, payload, i)
	}
}

func TestP5_2GetTakesTheBetterOne(t *testing.T) {
	for _, c := range []struct {
		what       string
		genA, genB int
		payload    string
		gen        int
	}{
		{"equal ones", 4, 4, "of a", 4},
		{"a's is greater", 5, 4, "of a", 5},
		{"b's is greater", 4, 5, "of b", 5},
		{"b's is greater than nought", 0, 1, "of b", 1},
		{"both nought", 0, 0, "of a", 0},
		{"b's is the greatest", 0, api.MaxNumber, "of b", api.MaxNumber},
	} {
		d := newDisk(t, 2)
		put(t, d, "x.a", 0, c.genA, []byte("of a"))
		put(t, d, "x.b", 0, c.genB, []byte("of b"))
		wantGet(t, d, 0, []byte(c.payload), c.gen)
	}
}

func TestP5_2GetTakesTheRightOne(t *testing.T) {
	d := newDisk(t, 2)
	put(t, d, "x.a", 0, 5, []byte("of a"))
	put(t, d, "x.b", 0, 4, []byte("of b"))
	d.Rot("x.a", 0, 20, 1)
	wantGet(t, d, 0, []byte("of b"), 4)
	d.Rot("x.a", 0, 20, 1)
	d.Rot("x.b", 0, 0, 0x80)
	wantGet(t, d, 0, []byte("of a"), 5)
	d.Rot("x.a", 0, 127, 0x80)
	wantNoGet(t, "both turned", d, 0)
}

func TestP5_2GetOfOneFileAlone(t *testing.T) {
	for _, file := range []string{"x.a", "x.b"} {
		d := newDisk(t, 2)
		put(t, d, file, 0, 0, nil)
		wantGet(t, d, 0, nil, 0)
		for _, i := range []int{1, -1, math.MinInt, math.MaxInt, 1 << 31} {
			wantNoGet(t, file, d, i)
		}
	}
	wantNoGet(t, "no file", newDisk(t, 2), 0)
}

func TestP5_2AnotherFilesExtentIsNotRight(t *testing.T) {
	for _, c := range []struct {
		file string
		i    int
	}{{"x.b", 0}, {"x", 0}, {"x.a", 1}, {"y.a", 0}} {
		d := newDisk(t, 2)
		d.Write("x.a", 0, framed(t, c.file, c.i, 1, []byte("text")))
		wantNoGet(t, fmt.Sprint(c), d, 0)
	}
	d := newDisk(t, 2)
	d.Write("x.a", 0, framed(t, "x.b", 0, 1, []byte("text")))
	d.Write("x.b", 0, framed(t, "x.a", 0, 1, []byte("text")))
	wantNoGet(t, "each in the other's place", d, 0)
}

func TestP5_2LoadOfTheLongerFile(t *testing.T) {
	for _, long := range []string{"x.a", "x.b"} {
		d := stored(t, 20, 3, rising(106))
		put(t, d, long, 1, 3, []byte("more"))
		wantLoad(t, d, 3, append(rising(106), "more"...))
		d.Rot(long, 1, 50, 4)
		wantNoLoad(t, long, d, "x", 3, api.ErrLost)
	}
}

func TestP5_2LoadTakesFromBoth(t *testing.T) {
	d := stored(t, 20, 3, rising(400))
	for i := range 4 {
		d.Rot([]string{"x.a", "x.b"}[i%2], i, 17+i, 0x11)
	}
	wantLoad(t, d, 3, rising(400))
}

func TestP5_2LoadLost(t *testing.T) {
	wantNoLoad(t, "no file", newDisk(t, 2), "x", 0, api.ErrLost)
	d := stored(t, 20, 3, rising(300))
	for _, gen := range []int{2, 4, 0, -1, math.MinInt, math.MaxInt} {
		wantNoLoad(t, "another generation", d, "x", gen, api.ErrLost)
	}
	for i := range 3 {
		turned := d.Copy()
		turned.Rot("x.a", i, 30, 1)
		turned.Rot("x.b", i, 99, 1)
		wantNoLoad(t, fmt.Sprint("extent ", i), turned, "x", 3, api.ErrLost)
	}
	for _, file := range []string{"x.a", "x.b"} {
		for i := range 3 {
			mixed := d.Copy()
			put(t, mixed, file, i, 4, []byte("newer"))
			wantNoLoad(t, fmt.Sprint("one newer in ", file), mixed, "x", 3, api.ErrLost)
			wantNoLoad(t, fmt.Sprint("one newer in ", file), mixed, "x", 4, api.ErrLost)
			put(t, mixed, file, i, 2, []byte("older"))
			wantLoad(t, mixed, 3, rising(300))
		}
	}
}

func TestP5_3MendStepByStep(t *testing.T) {
	good := stored(t, 20, 3, rising(300))
	mend := func(d *disk.Disk) api.Errno { _, e := Mend(d, "x", 1); return e }
	part := rising(300)[106:212]
	wantSteps(t, good, mend)

	turned := good.Copy()
	turned.Rot("x.a", 1, 5, 1)
	wantSteps(t, turned, mend, writing(t, "x.a", 1, 3, part), syncing("x.a"))
	turned = good.Copy()
	turned.Rot("x.b", 1, 5, 1)
	wantSteps(t, turned, mend, writing(t, "x.b", 1, 3, part), syncing("x.b"))

	gone := good.Copy()
	gone.Remove("x.b")
	gone.Write("x.b", 0, make([]byte, api.Size))
	wantSteps(t, gone, mend, writing(t, "x.b", 1, 3, part), syncing("x.b"))
}

func TestP5_3MendOfABothOlderAndTurned(t *testing.T) {
	d := newDisk(t, 20)
	put(t, d, "x.a", 0, 4, []byte("older"))
	put(t, d, "x.b", 0, 5, []byte("newer"))
	wantMend(t, "older", d, 0, true, api.OK)
	d.Rot("x.b", 0, 3, 3)
	wantGet(t, d, 0, []byte("newer"), 5)
	wantMend(t, "turned", d, 0, true, api.OK)
	wantMend(t, "good", d, 0, false, api.OK)

	put(t, d, "x.b", 0, 5, []byte("of b"))
	wantMend(t, "of one generation", d, 0, true, api.OK)
	d.Rot("x.a", 0, 3, 3)
	wantGet(t, d, 0, []byte("newer"), 5)
}

func TestP5_3MendTellsWhatItWrote(t *testing.T) {
	d := stored(t, 20, 3, rising(200))
	for i := range 2 {
		wantMend(t, "good", d, i, false, api.OK)
	}
	for _, i := range []int{2, -1, math.MinInt, math.MaxInt} {
		wantMend(t, "not there", d, i, false, api.ErrLost)
	}
	d.Rot("x.a", 1, 0, 1)
	d.Rot("x.b", 1, 0, 1)
	before := d.Copy()
	wantMend(t, "both turned", d, 1, false, api.ErrLost)
	wantSame(t, "both turned", d, before)
}

func TestP5_3MendOfAFileTooShort(t *testing.T) {
	d := stored(t, 20, 3, rising(300))
	d.Remove("x.a")
	before := d.Copy()
	wantMend(t, "behind its end", d, 1, false, api.ErrArg)
	wantSame(t, "behind its end", d, before)
	for i := range 3 {
		wantMend(t, "rising", d, i, true, api.OK)
	}
	wantSame(t, "rising", d, stored(t, 20, 3, rising(300)))

	full := stored(t, 3, 3, nil)
	put(t, full, "x.b", 1, 3, []byte("more"))
	wantMend(t, "no room", full, 1, false, api.ErrFull)
}

func TestP5_3MendOnADeadDisk(t *testing.T) {
	d := stored(t, 20, 3, nil)
	d.Rot("x.a", 0, 1, 1)
	for n := range 2 {
		stops := d.Copy()
		stops.Fuse(n)
		wantMend(t, "dead", stops, 0, false, api.ErrDead)
	}
	d.Rot("x.a", 0, 1, 1)
	d.Fuse(0)
	wantMend(t, "dead, and good", d, 0, false, api.OK)
}

func TestP5_3Drop(t *testing.T) {
	drop := func(d *disk.Disk) api.Errno { return Drop(d, "x") }
	d := newDisk(t, 20)
	put(t, d, "x", 0, 1, nil)
	put(t, d, "x.c", 0, 1, nil)
	put(t, d, "xx.a", 0, 1, nil)
	wantSteps(t, d, drop)
	for _, file := range []string{"x.a", "x.b"} {
		one := d.Copy()
		put(t, one, file, 0, 1, nil)
		wantSteps(t, one, drop, removing(file))
	}
	Store(d, "x", 1, rising(300))
	wantSteps(t, d, drop, removing("x.a"), removing("x.b"))
}

func TestP5_3Need(t *testing.T) {
	for _, c := range []struct{ size, need int }{
		{math.MinInt, 2}, {-107, 2}, {-1, 2}, {0, 2}, {1, 2}, {106, 2}, {107, 4}, {212, 4}, {213, 6}, {1 << 31, 2 * 20259280},
		{math.MaxInt, 2 * (math.MaxInt/106 + 1)},
	} {
		if n := Need(c.size); n != c.need {
			t.Errorf("Need(%d) = %d, not %d", c.size, n, c.need)
		}
	}
	for size := range 700 {
		d := stored(t, 100, 1, rising(size))
		if used := 100 - d.Free(); used != Need(size) {
			t.Errorf("Need(%d) = %d, and %d are used", size, Need(size), used)
		}
	}
}

// turn turns bytes of an extent, one at least.
func turn(r *rand.Rand, d *disk.Disk, file string, i int) {
	d.Rot(file, i, r.Intn(api.Size), byte(1+r.Intn(255)))
	for range r.Intn(3) * r.Intn(60) {
		d.Rot(file, i, r.Intn(api.Size), byte(r.Intn(256)))
	}
}

func TestP5_4OneOfBothTurned(t *testing.T) {
	r := rand.New(rand.NewSource(54))
	for range 300 {
		size := r.Intn(600)
		text := make([]byte, size)
		r.Read(text)
		gen := r.Intn(100)
		good := stored(t, 20, gen, text)
		d := good.Copy()
		for i := range d.Extents("x.a") {
			if r.Intn(4) > 0 {
				turn(r, d, []string{"x.a", "x.b"}[r.Intn(2)], i)
			}
		}
		damaged := len(d.Damaged())
		wantLoad(t, d, gen, text)
		wrote := 0
		for i := range d.Extents("x.a") {
			w, e := Mend(d, "x", i)
			want(t, "Mend", e, api.OK)
			if w {
				wrote++
			}
		}
		if wrote != damaged {
			t.Errorf("%d were damaged, %d written", damaged, wrote)
		}
		wantSame(t, "mended", d, good)
	}
}

func TestP5_4EachByteTurned(t *testing.T) {
	good := stored(t, 2, 5, []byte("a short text"))
	for _, file := range []string{"x.a", "x.b"} {
		for at := range api.Size {
			d := good.Copy()
			d.Rot(file, 0, at, byte(at*37%255+1))
			wantLoad(t, d, 5, []byte("a short text"))
			wantMend(t, "turned", d, 0, true, api.OK)
			wantSame(t, "mended", d, good)
		}
	}
}

func TestP5_4AFileGone(t *testing.T) {
	good := stored(t, 20, 5, rising(500))
	for _, file := range []string{"x.a", "x.b"} {
		d := good.Copy()
		d.Remove(file)
		wantLoad(t, d, 5, rising(500))
		for i := range 5 {
			wantMend(t, "gone", d, i, true, api.OK)
		}
		wantSame(t, "mended", d, good)
	}
}

func TestP5_4ACrashWhilePutting(t *testing.T) {
	good := stored(t, 20, 5, []byte("before"))
	for fuse := range 5 {
		for bytes := range api.Size + 1 {
			d := good.Copy()
			d.Fuse(fuse)
			Put(d, "x", 0, 6, []byte("behind"))
			d.Crash([]api.Kept{{Name: "x.a", Bytes: bytes}, {Name: "x.b", Bytes: bytes}})
			payload, gen, e := Get(d, "x", 0)
			if e != api.OK || !(string(payload) == "before" && gen == 5 && fuse < 2 || string(payload) == "behind" && gen == 6 && fuse > 0) {
				t.Fatalf("fuse %d, %d bytes: %q, %d, %d", fuse, bytes, payload, gen, int(e))
			}
			_, e = Mend(d, "x", 0)
			want(t, "Mend", e, api.OK)
			if l := d.Damaged(); len(l) != 0 {
				t.Fatal(l)
			}
		}
	}
}

func TestNoCallMadeIt(t *testing.T) {
	for _, d := range []*disk.Disk{nil, {}} {
		want(t, "Store", Store(d, "x", 1, []byte("text")), api.ErrNil)
		want(t, "Put", Put(d, "x", 0, 1, nil), api.ErrNil)
		want(t, "Drop", Drop(d, "x"), api.ErrNil)
		wantNoLoad(t, "Load", d, "x", 1, api.ErrNil)
		wantMend(t, "Mend", d, 0, false, api.ErrNil)
		if b, gen, e := Get(d, "x", 0); e != api.ErrNil || len(b) != 0 || gen != 0 {
			t.Errorf("Get = %q, %d, %d", b, gen, int(e))
		}
		want(t, "Store of a wrong generation", Store(d, "x", -1, nil), api.ErrNil)
		want(t, "Put of a wrong generation", Put(d, "x", 0, -1, nil), api.ErrNil)
	}
}

func TestReadingChangesNothing(t *testing.T) {
	d := stored(t, 20, 3, rising(300))
	d.Rot("x.a", 1, 40, 1)
	d.Write("x.b", 2, make([]byte, api.Size))
	before := d.Copy()
	Get(d, "x", 1)
	Get(d, "x", 7)
	Load(d, "x", 3)
	Load(d, "x", 4)
	wantSame(t, "read", d, before)
}

func TestArgumentsAreLeftAsTheyAre(t *testing.T) {
	room := append(rising(150), 200, 201, 202)
	text := room[:150]
	d := newDisk(t, 20)
	Store(d, "x", 1, text)
	payload := room[50:100]
	Put(d, "y", 0, 1, payload)
	if !bytes.Equal(room, append(rising(150), 200, 201, 202)) {
		t.Error("changed")
	}
	for i := range room {
		room[i] = 0xee
	}
	wantLoad(t, d, 1, rising(150))
	if b, _, _ := Get(d, "y", 0); !bytes.Equal(b, rising(150)[50:100]) {
		t.Error("kept")
	}
}

func TestAnswersAreNewMemory(t *testing.T) {
	d := stored(t, 20, 1, rising(150))
	first, _ := Load(d, "x", 1)
	payload, _, _ := Get(d, "x", 0)
	for _, b := range [][]byte{first, payload} {
		b = b[:cap(b)]
		for i := range b {
			b[i] = 0xee
		}
	}
	wantLoad(t, d, 1, rising(150))
	wantGet(t, d, 0, rising(106), 1)
}
