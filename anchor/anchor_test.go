package anchor

import (
	"bytes"
	"encoding/binary"
	"fmt"
	"math"
	"math/rand"
	"reflect"
	"slices"
	"testing"

	"dryrot/api"
	"dryrot/disk"
	"dryrot/extent"
	"dryrot/pair"
)

const (
	least = math.MinInt
	most  = math.MaxInt
)

func newDisk(t *testing.T, room int) *disk.Disk {
	t.Helper()
	d, e := disk.New(room)
	if e != api.OK {
		t.Fatal(e)
	}
	return d
}

func want(t *testing.T, what string, got, wanted api.Errno) {
	t.Helper()
	if got != wanted {
		t.Errorf("%s: %d, not %d", what, int(got), int(wanted))
	}
}

// some is an anchor that may be, no two of its fields the same.
func some() api.Anchor {
	return api.Anchor{Seq: 11, Gen: 12, LSN: 13, Segment: 14, Extents: 15, Floor: -16, Newest: 17, Keep: 18, Next: 19, Cursor: 20}
}

// field is one of an anchor's ten, with the least that it may be.
type field struct {
	name  string
	of    func(a *api.Anchor) *int
	least int
}

// tenFields is all of them, in the order of the chapter.
func tenFields() []field {
	return []field{
		{"Seq", func(a *api.Anchor) *int { return &a.Seq }, 1},
		{"Gen", func(a *api.Anchor) *int { return &a.Gen }, 1},
		{"LSN", func(a *api.Anchor) *int { return &a.LSN }, 0},
		{"Segment", func(a *api.Anchor) *int { return &a.Segment }, 1},
		{"Extents", func(a *api.Anchor) *int { return &a.Extents }, 0},
		{"Floor", func(a *api.Anchor) *int { return &a.Floor }, least},
		{"Newest", func(a *api.Anchor) *int { return &a.Newest }, least},
		{"Keep", func(a *api.Anchor) *int { return &a.Keep }, 0},
		{"Next", func(a *api.Anchor) *int { return &a.Next }, 1},
		{"Cursor", func(a *api.Anchor) *int { return &a.Cursor }, 0},
	}
}

// isTime tells whether a field may be any number.
func (f field) isTime() bool { return f.least == least }

func (f field) right() []int {
	if f.isTime() {
		return []int{least, least + 1, -api.MaxNumber - 1, -api.MaxNumber, -1, 0, 1, api.MaxNumber, api.MaxNumber + 1, most}
	}
	return []int{f.least, f.least + 1, 1 << 31, 1 << 32, api.MaxNumber - 1, api.MaxNumber}
}

func (f field) wrong() []int {
	if f.isTime() {
		return nil
	}
	return []int{f.least - 1, -1, -api.MaxNumber, least, api.MaxNumber + 1, most}
}

// with is an anchor as it is but for one field.
func with(a api.Anchor, f field, n int) api.Anchor {
	*f.of(&a) = n
	return a
}

func rightAnchors() []api.Anchor {
	l := []api.Anchor{some()}
	for _, f := range tenFields() {
		for _, n := range f.right() {
			l = append(l, with(some(), f, n))
		}
	}
	lowest, highest := some(), some()
	for _, f := range tenFields() {
		lowest = with(lowest, f, f.right()[0])
		highest = with(highest, f, f.right()[len(f.right())-1])
	}
	return append(l, lowest, highest)
}

func wrongAnchors() []api.Anchor {
	l := []api.Anchor{{}, Fresh()}
	for _, f := range tenFields() {
		for _, n := range f.wrong() {
			l = append(l, with(some(), f, n))
		}
	}
	return l
}

// plainBytes is an anchor's bytes as the chapter says them.
func plainBytes(a api.Anchor) []byte {
	var b []byte
	for _, f := range tenFields() {
		b = binary.BigEndian.AppendUint64(b, uint64(*f.of(&a)))
	}
	return b
}

func TestP17_1Can(t *testing.T) {
	for _, a := range rightAnchors() {
		if !Can(a) {
			t.Errorf("Can(%+v) = false", a)
		}
	}
	for _, a := range wrongAnchors() {
		if Can(a) {
			t.Errorf("Can(%+v) = true", a)
		}
	}
}

func TestP17_1AllOfAnAnchorIsTested(t *testing.T) {
	if n := reflect.TypeFor[api.Anchor]().NumField(); n != len(tenFields()) {
		t.Errorf("an anchor has %d fields", n)
	}
}

func TestP17_1EncodeByteByByte(t *testing.T) {
	wanted := []byte{
		0, 0, 0, 0, 0, 0, 0, 11,
		0, 0, 0, 0, 0, 0, 0, 12,
		0, 0, 0, 0, 0, 0, 0, 13,
		0, 0, 0, 0, 0, 0, 0, 14,
		0, 0, 0, 0, 0, 0, 0, 15,
		255, 255, 255, 255, 255, 255, 255, 240,
		0, 0, 0, 0, 0, 0, 0, 17,
		0, 0, 0, 0, 0, 0, 0, 18,
		0, 0, 0, 0, 0, 0, 0, 19,
		0, 0, 0, 0, 0, 0, 0, 20,
	}
	if b, e := Encode(some()); e != api.OK || !bytes.Equal(b, wanted) {
		t.Errorf("Encode = % x, %d", b, int(e))
	}
}

func TestP17_1Encode(t *testing.T) {
	for _, a := range rightAnchors() {
		if b, e := Encode(a); e != api.OK || !bytes.Equal(b, plainBytes(a)) {
			t.Errorf("Encode(%+v) = % x, %d", a, b, int(e))
		}
	}
	for _, a := range wrongAnchors() {
		if b, e := Encode(a); e != api.ErrArg || len(b) != 0 {
			t.Errorf("Encode(%+v) = % x, %d", a, b, int(e))
		}
	}
}

func TestP17_1Decode(t *testing.T) {
	for _, wanted := range rightAnchors() {
		if a, e := Decode(plainBytes(wanted)); e != api.OK || a != wanted {
			t.Errorf("Decode of %+v = %+v, %d", wanted, a, int(e))
		}
	}
}

func wantNoDecode(t *testing.T, what string, b []byte) {
	t.Helper()
	if a, e := Decode(b); e != api.ErrForm || a != (api.Anchor{}) {
		t.Errorf("%s: Decode = %+v, %d", what, a, int(e))
	}
}

func TestP17_1DecodeOfWhatIsNone(t *testing.T) {
	for _, a := range wrongAnchors() {
		wantNoDecode(t, fmt.Sprintf("%+v", a), plainBytes(a))
	}
	wantNoDecode(t, "nil", nil)
	whole := slices.Concat(plainBytes(some()), plainBytes(some()))
	for size := range len(whole) + 1 {
		if size != 80 {
			wantNoDecode(t, fmt.Sprint(size, " bytes"), whole[:size])
		}
	}
	wantNoDecode(t, "a long text", make([]byte, 1<<20))
	wantNoDecode(t, "noughts", make([]byte, 80))
	wantNoDecode(t, "all bits", bytes.Repeat([]byte{255}, 80))
}

// Any bytes are either refused, or just those of what is told.
func TestP17_1DecodeOfAny(t *testing.T) {
	r := rand.New(rand.NewSource(171))
	taken := 0
	for range 50000 {
		b := plainBytes(some())
		for range r.Intn(4) {
			b[r.Intn(len(b))] = byte(r.Intn(256))
		}
		a, e := Decode(b)
		if e != api.OK {
			wantNoDecode(t, "turned", b)
			continue
		}
		taken++
		if again, e := Encode(a); e != api.OK || !bytes.Equal(again, b) {
			t.Fatalf("Decode of % x = %+v", b, a)
		}
	}
	if taken < 1000 || taken > 49000 {
		t.Errorf("%d were taken", taken)
	}
}

// half writes and syncs the anchor's extent of one file alone.
func half(t *testing.T, d *disk.Disk, file string, gen int, payload []byte) {
	t.Helper()
	b, e := extent.Frame(file, 0, gen, payload)
	if e != api.OK {
		t.Fatal(e)
	}
	if e := d.Write(file, 0, b); e != api.OK {
		t.Fatal(e)
	}
	if e := d.Sync(file); e != api.OK {
		t.Fatal(e)
	}
}

func wantLoad(t *testing.T, what string, d *disk.Disk, wanted api.Anchor) {
	t.Helper()
	if a, e := Load(d); e != api.OK || a != wanted {
		t.Errorf("%s: Load = %+v, %d, not %+v", what, a, int(e), wanted)
	}
}

func wantNoLoad(t *testing.T, what string, d *disk.Disk, wanted api.Errno) {
	t.Helper()
	if a, e := Load(d); e != wanted || a != (api.Anchor{}) {
		t.Errorf("%s: Load = %+v, %d, not %d", what, a, int(e), int(wanted))
	}
}

func TestP17_2LoadOfNoDisk(t *testing.T) {
	for _, d := range []*disk.Disk{nil, {}} {
		wantNoLoad(t, "no disk", d, api.ErrNil)
	}
}

func TestP17_2LoadOfNoAnchor(t *testing.T) {
	wantNoLoad(t, "an empty disk", newDisk(t, 9), api.ErrAnchor)
	wantNoLoad(t, "no room", newDisk(t, 0), api.ErrAnchor)
	for _, name := range []string{"anchor1", "", "a", "m1"} {
		d := newDisk(t, 9)
		want(t, name, pair.Put(d, name, 0, 11, plainBytes(some())), api.OK)
		wantNoLoad(t, name, d, api.ErrAnchor)
	}
	d := newDisk(t, 9)
	want(t, "Put", pair.Put(d, "anchor", 0, 3, nil), api.OK)
	want(t, "Put", pair.Put(d, "anchor", 1, 11, plainBytes(some())), api.OK)
	wantNoLoad(t, "extent 1", d, api.ErrAnchor)
}

func TestP17_2LoadOfWhatIsNone(t *testing.T) {
	d := newDisk(t, 9)
	for _, a := range wrongAnchors() {
		want(t, "Put", pair.Put(d, "anchor", 0, min(max(a.Seq, 0), api.MaxNumber), plainBytes(a)), api.OK)
		wantNoLoad(t, fmt.Sprintf("%+v", a), d, api.ErrAnchor)
	}
	whole := slices.Concat(plainBytes(some()), make([]byte, 26))
	for size := range len(whole) + 1 {
		want(t, "Put", pair.Put(d, "anchor", 0, 11, whole[:size]), api.OK)
		if size != 80 {
			wantNoLoad(t, fmt.Sprint(size, " bytes"), d, api.ErrAnchor)
		} else {
			wantLoad(t, "80 bytes", d, some())
		}
	}
}

func TestP17_2LoadOfAnotherGeneration(t *testing.T) {
	d := newDisk(t, 9)
	for _, gen := range []int{0, 1, 10, 12, 1 << 32, api.MaxNumber} {
		want(t, "Put", pair.Put(d, "anchor", 0, gen, plainBytes(some())), api.OK)
		wantNoLoad(t, fmt.Sprint(gen), d, api.ErrAnchor)
	}
	want(t, "Put", pair.Put(d, "anchor", 0, 11, plainBytes(some())), api.OK)
	wantLoad(t, "its own", d, some())
}

func TestP17_2LoadTakesTheGreaterOne(t *testing.T) {
	older, newer := some(), some()
	newer.Seq, newer.Keep = 12, 99
	for _, files := range [][2]string{{"anchor.a", "anchor.b"}, {"anchor.b", "anchor.a"}} {
		d := newDisk(t, 9)
		half(t, d, files[0], 12, plainBytes(newer))
		wantLoad(t, "one alone", d, newer)
		half(t, d, files[1], 11, plainBytes(older))
		wantLoad(t, "both", d, newer)
		d.Rot(files[0], 0, 40, 1)
		wantLoad(t, "the greater one turned", d, older)
		d.Rot(files[1], 0, 40, 1)
		wantNoLoad(t, "both turned", d, api.ErrAnchor)
		d.Rot(files[0], 0, 40, 1)
		wantLoad(t, "the lesser one turned", d, newer)
	}
	d := newDisk(t, 9)
	other := some()
	other.Keep = 77
	half(t, d, "anchor.a", 11, plainBytes(some()))
	half(t, d, "anchor.b", 11, plainBytes(other))
	wantLoad(t, "equal ones", d, some())
}

// What pair.Get takes is asked alone, even where the other half would do.
func TestP17_2LoadOfAGreaterOneThatIsNone(t *testing.T) {
	d := newDisk(t, 9)
	half(t, d, "anchor.a", 11, plainBytes(some()))
	half(t, d, "anchor.b", 12, plainBytes(some()))
	wantNoLoad(t, "a wrong generation", d, api.ErrAnchor)
	half(t, d, "anchor.b", 12, []byte("what?"))
	wantNoLoad(t, "no anchor", d, api.ErrAnchor)
	half(t, d, "anchor.b", 10, []byte("what?"))
	wantLoad(t, "a lesser one that is none", d, some())
}

func wantSame(t *testing.T, what string, d, wanted *disk.Disk) {
	t.Helper()
	if !reflect.DeepEqual(d, wanted) {
		t.Errorf("%s: the disk is another one: %v, not %v", what, d.List(), wanted.List())
	}
}

func wantNoSave(t *testing.T, what string, d *disk.Disk, a api.Anchor, wanted api.Errno) {
	t.Helper()
	if saved, e := Save(d, a); e != wanted || saved != (api.Anchor{}) {
		t.Errorf("%s: Save(%+v) = %+v, %d, not %d", what, a, saved, int(e), int(wanted))
	}
}

// saved saves an anchor, whose Seq must be one more then.
func saved(t *testing.T, d *disk.Disk, a api.Anchor) api.Anchor {
	t.Helper()
	b, e := Save(d, a)
	a.Seq++
	if e != api.OK || b != a {
		t.Fatalf("Save = %+v, %d, not %+v", b, int(e), a)
	}
	return b
}

// earlier is an anchor with one less for Seq.
func earlier(a api.Anchor) api.Anchor {
	a.Seq--
	return a
}

func TestP17_2Save(t *testing.T) {
	d := newDisk(t, 2)
	for _, a := range rightAnchors() {
		if b := saved(t, d, earlier(a)); b != a {
			t.Errorf("Save = %+v, not %+v", b, a)
		}
		for _, file := range []string{"anchor.a", "anchor.b"} {
			b, e := d.Read(file, 0)
			payload, gen, open := extent.Open(b, file, 0)
			if e != api.OK || open != api.OK || gen != a.Seq || !bytes.Equal(payload, plainBytes(a)) {
				t.Errorf("%s: % x, %d, %d, %d", file, payload, gen, int(e), int(open))
			}
		}
	}
	if l := d.List(); !slices.Equal(l, []string{"anchor.a", "anchor.b"}) || d.Free() != 0 {
		t.Error(l, d.Free())
	}
}

func TestP17_2SaveOfWhatMayNotBe(t *testing.T) {
	d := newDisk(t, 2)
	saved(t, d, some())
	before := d.Copy()
	for _, a := range wrongAnchors() {
		wantNoSave(t, "wrong", d, earlier(a), api.ErrArg)
	}
	for _, seq := range []int{api.MaxNumber, most, -1, -2, least} {
		a := some()
		a.Seq = seq
		wantNoSave(t, "no such Seq", d, a, api.ErrArg)
	}
	wantSame(t, "refused", d, before)
}

func TestP17_2SaveAtTheEdgesOfSeq(t *testing.T) {
	for _, seq := range []int{0, 1, api.MaxNumber - 2, api.MaxNumber - 1} {
		d := newDisk(t, 2)
		a := some()
		a.Seq = seq
		if b := saved(t, d, a); b.Seq != seq+1 {
			t.Errorf("Seq %d: %d", seq, b.Seq)
		}
	}
	d := newDisk(t, 2)
	a := some()
	a.Seq = api.MaxNumber - 1
	wantNoSave(t, "the last one is there", d, saved(t, d, a), api.ErrArg)
}

func TestP17_2SaveOfNoDisk(t *testing.T) {
	for _, d := range []*disk.Disk{nil, {}} {
		for _, a := range rightAnchors() {
			wantNoSave(t, "no disk", d, earlier(a), api.ErrNil)
		}
		for _, a := range wrongAnchors() {
			wantNoSave(t, "no disk and no anchor", d, a, api.ErrNil)
			wantNoSave(t, "no disk and no anchor", d, earlier(a), api.ErrNil)
		}
		for _, seq := range []int{-1, least, api.MaxNumber, most} {
			a := some()
			a.Seq = seq
			wantNoSave(t, "no disk and no such Seq", d, a, api.ErrNil)
		}
	}
}

// What Save changes is what pair.Put does, whichever change the disk stops ahead of.
func TestP17_2SaveStepByStep(t *testing.T) {
	old := newDisk(t, 2)
	saved(t, old, some())
	a := some()
	a.Seq, a.Floor = 20, 3
	for _, d := range []*disk.Disk{newDisk(t, 2), old} {
		for fuse := range 6 {
			got, wanted := d.Copy(), d.Copy()
			got.Fuse(fuse)
			wanted.Fuse(fuse)
			e := pair.Put(wanted, "anchor", 0, 20, plainBytes(a))
			b, code := Save(got, earlier(a))
			want(t, fmt.Sprint("fuse of ", fuse), code, e)
			if ok := b == a; ok != (fuse >= 4) || !ok && b != (api.Anchor{}) {
				t.Errorf("fuse of %d: %+v", fuse, b)
			}
			wantSame(t, fmt.Sprint("fuse of ", fuse), got, wanted)
		}
	}
}

func TestP17_2SaveOnADiskWithoutRoom(t *testing.T) {
	for room := range 2 {
		wantNoSave(t, fmt.Sprint("room of ", room), newDisk(t, room), some(), api.ErrFull)
	}
	d := newDisk(t, 2)
	d.Fuse(0)
	wantNoSave(t, "dead", d, some(), api.ErrDead)
	wantNoSave(t, "dead, and no anchor", d, api.Anchor{}, api.ErrArg)
	d.Crash(nil)
	saved(t, d, some())
}

func TestP17_3Fresh(t *testing.T) {
	wanted := api.Anchor{Seq: 0, Gen: 1, LSN: 0, Segment: 1, Extents: 0, Floor: -1 << 63, Newest: -1 << 63, Keep: 0, Next: 1, Cursor: 0}
	if a := Fresh(); a != wanted {
		t.Errorf("Fresh = %+v", a)
	}
	if a := Fresh(); Can(a) {
		t.Error("Fresh may be, though its Seq is 0")
	}
}

func TestP17_3ExampleOfTheChapter(t *testing.T) {
	d := newDisk(t, 2)
	a, e := Save(d, Fresh())
	wanted := Fresh()
	wanted.Seq = 1
	if e != api.OK || a != wanted || !Can(a) {
		t.Errorf("Save of Fresh = %+v, %d", a, int(e))
	}
	wantLoad(t, "Fresh", d, wanted)
}

func TestP17_3Names(t *testing.T) {
	for _, c := range []struct {
		gen       int
		manifest  string
		tombstone string
	}{
		{1, "m1", "t1"}, {12, "m12", "t12"}, {10, "m10", "t10"}, {0, "m0", "t0"}, {-1, "m0", "t0"}, {-12, "m0", "t0"}, {least, "m0", "t0"},
		{1234567890123, "m1234567890123", "t1234567890123"}, {api.MaxNumber, "m4611686018427387904", "t4611686018427387904"}, {most, "m9223372036854775807", "t9223372036854775807"},
	} {
		if m, s := Names(c.gen); m != c.manifest || s != c.tombstone {
			t.Errorf("Names(%d) = %q, %q", c.gen, m, s)
		}
	}
}

// The files of every generation that may be have names that a disk takes.
func TestP17_3NamesOnADisk(t *testing.T) {
	m, s := Names(api.MaxNumber)
	d := newDisk(t, 4)
	for _, name := range []string{m, s} {
		want(t, name, pair.Store(d, name, api.MaxNumber, []byte("text")), api.OK)
	}
}

// anyAnchor is one that may be, with one less for Seq.
func anyAnchor(r *rand.Rand) api.Anchor {
	var a api.Anchor
	for _, f := range tenFields() {
		n := r.Intn(1 << uint(1+r.Intn(62)))
		if f.isTime() {
			n = int(r.Uint64())
		}
		a = with(a, f, max(n, f.least))
	}
	return earlier(a)
}

func TestP17_4LoadOfSave(t *testing.T) {
	r := rand.New(rand.NewSource(174))
	d := newDisk(t, 2)
	for range 2000 {
		a := saved(t, d, anyAnchor(r))
		wantLoad(t, "saved", d, a)
		d.Crash(nil)
		wantLoad(t, "crashed", d, a)
		file := []string{"anchor.a", "anchor.b"}[r.Intn(2)]
		for range 1 + r.Intn(5) {
			d.Rot(file, 0, r.Intn(api.Size), byte(1+r.Intn(255)))
		}
		wantLoad(t, "turned", d, a)
	}
}

func TestP17_4LoadOfSaveOfEdges(t *testing.T) {
	d := newDisk(t, 2)
	for _, a := range rightAnchors() {
		saved(t, d, earlier(a))
		wantLoad(t, "saved", d, a)
	}
}

func TestP17_4AnchorsOneBehindTheOther(t *testing.T) {
	d := newDisk(t, 2)
	a := Fresh()
	for i := range 100 {
		a.LSN, a.Cursor = i, 100-i
		a = saved(t, d, a)
		if a.Seq != i+1 {
			t.Fatal(a.Seq)
		}
		a, _ = Load(d)
	}
}

func TestP17_4EachByteTurned(t *testing.T) {
	good := newDisk(t, 2)
	a := saved(t, good, some())
	for _, file := range []string{"anchor.a", "anchor.b"} {
		for at := range api.Size {
			d := good.Copy()
			d.Rot(file, 0, at, byte(at*37%255+1))
			wantLoad(t, fmt.Sprint(file, at), d, a)
		}
	}
}

// A crash on the way leaves the anchor ahead, or the new one.
func TestP17_4ACrashWhileSaving(t *testing.T) {
	good := newDisk(t, 2)
	older := saved(t, good, some())
	newer := older
	newer.Seq, newer.LSN = older.Seq+1, 99
	for fuse := range 5 {
		for kept := range api.Size + 1 {
			d := good.Copy()
			d.Fuse(fuse)
			Save(d, earlier(newer))
			d.Crash([]api.Kept{{Name: "anchor.a", Bytes: kept}, {Name: "anchor.b", Bytes: kept}})
			a, e := Load(d)
			if e != api.OK || !(a == older && fuse < 2 || a == newer && fuse > 0) {
				t.Fatalf("fuse %d, %d bytes: %+v, %d", fuse, kept, a, int(e))
			}
		}
	}
}

func TestLoadingChangesNothing(t *testing.T) {
	d := newDisk(t, 9)
	saved(t, d, some())
	d.Rot("anchor.a", 0, 40, 1)
	before := d.Copy()
	Load(d)
	d.Rot("anchor.b", 0, 40, 1)
	before.Rot("anchor.b", 0, 40, 1)
	Load(d)
	wantSame(t, "loaded", d, before)
}

func TestArgumentsAreLeftAsTheyAre(t *testing.T) {
	room := slices.Concat(plainBytes(some()), []byte("room behind it"))
	Decode(room[:80])
	Decode(room[:79])
	if !bytes.Equal(room, slices.Concat(plainBytes(some()), []byte("room behind it"))) {
		t.Error("changed")
	}
}

func TestAnswersAreNewMemory(t *testing.T) {
	first, _ := Encode(some())
	for i := range first[:cap(first)] {
		first[:cap(first)][i] = 0xee
	}
	if second, _ := Encode(some()); !bytes.Equal(second, plainBytes(some())) {
		t.Error("Encode shares memory")
	}
}
