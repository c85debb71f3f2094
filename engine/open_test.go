package engine

import (
	"fmt"
	"reflect"
	"slices"
	"testing"

	"dryrot/anchor"
	"dryrot/api"
	"dryrot/disk"
	"dryrot/pair"
	"dryrot/record"
	"dryrot/wal"
)

func wantNotOpened(t *testing.T, what string, d *disk.Disk, wanted api.Errno) {
	t.Helper()
	if e, code := Open(d); code != wanted || e != nil {
		t.Errorf("%s: Open = %v, %d, not %d", what, e, int(code), int(wanted))
	}
}

func TestNoCallMadeIt(t *testing.T) {
	for _, d := range []*disk.Disk{nil, {}} {
		wantNotOpened(t, "no disk", d, api.ErrNil)
	}
	for _, e := range []*Engine{nil, {}} {
		wantEach(t, "no engine", e, api.ErrNil)
	}
}

func TestP22_1ANewStore(t *testing.T) {
	e, d := fresh(t, 6)
	first := anchor.Fresh()
	first.Seq = 1
	if s := e.Status(); !reflect.DeepEqual(blank(s), api.Status{Anchor: first, Groups: 3}) {
		t.Errorf("Status = %s", brief(s))
	}
	if l := d.List(); !slices.Equal(l, []string{"anchor.a", "anchor.b", "m1.a", "m1.b", "t1.a", "t1.b"}) || d.Free() != 0 {
		t.Error(l, d.Free())
	}
	wantAll(t, "new", e, nil)
}

// creating is the chapter's words of a new store.
func creating(d *disk.Disk) []diskStep {
	steps := []diskStep{}
	for _, file := range d.List() {
		steps = append(steps, func(d *disk.Disk) api.Errno { return d.Remove(file) })
	}
	return append(steps, storing("t1", 1, make([]byte, 8)), storing("m1", 1, make([]byte, 4)), func(d *disk.Disk) api.Errno {
		_, code := anchor.Save(d, anchor.Fresh())
		return code
	})
}

// wantOpening holds Open against steps, on a disk that stops behind each number of changes.
func wantOpening(t *testing.T, what string, d *disk.Disk, steps ...diskStep) {
	t.Helper()
	for n := 0; ; n++ {
		got, wanted := d.Copy(), d.Copy()
		got.Fuse(n)
		wanted.Fuse(n)
		code := api.OK
		for _, s := range steps {
			if code = s(wanted); code != api.OK {
				break
			}
		}
		what := fmt.Sprint(what, ", fuse of ", n)
		e, opens := Open(got)
		want(t, what, opens, code)
		if (e == nil) != (code != api.OK) {
			t.Errorf("%s: Open = %v", what, e)
		}
		wantSame(t, what, got, wanted)
		if code != api.ErrDead {
			return
		}
	}
}

// What a making that stopped has left is no store: it is made again.
func TestP22_1ANewStoreStepByStep(t *testing.T) {
	d := newDisk(t, 6)
	wantOpening(t, "empty", d, creating(d)...)
	for n := range 13 {
		for _, kept := range []int{0, 50, 128} {
			left := d.Copy()
			left.Fuse(n)
			Open(left)
			left.Crash([]api.Kept{{Name: "anchor.a", Bytes: kept}, {Name: "m1.a", Bytes: kept}, {Name: "t1.b", Bytes: kept}})
			if _, code := anchor.Load(left); code != api.OK {
				wantOpening(t, fmt.Sprint("left behind ", n), left, creating(left)...)
			}
			wantAll(t, "opened", opened(t, left), nil)
		}
	}
}

func TestP22_1RoomForANewStore(t *testing.T) {
	for room := range 6 {
		d := newDisk(t, room)
		wantNotOpened(t, "empty", d, api.ErrFull)
		wantSame(t, "empty", d, newDisk(t, room))
		for i := range room {
			d.Write("t1.b", i, make([]byte, api.Size))
			before := d.Copy()
			wantNotOpened(t, "some of it written", d, api.ErrFull)
			wantSame(t, "full", d, before)
		}
	}
	d := newDisk(t, 6)
	for i := range 6 {
		d.Write("m1.a", i, make([]byte, api.Size))
	}
	wantAll(t, "room that files have", opened(t, d), nil)
}

func TestP22_1NoAnchorButOtherFiles(t *testing.T) {
	for _, file := range []string{"w1.a", "m2.a", "t2.b", "f1.a", "c1.0", "i1.b", "x", "anchor", "anchor.c", "m1", "m1.c", "m1.0", "m01.a", "t1.a.a", "m11.a"} {
		d := newDisk(t, 20)
		d.Write(file, 0, make([]byte, api.Size))
		before := d.Copy()
		wantNotOpened(t, file, d, api.ErrAnchor)
		opened := newDisk(t, 20)
		Open(opened)
		opened.Write(file, 0, make([]byte, api.Size))
		turn(opened, "anchor.a", "anchor.b")
		wantNotOpened(t, file, opened, api.ErrAnchor)
		wantSame(t, file, d, before)
	}
}

func TestExampleOfTheWhole8BothAnchors(t *testing.T) {
	e, d := fresh(t, 100)
	must(t, "Append", e.Append(rows(0, 1, "a", "x")))
	turn(d, "anchor.a", "anchor.b")
	wantNotOpened(t, "turned", d, api.ErrAnchor)
}

// some is a store that has blocks, deletes, a ledger and a log.
func some(t *testing.T) (*disk.Disk, *model) {
	t.Helper()
	e, d := fresh(t, 2000)
	m := newModel()
	do := func(o api.Op) {
		t.Helper()
		m.do(o)
		code := api.ErrArg
		switch o.Kind {
		case api.OpAppend:
			code = e.Append(o.Rows)
		case api.OpDelete:
			code = e.Delete(o.Matchers, o.From, o.To)
		case api.OpKeep:
			code = e.Keep(o.Keep)
		}
		must(t, "operation", code)
	}
	for i := range 2 {
		do(opAppend(append(rows(100*i, 90, "a", "x"), rows(100*i, 50, "a", "y", "b", "z")...)...))
		must(t, "Cut", e.Cut())
	}
	do(opAppend(rows(50, 3, "a", "x")...))
	do(api.Op{Kind: api.OpDelete, Matchers: is("b", "z"), From: 20, To: 120})
	must(t, "Cut", e.Cut())
	do(opAppend(rows(300, 40, "a", "x")...))
	do(api.Op{Kind: api.OpDelete, From: 60, To: 65})
	do(api.Op{Kind: api.OpKeep, Keep: 330})
	do(opAppend(rows(340, 5, "c", "x")...))
	wantAll(t, "some", e, m.tell(nil, least, greatest))
	return d, m
}

func TestP22_1TheStoreThatStands(t *testing.T) {
	d, m := some(t)
	first := opened(t, d)
	s := first.Status()
	wantAll(t, "opened", first, m.tell(nil, least, greatest))
	if len(s.Blocks) != 3 || len(s.Deletes) != 2 || s.Anchor.Floor != m.floor || s.Anchor.Newest != 344 || s.Anchor.Keep != 330 || s.Series != 2 || s.Anchor.LSN != 8 {
		t.Errorf("Status = %s", brief(s))
	}
	before := d.Copy()
	again := opened(t, d)
	wantSame(t, "opened again", d, before)
	if got := again.Status(); !reflect.DeepEqual(got, s) {
		t.Errorf("Status = %s, not %s", brief(got), brief(s))
	}
}

func mendingAnchor(d *disk.Disk) api.Errno {
	_, code := pair.Mend(d, "anchor", 0)
	return code
}

func syncing(file string) diskStep {
	return func(d *disk.Disk) api.Errno { return d.Sync(file) }
}

func removing(files ...string) []diskStep {
	var steps []diskStep
	for _, file := range files {
		steps = append(steps, func(d *disk.Disk) api.Errno { return d.Remove(file) })
	}
	return steps
}

func TestP22_1OpeningStepByStep(t *testing.T) {
	d, _ := some(t)
	settling := []diskStep{mendingAnchor, syncing("anchor.a"), syncing("anchor.b")}
	wantOpening(t, "right", d, settling...)
	d.Rot("anchor.a", 0, 50, 1)
	wantOpening(t, "a half of the anchor turned", d, settling...)
	orphans := []string{"anchor", "c1", "c1.3", "c1.a", "c9.0", "c9.p", "f01.a", "f9.a", "i9.b", "m3.b", "m4", "t3.a", "w1.a", "w3.a", "w4.c", "z"}
	for _, file := range orphans {
		d.Write(file, 0, make([]byte, api.Size))
	}
	wantOpening(t, "orphans", d, append(settling, removing(orphans...)...)...)
	d.Rot("anchor.a", 0, 50, 1)
	d.Remove("anchor.b")
	wantOpening(t, "a half of the anchor gone", d, append(settling, removing(orphans...)...)...)
}

// The log's segment is no orphan, though none of its extents may count.
func TestP22_1TheSegmentIsNoOrphan(t *testing.T) {
	e, d := fresh(t, 100)
	d.Fuse(2)
	want(t, "Append", e.Append(rows(0, 1, "a", "x")), api.ErrDead)
	d.Crash(nil)
	before := d.Copy()
	e = opened(t, d)
	wantSame(t, "opened", d, before)
	if d.Extents("w1.a") != 1 {
		t.Error(d.List())
	}
	must(t, "Append", e.Append(rows(5, 1, "a", "y")))
	wantAll(t, "written over", opened(t, d), seriesOf(rows(5, 1, "a", "y")...))
}

// A disk that stopped without a crash reads what waits; opening must not leave it waiting.
func TestP22_1AnAnchorThatWaits(t *testing.T) {
	e, d := fresh(t, 100)
	must(t, "Append", e.Append(rows(0, 1, "a", "x")))
	for fuse, wanted := range map[int]api.Errno{5: api.ErrDead, 6: api.ErrDead, 7: api.ErrDead, 8: api.OK} { // four changes of the log, four of the anchor
		other := d.Copy()
		e := opened(t, other)
		other.Fuse(fuse)
		want(t, "Append", e.Append(rows(5, 1, "a", "x")), wanted)
		other.Fuse(1 << 20)
		told, _ := opened(t, other).Select(nil, least, greatest)
		if len(told.Series) != 1 || len(told.Series[0].Samples) != 2 {
			t.Errorf("fuse of %d: %s", fuse, brief(told))
		}
		other.Crash(nil)
		wantAll(t, "behind a crash", opened(t, other), told.Series)
		for _, half := range []string{"anchor.a", "anchor.b"} {
			turned := other.Copy()
			turn(turned, half)
			wantAll(t, "a half turned", opened(t, turned), told.Series)
		}
	}
}

// wantRefused has an opening refused that turns nothing but the anchor, which is right.
func wantRefused(t *testing.T, what string, d *disk.Disk, wanted api.Errno) {
	t.Helper()
	before := d.Copy()
	wantNotOpened(t, what, d, wanted)
	wantSame(t, what, d, before)
}

func TestP22_1WhatCannotBeRead(t *testing.T) {
	d, m := some(t)
	for name, wanted := range map[string]api.Errno{"m4": api.ErrManifest, "t4": api.ErrTombs, "w4": api.ErrWal, "anchor": api.ErrAnchor} {
		for _, half := range []string{".a", ".b"} {
			one := d.Copy()
			turn(one, name+half)
			wantAll(t, name+half, opened(t, one), m.tell(nil, least, greatest))
			one.Remove(name + half)
			if d.Free() > 0 {
				wantAll(t, name+half, opened(t, one), m.tell(nil, least, greatest))
			}
		}
		both := d.Copy()
		turn(both, name+".a", name+".b")
		wantRefused(t, name, both, wanted)
		both.Remove(name + ".a")
		both.Remove(name + ".b")
		wantRefused(t, name+" gone", both, wanted)
	}
}

// The first of what can't be read is told.
func TestP22_1TheFirstError(t *testing.T) {
	d, _ := some(t)
	both := func(name string) { turn(d, name+".a", name+".b") }
	both("w4")
	wantRefused(t, "log", d, api.ErrWal)
	both("t4")
	wantRefused(t, "tombstones", d, api.ErrTombs)
	both("m4")
	wantRefused(t, "manifest", d, api.ErrManifest)
	both("anchor")
	wantRefused(t, "anchor", d, api.ErrAnchor)
}

func TestP22_1TextsThatSayNothing(t *testing.T) {
	d, _ := some(t)
	for what, c := range map[string]struct {
		name   string
		gen    int
		text   []byte
		wanted api.Errno
	}{
		"no manifest":                      {"m4", 4, []byte("no manifest"), api.ErrManifest},
		"a manifest of another generation": {"m4", 3, manifestOf(t), api.ErrManifest},
		"no tombstones":                    {"t4", 4, make([]byte, 9), api.ErrTombs},
		"tombstones of another generation": {"t4", 5, make([]byte, 8), api.ErrTombs},
	} {
		other := d.Copy()
		pair.Store(other, c.name, c.gen, c.text)
		wantRefused(t, what, other, c.wanted)
	}
	for what, rec := range map[string][]byte{"no operation": {9}, "an operation that may not be": {1, 0, 0}, "more behind": append(encoded(t, api.Op{Kind: api.OpKeep}), 0)} {
		other := d.Copy()
		a, _ := anchor.Load(other)
		n, code := wal.Append(other, a.Segment, a.Extents, a.LSN+1, rec)
		must(t, "wal.Append", code)
		saving(func(a *api.Anchor) { a.Extents += n })(other)
		wantRefused(t, what, other, api.ErrWal)
	}
	saving(func(a *api.Anchor) { a.Extents++ })(d)
	wantRefused(t, "more extents than there are", d, api.ErrWal)
	saving(func(a *api.Anchor) { a.Extents = api.MaxNumber })(d)
	wantRefused(t, "far more", d, api.ErrWal)
}

func encoded(t *testing.T, o api.Op) []byte {
	t.Helper()
	b, code := record.Encode(o)
	must(t, "record.Encode", code)
	return b
}

// Samples that the log has and the floor takes are not told, whatever order they came in.
func TestP22_1TheHeadIsRaised(t *testing.T) {
	e, d := fresh(t, 100)
	must(t, "Append", e.Append([]api.Row{row(5, 1, "a", "x"), row(100, 2, "a", "x")}))
	saving(func(a *api.Anchor) { a.Floor = 60 })(d)
	wantAll(t, "raised", opened(t, d), seriesOf(row(100, 2, "a", "x")))
	if e := opened(t, d); e.Status().Series != 1 || e.state.head.Samples() != 1 {
		t.Error(brief(e.Status()))
	}
}

func TestP22_1NoRoomForTheAnchor(t *testing.T) {
	d, _ := some(t)
	d.Remove("anchor.b")
	fill(t, d, 0)
	wantRefused(t, "no room", d, api.ErrFull)
}
