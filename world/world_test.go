package world

import (
	"fmt"
	"reflect"
	"slices"
	"testing"

	"dryrot/api"
	"dryrot/disk"
	"dryrot/engine"
	"dryrot/fsck"
)

func TestExampleOfTheChapter(t *testing.T) {
	w := fresh(t, 200)
	must(t, w, appends(rows(5, 3, "a", "x")...), kind(api.StepCut), appends(rows(9, 2, "a", "y")...))
	before := w.Do(all())
	must(t, w, kind(api.StepCrash), kind(api.StepOpen))
	if r := w.Do(all()); !sameReply(r, before) || len(r.Answer.Series) != 2 {
		t.Errorf("%s, not %s", brief(r), brief(before))
	}
}

func TestP24_1New(t *testing.T) {
	for _, room := range []int{least, -1, api.MaxRoom + 1, greatest} {
		if w, code := New(room); w != nil || code != api.ErrArg {
			t.Errorf("New(%d) = %v, %d", room, w, int(code))
		}
	}
	for room := range 6 {
		if w, code := New(room); w != nil || code != api.ErrFull {
			t.Errorf("New(%d) = %v, %d", room, w, int(code))
		}
	}
	for _, room := range []int{6, 7, 1000, api.MaxRoom} {
		w := fresh(t, room)
		d, _ := disk.New(room)
		e, _ := engine.Open(d)
		wantSame(t, fmt.Sprint("New of ", room), w.Disk(), d)
		if !reflect.DeepEqual(w.Engine().Status(), e.Status()) {
			t.Errorf("New(%d): %s", room, brief(w.Engine().Status()))
		}
		wantTold(t, w, all(), nil)
		wantWorst(t, w, 0)
	}
}

// engineKinds is the kinds of what is a call of the engine.
func engineKinds() []int {
	return []int{api.StepAppend, api.StepDelete, api.StepKeep, api.StepCut, api.StepTick, api.StepScrub, api.StepClose, api.StepSelect, api.StepNames}
}

// right is a step of a kind whose arguments may be.
func right(k int) api.Step {
	return api.Step{Kind: k, N: 1, From: 3, To: 4, Rows: rows(5, 1, "a", "x")}
}

func TestP24_1WithoutAnEngine(t *testing.T) {
	w := fresh(t, 200)
	must(t, w, appends(rows(5, 3, "a", "x")...), kind(api.StepClose))
	before := w.Disk()
	for _, k := range engineKinds() {
		want(t, w, api.ErrArg, kind(k), right(k), names("a"), deletes([]api.Matcher{{}}, 0, 1))
	}
	wantSame(t, "ErrArg", w.Disk(), before)
	if w.Engine() != nil {
		t.Error("there is an engine")
	}
	must(t, w, kind(api.StepOpen))
	wantTold(t, w, all(), []api.Series{series(rows(5, 3, "a", "x")...)})
}

func TestP24_1KindsThatAreNone(t *testing.T) {
	w := fresh(t, 200)
	before := w.Disk()
	for range 2 {
		for _, k := range []int{0, -1, least, 15, 99, greatest} {
			want(t, w, api.ErrArg, kind(k), right(k))
		}
		wantSame(t, "ErrArg", w.Disk(), before)
		must(t, w, kind(api.StepCrash))
		before = w.Disk()
	}
}

// What the engine refuses is told, and so is what it tells once it has stopped; it is there till it is closed.
func TestP24_1TheEnginesErrors(t *testing.T) {
	w := fresh(t, 300)
	must(t, w, times(api.StepKeep, 10), appends(row(100, 1, "a", "x")))
	want(t, w, api.ErrOld, appends(row(89, 1, "a", "x")))
	want(t, w, api.ErrArg, appends(), appends(api.Row{T: 100}), times(api.StepKeep, -1), deletes([]api.Matcher{{}}, 0, 1), selects([]api.Matcher{{}}, 0, 1))
	must(t, w, times(api.StepFuse, 0))
	e := w.Engine()
	want(t, w, api.ErrDead, appends(row(100, 1, "a", "x")))
	for _, k := range engineKinds() {
		if k != api.StepClose {
			want(t, w, api.ErrClosed, right(k))
		}
	}
	want(t, w, api.ErrClosed, names("a"))
	if w.Engine() != e {
		t.Error("it is another engine")
	}
	want(t, w, api.ErrArg, kind(api.StepOpen), kind(api.StepFsck))
}

// Close leaves no engine, be it one that goes on, one that has stopped, or one that somebody closed.
func TestP24_1Close(t *testing.T) {
	w := fresh(t, 300)
	must(t, w, appends(row(100, 1, "a", "x")))
	e := w.Engine()
	must(t, w, kind(api.StepClose))
	if w.Engine() != nil || e.Cut() != api.ErrClosed {
		t.Error("it is not closed")
	}
	want(t, w, api.ErrArg, kind(api.StepClose))
	must(t, w, kind(api.StepOpen), times(api.StepFuse, 0))
	want(t, w, api.ErrDead, appends(row(101, 1, "a", "x")))
	want(t, w, api.ErrClosed, kind(api.StepClose))
	if w.Engine() != nil {
		t.Error("one that has stopped is still there")
	}
	want(t, w, api.ErrArg, kind(api.StepClose))
	want(t, w, api.ErrDead, kind(api.StepOpen))
	must(t, w, times(api.StepFuse, 100), kind(api.StepOpen))
	w.Engine().Close()
	want(t, w, api.ErrArg, kind(api.StepOpen))
	want(t, w, api.ErrClosed, all(), kind(api.StepClose))
	must(t, w, kind(api.StepOpen))
	wantTold(t, w, all(), []api.Series{series(row(100, 1, "a", "x"))})
}

func TestP24_1Open(t *testing.T) {
	w := fresh(t, 300)
	before := w.Disk()
	e := w.Engine()
	want(t, w, api.ErrArg, kind(api.StepOpen))
	if w.Engine() != e {
		t.Error("it is another engine")
	}
	wantSame(t, "ErrArg", w.Disk(), before)
	must(t, w, kind(api.StepClose))
	turned(t, w, "t1.a", "t1.b")
	want(t, w, api.ErrTombs, kind(api.StepOpen), kind(api.StepOpen))
	turned(t, w, "m1.a", "m1.b")
	want(t, w, api.ErrManifest, kind(api.StepOpen))
	if w.Engine() != nil {
		t.Error("there is an engine")
	}
	want(t, w, api.ErrArg, all())
	turned(t, w, "t1.a", "t1.b", "m1.a")
	must(t, w, kind(api.StepOpen))
	if w.Engine() == nil || w.Engine() == e {
		t.Error("it is no new engine")
	}
	wantTold(t, w, all(), nil)
}

// blocks is how many blocks the engine has.
func blocks(w *World) int { return len(w.Engine().Status().Blocks) }

// sixBlocks is a world with six blocks of level 1.
func sixBlocks(t *testing.T) *World {
	t.Helper()
	w := fresh(t, 2000)
	for i := range 6 {
		must(t, w, appends(rows(10*i, 3, "a", "x")...), kind(api.StepCut))
	}
	return w
}

func TestP24_1HowOften(t *testing.T) {
	for n, left := range map[int]int{least: 4, -1: 4, 0: 4, 1: 4, 2: 2, 3: 2, 100: 2, greatest: 2} {
		w := sixBlocks(t)
		before := w.Do(all())
		must(t, w, times(api.StepTick, n))
		if blocks(w) != left {
			t.Errorf("%d times Tick: %d blocks, not %d", n, blocks(w), left)
		}
		if r := w.Do(all()); !sameReply(r, before) {
			t.Errorf("%d times Tick: %s, not %s", n, brief(r), brief(before))
		}
	}
	for n, cursor := range map[int]int{least: 1, -7: 1, 0: 1, 1: 1, 2: 2, 99: 99, 100: 100, 101: 100, greatest: 100} {
		w := fresh(t, 10000)
		for i := range 40 {
			must(t, w, appends(rows(200*i, 200, "a", fmt.Sprint(i))...))
		}
		if groups := w.Engine().Status().Groups; groups < 200 {
			t.Fatal(groups, " groups")
		}
		must(t, w, times(api.StepScrub, n))
		if c := w.Engine().Status().Anchor.Cursor; c != cursor {
			t.Errorf("%d times Scrub: the cursor is at %d, not %d", n, c, cursor)
		}
	}
	for _, n := range []int{least, 0, 1, 2, greatest} {
		w := fresh(t, 2000)
		must(t, w, appends(rows(5, 3, "a", "x")...), times(api.StepCut, n))
		if s := w.Engine().Status(); len(s.Blocks) != 1 || s.Anchor.Gen != 2 {
			t.Errorf("%d times Cut: %s", n, brief(s))
		}
	}
}

// Of what is done several times, the first error ends it: what was done ahead of that stands.
func TestP24_1UpToAnError(t *testing.T) {
	w := sixBlocks(t)
	before := w.Do(all())
	for n := range 200 {
		x := &World{disk: w.Disk()}
		must(t, x, kind(api.StepOpen), times(api.StepFuse, n))
		r := x.Do(times(api.StepTick, 3))
		if r.Code == api.OK {
			if n < 20 {
				t.Fatal(n)
			}
			return
		}
		if !reflect.DeepEqual(r, api.Reply{Code: api.ErrDead}) {
			t.Fatalf("fuse of %d: %s, not ErrDead", n, brief(r)) // not ErrClosed, which a further Tick would tell
		}
		must(t, x, kind(api.StepCrash), kind(api.StepOpen))
		if r := x.Do(all()); !sameReply(r, before) {
			t.Fatalf("fuse of %d: %s, not %s", n, brief(r), brief(before))
		}
	}
	t.Error("it does not come to an end")
}

func TestP24_1Fuse(t *testing.T) {
	w := fresh(t, 300)
	want(t, w, api.ErrArg, times(api.StepFuse, -1), times(api.StepFuse, least))
	must(t, w, appends(rows(5, 1, "a", "x")...), times(api.StepFuse, 0), times(api.StepFuse, greatest), appends(rows(6, 1, "a", "x")...), times(api.StepFuse, 3))
	want(t, w, api.ErrDead, appends(rows(7, 1, "a", "x")...))
	must(t, w, kind(api.StepCrash), kind(api.StepOpen)) // behind a crash there is no fuse
	wantTold(t, w, all(), []api.Series{series(rows(5, 2, "a", "x")...)})
	must(t, w, kind(api.StepClose), times(api.StepFuse, 0)) // with an engine or without one
	want(t, w, api.ErrDead, kind(api.StepOpen))
}

func TestP24_1Crash(t *testing.T) {
	w := fresh(t, 300)
	e := w.Engine()
	must(t, w, appends(rows(5, 1, "a", "x")...), times(api.StepFuse, 1))
	want(t, w, api.ErrDead, appends(rows(6, 1, "a", "x")...)) // w1.a's extent 1 is written, and waits
	d := w.Disk()
	kept := []api.Kept{{Name: "w1.b", Index: 0, Bytes: 3}, {Name: "w1.a", Index: 1, Bytes: 60}, {Name: "w1.a", Index: 1, Bytes: 0}, {Name: "none", Index: -1, Bytes: least}}
	must(t, w, api.Step{Kind: api.StepCrash, Kept: kept})
	d.Crash(kept)
	wantSame(t, "Crash", w.Disk(), d)
	if w.Engine() != nil {
		t.Error("there is an engine")
	}
	if !slices.Equal(w.Disk().Damaged(), []api.Spot{{Name: "w1.a", Index: 1}}) {
		t.Error(w.Disk().Damaged())
	}
	wantWorst(t, w, 1)
	must(t, w, kind(api.StepCrash), kind(api.StepOpen))
	wantTold(t, w, all(), []api.Series{series(rows(5, 1, "a", "x")...)})
	if w.Engine() == e {
		t.Error("it is no new engine")
	}
}

func TestP24_1Rot(t *testing.T) {
	w := fresh(t, 300)
	before := w.Disk()
	for _, mask := range []int{least, -1, 256, 257, 512, greatest} {
		want(t, w, api.ErrArg, rots("m1.a", 0, 5, mask), rots("none", 0, 5, mask), rots("m1.a", 1, 200, mask))
	}
	want(t, w, api.ErrFile, rots("none", 0, 5, 1), rots("", 0, 5, 1), rots("m1", 0, 5, 1), rots("m1.a", 1, 5, 1), rots("m1.a", -1, 5, 1), rots("m1.a", greatest, 128, 255))
	want(t, w, api.ErrArg, rots("m1.a", 0, -1, 1), rots("m1.a", 0, api.Size, 1), rots("m1.a", 0, least, 0))
	wantSame(t, "refused", w.Disk(), before)
	for _, mask := range []int{0, 1, 0x80, 255} {
		for _, at := range []int{0, 64, api.Size - 1} {
			must(t, w, rots("m1.b", 0, at, mask))
			before.Rot("m1.b", 0, at, byte(mask))
			wantSame(t, "Rot", w.Disk(), before)
		}
	}
	must(t, w, kind(api.StepClose), rots("anchor.b", 0, 7, 9))
	if w.Worst() != 1 {
		t.Error(w.Worst())
	}
}

func TestP24_1Fsck(t *testing.T) {
	w := sixBlocks(t)
	before := w.Do(all())
	d := w.Disk()
	want(t, w, api.ErrArg, kind(api.StepFsck))
	wantSame(t, "ErrArg", w.Disk(), d)
	must(t, w, kind(api.StepClose))
	turned(t, w, "m7.a", "m7.b", "i2.a", "i2.b", "i5.a")
	d = w.Disk()
	if code := fsck.Run(d); code != api.OK {
		t.Fatal(int(code))
	}
	want(t, w, api.ErrManifest, kind(api.StepOpen))
	must(t, w, kind(api.StepFsck))
	if w.Engine() != nil {
		t.Error("there is an engine")
	}
	wantSame(t, "Fsck", w.Disk(), d)
	must(t, w, kind(api.StepOpen))
	if r := w.Do(all()); !sameReply(r, before) || blocks(w) != 6 {
		t.Errorf("%s, not %s", brief(r), brief(before))
	}
	must(t, w, kind(api.StepClose))
	turned(t, w, "m7.a", "m7.b", "f2.a", "f2.b")
	want(t, w, api.ErrLost, kind(api.StepFsck))
	turned(t, w, "anchor.a", "anchor.b")
	want(t, w, api.ErrAnchor, kind(api.StepFsck), kind(api.StepOpen))
}

func TestP24_1SelectAndNames(t *testing.T) {
	w := fresh(t, 300)
	x, y := rows(5, 4, "a", "x"), rows(6, 1, "a", "y", "b", "z")
	must(t, w, appends(x...), kind(api.StepCut), appends(y...))
	wantTold(t, w, all(), []api.Series{series(x...), series(y...)})
	wantTold(t, w, selects(nil, 6, 7), []api.Series{series(x[1:3]...), series(y...)})
	wantTold(t, w, selects(is("a", "x"), 7, greatest), []api.Series{series(x[2:]...)})
	wantTold(t, w, selects(nil, 7, 6), nil)
	wantTold(t, w, kind(api.StepSelect), nil)
	wantTold(t, w, api.Step{Kind: api.StepSelect, N: 9, From: 6, To: 6, Name: "a", Rows: x, Matchers: is("b", "z"), Kept: []api.Kept{{}}}, []api.Series{series(y...)})
	wantNames(t, w, names(""), "a", "b")
	wantNames(t, w, names("a"), "x", "y")
	wantNames(t, w, names("b"), "z")
	wantNames(t, w, names("c"))
	wantNames(t, w, names("\x00"))
	turned(t, w, "c1.0", "c1.1")
	wantTold(t, w, all(), nil, api.Gap{From: 5, To: 8})
	wantTold(t, w, selects(nil, 7, 20), nil, api.Gap{From: 7, To: 8})
	want(t, w, api.ErrDegraded, names(""), names("a"))
	wantWorst(t, w, 2)
}

func TestNoCallMadeIt(t *testing.T) {
	for _, w := range []*World{nil, {}} {
		for k := -1; k < 17; k++ {
			want(t, w, api.ErrNil, kind(k), right(k))
		}
		if w.Engine() != nil || w.Disk() != nil || w.Worst() != 0 {
			t.Error(w.Engine(), w.Disk(), w.Worst())
		}
	}
}

// twin is the table of the steps, said once more: a disk, and an engine on it, or none.
type twin struct {
	d *disk.Disk
	e *engine.Engine
}

func (x *twin) do(s api.Step) api.Reply {
	r := api.Reply{Code: api.ErrArg}
	if slices.Contains(engineKinds(), s.Kind) && x.e == nil {
		return r
	}
	often := func(call func() api.Errno) {
		for i := 0; i == 0 || i < s.N && i < 100; i++ {
			if r.Code = call(); r.Code != api.OK {
				return
			}
		}
	}
	switch s.Kind {
	case api.StepAppend:
		r.Code = x.e.Append(s.Rows)
	case api.StepDelete:
		r.Code = x.e.Delete(s.Matchers, s.From, s.To)
	case api.StepKeep:
		r.Code = x.e.Keep(s.N)
	case api.StepCut:
		often(x.e.Cut)
	case api.StepTick:
		often(x.e.Tick)
	case api.StepScrub:
		often(x.e.Scrub)
	case api.StepClose:
		r.Code = x.e.Close()
		x.e = nil
	case api.StepOpen:
		if x.e == nil {
			x.e, r.Code = engine.Open(x.d)
		}
	case api.StepFuse:
		r.Code = x.d.Fuse(s.N)
	case api.StepCrash:
		x.e = nil
		r.Code = x.d.Crash(s.Kept)
	case api.StepRot:
		if s.To >= 0 && s.To <= 255 {
			r.Code = x.d.Rot(s.Name, s.N, s.From, byte(s.To))
		}
	case api.StepFsck:
		if x.e == nil {
			r.Code = fsck.Run(x.d)
		}
	case api.StepSelect:
		r.Answer, r.Code = x.e.Select(s.Matchers, s.From, s.To)
	case api.StepNames:
		if s.Name == "" {
			r.Names, r.Code = x.e.Names()
		} else {
			r.Names, r.Code = x.e.Values(s.Name)
		}
	}
	return r
}

// wantTwins holds a world against its twin.
func (x *twin) wantTwins(t *testing.T, what string, w *World) {
	t.Helper()
	wantSame(t, what, w.Disk(), x.d)
	if (w.Engine() == nil) != (x.e == nil) || !reflect.DeepEqual(w.Engine().Status(), x.e.Status()) {
		t.Errorf("%s: %s, not %s", what, brief(w.Engine().Status()), brief(x.e.Status()))
	}
}

func TestP24_1AsTheTableSays(t *testing.T) {
	codes := map[api.Errno]int{}
	for seed := range int64(40) {
		c := newChance(seed)
		room := 60 + c.Intn(400)
		w := fresh(t, room)
		x := &twin{}
		x.d, _ = disk.New(room)
		x.e, _ = engine.Open(x.d)
		for i := range 150 {
			s := c.anyStep(x.d)
			got, wanted := w.Do(s), x.do(s)
			codes[wanted.Code]++
			what := fmt.Sprint("seed ", seed, ", step ", i, ": ", brief(s))
			if !reflect.DeepEqual(got, wanted) {
				t.Fatalf("%s: %s, not %s", what, brief(got), brief(wanted))
			}
			x.wantTwins(t, what, w)
			if t.Failed() {
				t.FailNow()
			}
		}
	}
	for _, code := range []api.Errno{api.OK, api.ErrArg, api.ErrFull, api.ErrDead, api.ErrClosed, api.ErrOld, api.ErrFile, api.ErrDegraded, api.ErrManifest} {
		if codes[code] == 0 {
			t.Errorf("no reply was %d: %v", int(code), codes)
		}
	}
}
