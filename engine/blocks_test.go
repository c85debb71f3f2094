package engine

import (
	"fmt"
	"math"
	"reflect"
	"slices"
	"testing"

	"dryrot/anchor"
	"dryrot/api"
	"dryrot/block"
	"dryrot/disk"
	"dryrot/pair"
	"dryrot/wal"
)

// foots is the blocks of a disk that opens, as its footers say them.
func foots(t *testing.T, d *disk.Disk) []api.Footer {
	t.Helper()
	var l []api.Footer
	for _, f := range opened(t, d.Copy()).Status().Blocks {
		f, code := block.Foot(d, f.Number)
		must(t, "Foot", code)
		l = append(l, f)
	}
	return l
}

func bare(l ...api.Footer) []api.Footer {
	l = slices.Clone(l)
	for i := range l {
		l[i].Parents = nil
	}
	return l
}

func TestP22_6CutStepByStep(t *testing.T) {
	d, m := some(t)
	old := foots(t, d)
	head := seriesOf(slices.Concat(rows(300, 40, "a", "x"), rows(340, 5, "c", "x"))...)
	f := made(t, head, 4, 5, 1, 4)
	deletes := []api.Delete{{Matchers: is("b", "z"), From: 20, To: 120, Upto: 2}, {From: 60, To: 65, Upto: 3}}
	e := wantSteps(t, "Cut", d, (*Engine).Cut,
		writing(f, head),
		storing("t5", 5, tombsOf(t, deletes, nil)),
		storing("m5", 5, manifestOf(t, append(old, f)...)),
		saving(func(a *api.Anchor) { a.Gen, a.Segment, a.Extents, a.Next = 5, 5, 0, 5 }),
		droppingPair("m4", "t4", "w4"),
	)
	wantAll(t, "cut", e, m.tell(nil, least, greatest))
	s := e.Status()
	if s.Series != 0 || len(s.Blocks) != 4 || !reflect.DeepEqual(s.Blocks[3], f) || f.Min != 300 || f.Max != 344 || s.Anchor.LSN != 8 || s.Anchor.Newest != 344 || s.Anchor.Keep != 330 || s.Anchor.Floor != m.floor {
		t.Errorf("%+v", s)
	}
}

// A log that has left no sample is let go without a block.
func TestP22_6CutWithoutSamples(t *testing.T) {
	e, d := fresh(t, 30)
	must(t, "Keep", e.Keep(7))
	e = wantSteps(t, "Cut", d, (*Engine).Cut,
		storing("t2", 2, tombsOf(t, nil, nil)),
		storing("m2", 2, manifestOf(t)),
		saving(func(a *api.Anchor) { a.Gen, a.Segment, a.Extents = 2, 2, 0 }),
		droppingPair("m1", "t1", "w1"),
	)
	if s := e.Status(); len(s.Blocks) != 0 || s.Anchor.Next != 1 || s.Anchor.Keep != 7 {
		t.Errorf("%+v", s)
	}
}

func TestP22_6NothingToCut(t *testing.T) {
	e, d := fresh(t, 100)
	for range 2 {
		before := d.Copy()
		d.Fuse(0)
		must(t, "nothing to cut", e.Cut())
		d.Fuse(1 << 30)
		before.Fuse(1 << 30)
		wantSame(t, "nothing to cut", d, before)
		must(t, "Append", e.Append(rows(0, 1, "a", "x")))
		must(t, "Cut", e.Cut())
	}
}

func TestP22_6Room(t *testing.T) {
	for _, count := range []int{0, 1, 100} {
		need := pair.Need(4) + pair.Need(8)
		if count > 0 {
			need = pair.Need(4+56) + pair.Need(8) + block.Need(seriesOf(rows(0, count, "a", "x")...))
		}
		for _, free := range []int{0, 1, need - 1, need, need + 1} {
			e, d := fresh(t, 500)
			if count > 0 {
				must(t, "Append", e.Append(rows(0, count, "a", "x")))
			}
			must(t, "Keep", e.Keep(0))
			fill(t, d, free)
			wantRoom(t, fmt.Sprint("Cut of ", count, " with ", free), e, d, (*Engine).Cut, free >= need)
		}
	}
}

// wantRoom has a call succeed, or refused for want of room, with nothing changed.
func wantRoom(t *testing.T, what string, e *Engine, d *disk.Disk, call func(e *Engine) api.Errno, has bool) {
	t.Helper()
	if has {
		must(t, what, call(e))
		return
	}
	before, status := d.Copy(), e.Status()
	want(t, what, call(e), api.ErrFull)
	wantSame(t, what, d, before)
	if !reflect.DeepEqual(e.Status(), status) {
		t.Errorf("%s: Status = %s, not %s", what, brief(e.Status()), brief(status))
	}
}

func TestP22_6ThousandBlocks(t *testing.T) {
	d := newDisk(t, 50000)
	var l []api.Footer
	for n := range 1000 {
		f := made(t, seriesOf(row(n, 1, "a", "x")), n+1, 7, 1+n%2, n+1)
		l = append(l, f)
	}
	store(t, d, nil, nil, l[:999]...)
	e := opened(t, d)
	must(t, "Append", e.Append(rows(0, 1, "a", "x")))
	must(t, "the 1000th", e.Cut())
	if n := len(e.Status().Blocks); n != 1000 {
		t.Error(n)
	}
	must(t, "Append", e.Append(rows(0, 1, "a", "x")))
	wantRoom(t, "the 1001st", e, d, (*Engine).Cut, false)
	must(t, "Delete", e.Delete(nil, 0, 0))
	must(t, "none more", e.Cut())
	if s := e.Status(); len(s.Blocks) != 1000 || s.Anchor.Extents != 0 {
		t.Error(len(s.Blocks), s.Anchor.Extents)
	}
}

// A series that has more samples than a stream may is no block's: the log stays.
func TestP22_6ABlockThatCannotBe(t *testing.T) {
	e, d := fresh(t, 500)
	must(t, "Append", e.Append(rows(0, 1, "a", "x")))
	must(t, "head.Append", e.state.head.Append(rows(0, 65535, "a", "x")))
	other := *e.state
	must(t, "Delete", e.state.head.Delete(nil, 0, 0))
	must(t, "head.Append", e.state.head.Append(rows(-1, 2, "a", "x")))
	before := d.Copy()
	want(t, "too many samples", e.Cut(), api.ErrArg)
	wantSame(t, "too many samples", d, before)
	fill(t, d, pair.Need(4+56)+pair.Need(8)-1)
	want(t, "no room, either", e.Cut(), api.ErrFull)
	if e.state.head != other.head || !reflect.DeepEqual(e.state.Anchor, other.Anchor) {
		t.Error("the state has changed")
	}
	must(t, "Delete", e.Delete(nil, -1, -1))
	must(t, "Remove", d.Remove("w1.z"))
	*d = *roomFor(t, d, 100000)
	must(t, "not too many", e.Cut())
	if s := e.Status(); len(s.Blocks) != 1 || s.Blocks[0].Max != 65534 {
		t.Errorf("%+v", s)
	}
}

// Series of more chunks than an index may have are more than a disk has room for.
func TestP22_6MoreChunksThanMayBe(t *testing.T) {
	e, d := fresh(t, 100000)
	must(t, "Append", e.Append(rows(0, 1, "a", "x")))
	var l []api.Row
	for i := range 100000 {
		l = append(l, row(0, 1, "a", fmt.Sprint(i)))
	}
	must(t, "head.Append", e.state.head.Append(l))
	before, status := d.Copy(), e.Status()
	want(t, "Cut", e.Cut(), api.ErrFull)
	wantSame(t, "Cut", d, before)
	if !reflect.DeepEqual(e.Status(), status) {
		t.Error(brief(e.Status()))
	}
}

// What a commit writes of deletes and ledger: what the blocks still heed, and what is still a block's.
func TestP22_6CommitPrunes(t *testing.T) {
	e, d := cutEach(t, rows(0, 5, "a", "x"), rows(10, 5, "a", "x"), rows(20, 5, "a", "x"))
	deletes := []api.Delete{{Matchers: is("a", "x"), From: 1, To: 1, Upto: 1}, {Matchers: is("a", "x"), From: 11, To: 11, Upto: 2}, {Matchers: is("a", "x"), From: 2, To: 2}, {Matchers: is("a", "x"), From: 12, To: 12, Upto: 7}}
	ledger := []api.Spot{{Name: "c1.0", Index: 3}, {Name: "c2.p", Index: 0}, {Name: "c4.0", Index: 0}, {Name: "f1.a", Index: 0}, {Name: "i3.b", Index: 9}, {Name: "m4.a", Index: 0}, {Name: "w4.a", Index: 0}, {Name: "z", Index: 1}}
	pair.Store(d, "t4", 4, tombsOf(t, deletes, ledger))
	e = opened(t, d)
	if s := e.Status(); !reflect.DeepEqual(s.Deletes, deletes) || !reflect.DeepEqual(s.Ledger, ledger) {
		t.Errorf("%+v", s)
	}
	must(t, "Append", e.Append(rows(30, 1, "a", "x")))
	must(t, "Cut", e.Cut())
	left := []api.Delete{deletes[0], deletes[1], deletes[3]}
	held := []api.Spot{ledger[0], ledger[1], ledger[2], ledger[3], ledger[4]}
	for _, e := range []*Engine{e, opened(t, d)} {
		if s := e.Status(); !reflect.DeepEqual(s.Deletes, left) || !reflect.DeepEqual(s.Ledger, held) {
			t.Errorf("%+v", s)
		}
	}
	must(t, "Keep", e.Keep(17))
	must(t, "Tick", e.Tick())
	for _, e := range []*Engine{e, opened(t, d)} {
		if s := e.Status(); len(s.Blocks) != 3 || !reflect.DeepEqual(s.Deletes, left[1:]) || !reflect.DeepEqual(s.Ledger, []api.Spot{held[1], held[2], held[4]}) {
			t.Errorf("%+v", s)
		}
	}
}

func TestP22_7TickLetsExpiredBlocksGo(t *testing.T) {
	e, d := cutEach(t, rows(30, 5, "a", "x"), rows(0, 50, "a", "x"), rows(10, 20, "a", "x"), rows(20, 40, "a", "x"))
	must(t, "Append", e.Append(rows(90, 1, "a", "x")))
	must(t, "Delete", e.Delete(is("a", "x"), 40, 41))
	must(t, "Keep", e.Keep(55))
	l := foots(t, d)
	deletes := []api.Delete{{Matchers: is("a", "x"), From: 40, To: 41, Upto: 4}}
	e = wantSteps(t, "Tick", d, (*Engine).Tick,
		storing("t6", 6, tombsOf(t, deletes, nil)),
		storing("m6", 6, manifestOf(t, l[1], l[3])),
		saving(func(a *api.Anchor) { a.Gen = 6 }),
		droppingPair("m5", "t5"),
		droppingBlocks(1, 3),
	)
	s := e.Status()
	if !reflect.DeepEqual(s.Blocks, bare(l[1], l[3])) || s.Anchor.Segment != 5 || s.Anchor.Extents != 3 || s.Anchor.Next != 5 {
		t.Errorf("%+v", s)
	}
	wantAll(t, "gone", e, seriesOf(slices.Concat(rows(35, 5, "a", "x"), rows(42, 18, "a", "x"), rows(90, 1, "a", "x"))...))
	must(t, "Append", e.Append(rows(105, 1, "a", "x")))
	must(t, "Tick", e.Tick())
	if s := e.Status(); len(s.Blocks) != 1 || s.Blocks[0].Number != 4 {
		t.Errorf("%+v", s)
	}
	must(t, "Append", e.Append(rows(1000, 1, "a", "x")))
	must(t, "Tick", e.Tick())
	if s := e.Status(); len(s.Blocks)+len(s.Deletes) != 0 {
		t.Errorf("%+v", s)
	}
	before := e.Status()
	must(t, "nothing to do", e.Tick())
	if !reflect.DeepEqual(e.Status(), before) {
		t.Errorf("%+v", e.Status())
	}
}

func TestP22_7TickMakesThreeOne(t *testing.T) {
	e, d := cutEach(t, rows(0, 50, "a", "x"), append(rows(30, 50, "a", "x"), rows(1000, 3, "b", "x")...), append(rows(500, 30, "a", "y"), rows(70, 90, "a", "x")...))
	must(t, "Delete", e.Delete(is("b", "x"), 1001, 1001))
	must(t, "Append", e.Append(append(rows(40, 20, "a", "x"), rows(1001, 1, "b", "x")...)))
	must(t, "Delete", e.Delete(is("a", "x"), 100, 105))
	must(t, "Keep", e.Keep(995))
	l := foots(t, d)
	merged := seriesOf(slices.Concat(rows(7, 93, "a", "x"), rows(106, 54, "a", "x"), rows(500, 30, "a", "y"), rows(1000, 1, "b", "x"), rows(1002, 1, "b", "x"))...)
	f := made(t, merged, 4, 5, 2, 3, 1, 2, 3)
	deletes := []api.Delete{{Matchers: is("b", "x"), From: 1001, To: 1001, Upto: 3}, {Matchers: is("a", "x"), From: 100, To: 105, Upto: 3}}
	e = wantSteps(t, "Tick", d, (*Engine).Tick,
		writing(f, merged),
		storing("t5", 5, tombsOf(t, deletes, nil)),
		storing("m5", 5, manifestOf(t, f)),
		saving(func(a *api.Anchor) { a.Gen, a.Next = 5, 5 }),
		droppingPair("m4", "t4"),
		droppingBlocks(1, 2, 3),
	)
	s := e.Status()
	if !reflect.DeepEqual(s.Blocks, bare(f)) || s.Anchor.Segment != 4 || len(l) != 3 {
		t.Errorf("%+v", s)
	}
	wanted := seriesOf(slices.Concat(rows(7, 93, "a", "x"), rows(106, 54, "a", "x"), rows(500, 30, "a", "y"), rows(1000, 3, "b", "x"))...)
	wantAll(t, "merged", e, wanted)
	must(t, "Cut", e.Cut())
	wantAll(t, "cut behind it", e, wanted)
}

// Blocks are made one where three of a level follow one another; the others stay where they are.
func TestP22_7TheFirstThreeOfALevel(t *testing.T) {
	e, d := fresh(t, 5000)
	levels := func() []int {
		var l []int
		for _, f := range e.Status().Blocks {
			l = append(l, f.Level)
		}
		return l
	}
	cut := 0
	for i, wanted := range [][]int{{1}, {1, 1}, {2}, {2, 1}, {2, 1, 1}, {2, 2}, {2, 2, 1}, {2, 2, 1, 1}, {2, 2, 2}, {3, 1}, {3, 1, 1}, {3, 2}} {
		must(t, "Append", e.Append(rows(10*i, 15, "a", "x")))
		must(t, "Cut", e.Cut())
		cut = 10*i + 15
		must(t, "Tick", e.Tick())
		if i == 9 && !slices.Equal(levels(), []int{3, 1}) {
			t.Error(levels())
		}
		if !slices.Equal(levels(), wanted) {
			t.Errorf("behind %d: %v, not %v", i, levels(), wanted)
		}
		wantAll(t, "told", e, seriesOf(rows(0, cut, "a", "x")...))
		if i%2 == 0 {
			e = opened(t, d)
		}
	}
	d = newDisk(t, 100)
	var l []api.Footer
	for n := range 3 {
		l = append(l, made(t, seriesOf(row(n, 1, "a", "x")), n+1, 7, 3, n+1))
	}
	store(t, d, nil, nil, l...)
	e = opened(t, d)
	before := d.Copy()
	must(t, "the highest level", e.Tick())
	wantSame(t, "the highest level", d, before)
}

// Three of which one can't be read stay as they are; nothing is written.
func TestP22_7ABlockThatIsLost(t *testing.T) {
	for _, file := range []string{"c1", "c2", "c3"} {
		e, d := cutEach(t, rows(0, 50, "a", "x"), rows(50, 50, "a", "x"), rows(100, 50, "a", "x"), rows(150, 50, "a", "x"))
		lose(d, file)
		before, status := d.Copy(), e.Status()
		d.Fuse(0)
		must(t, file, e.Tick())
		before.Fuse(0)
		wantSame(t, file, d, before)
		if !reflect.DeepEqual(e.Status(), status) {
			t.Errorf("%s: %+v", file, e.Status())
		}
	}
}

// A block of which nothing is left has no bytes; the next Tick lets it go.
func TestP22_7ThreeOfWhichNothingIsLeft(t *testing.T) {
	e, d := cutEach(t, rows(0, 5, "a", "x"), rows(5, 5, "a", "x"), rows(10, 5, "a", "x"))
	must(t, "Delete", e.Delete(nil, 0, 100))
	must(t, "Tick", e.Tick())
	f := api.Footer{Number: 4, Gen: 5, Level: 2, Rank: 3}
	for _, e := range []*Engine{e, opened(t, d)} {
		if s := e.Status(); !reflect.DeepEqual(s.Blocks, bare(f)) {
			t.Errorf("%+v", s.Blocks)
		}
		wantAll(t, "nothing", e, nil)
	}
	if g := foots(t, d)[0]; !slices.Equal(g.Parents, []int{1, 2, 3}) {
		t.Errorf("%+v", g)
	}
	must(t, "Tick", e.Tick())
	if s := e.Status(); len(s.Blocks) != 0 {
		t.Errorf("%+v", s.Blocks)
	}
}

func TestP22_7ExpiredOnesComeFirst(t *testing.T) {
	e, _ := cutEach(t, rows(0, 5, "a", "x"), rows(50, 5, "a", "x"), rows(100, 5, "a", "x"), rows(150, 5, "a", "x"))
	must(t, "Keep", e.Keep(130))
	must(t, "Tick", e.Tick())
	if s := e.Status(); len(s.Blocks) != 3 || s.Anchor.Next != 5 {
		t.Errorf("%+v", s)
	}
	must(t, "Tick", e.Tick())
	if s := e.Status(); len(s.Blocks) != 1 || s.Blocks[0].Number != 5 || s.Blocks[0].Rank != 4 {
		t.Errorf("%+v", s)
	}
}

func TestP22_7Room(t *testing.T) {
	merged := seriesOf(rows(0, 150, "a", "x")...)
	for what, c := range map[string]struct{ keep, need int }{
		"expired": {40, pair.Need(4+56) + pair.Need(8)},
		"three":   {0, pair.Need(4+56) + pair.Need(8) + block.Need(merged)},
	} {
		for _, free := range []int{0, 1, c.need - 1, c.need, c.need + 1} {
			e, d := cutEach(t, rows(0, 50, "a", "x"), rows(50, 50, "a", "x"), rows(90, 60, "a", "x"))
			d = roomFor(t, d, 1000)
			e = opened(t, d)
			if c.keep > 0 {
				must(t, "Keep", e.Keep(c.keep))
			}
			fill(t, d, free)
			wantRoom(t, fmt.Sprint(what, " with ", free), e, d, (*Engine).Tick, free >= c.need)
		}
	}
}

// roomFor is a disk with the same files, and so much room.
func roomFor(t *testing.T, d *disk.Disk, room int) *disk.Disk {
	t.Helper()
	other := newDisk(t, room)
	for _, file := range d.List() {
		for i := range d.Extents(file) {
			b, _ := d.Read(file, i)
			must(t, "Write", other.Write(file, i, b))
		}
		other.Sync(file)
	}
	return other
}

// Three that have more samples of a series together than a stream may are not made one.
func TestP22_7ThreeThatCannotBeOne(t *testing.T) {
	d := newDisk(t, 100000)
	var l []api.Footer
	for n := range 3 {
		series := seriesOf(rows(30000*n, 30000, "a", "x")...)
		f := made(t, series, n+1, 7, 1, n+1)
		must(t, "Write", block.Write(d, f, series))
		l = append(l, f)
	}
	store(t, d, nil, nil, l...)
	e := opened(t, d)
	before, status := d.Copy(), e.Status()
	want(t, "too many", e.Tick(), api.ErrArg)
	wantSame(t, "too many", d, before)
	if !reflect.DeepEqual(e.Status(), status) {
		t.Errorf("%+v", e.Status())
	}
	must(t, "Delete", e.Delete(nil, 0, 24464))
	must(t, "not too many", e.Tick())
	if s := e.Status(); len(s.Blocks) != 1 || s.Blocks[0].Min != 24465 || s.Blocks[0].Max != 89999 {
		t.Errorf("%+v", s.Blocks)
	}
}

func TestP22_7Example(t *testing.T) {
	e, d := cutEach(t, rows(0, 1, "a", "x"), rows(1, 1, "a", "x"), rows(2, 1, "a", "x"))
	must(t, "Tick", e.Tick())
	if s := e.Status(); len(s.Blocks) != 1 || s.Blocks[0].Level != 2 {
		t.Errorf("%+v", s)
	}
	a, _ := anchor.Load(d)
	if l := d.List(); a.Gen != 5 || len(l) != 14 || !slices.Contains(l, "c4.p") || d.Extents(wal.Name(4)+".a") != 0 {
		t.Error(a, l)
	}
	wantTold(t, "told", e, nil, 0, math.MaxInt, seriesOf(rows(0, 3, "a", "x")...))
}
