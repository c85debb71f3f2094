package engine

import (
	"fmt"
	"reflect"
	"slices"
	"testing"

	"dryrot/anchor"
	"dryrot/api"
	"dryrot/block"
	"dryrot/disk"
	"dryrot/fsck"
	"dryrot/pair"
	"dryrot/scrub"
)

// cursorTo has the cursor stand at the first group of a kind and a name, and tells how many groups there are.
func cursorTo(t *testing.T, d *disk.Disk, name string, index int) int {
	t.Helper()
	s := opened(t, d).Status()
	groups := scrub.Groups(d, s.Anchor, s.Blocks)
	at := slices.IndexFunc(groups, func(g api.Group) bool { return g.Name == name && g.Index == index })
	if at < 0 {
		t.Fatalf("no group %s, %d", name, index)
	}
	must(t, "Save", saving(func(a *api.Anchor) { a.Cursor = at })(d))
	return len(groups)
}

// goingOn has the cursor go on among so many groups.
func goingOn(groups int) diskStep {
	return saving(func(a *api.Anchor) { a.Cursor = (a.Cursor + 1) % groups })
}

func mending(name string, index int) diskStep {
	return func(d *disk.Disk) api.Errno {
		_, code := pair.Mend(d, name, index)
		return code
	}
}

func TestP22_8TheCursor(t *testing.T) {
	d, _ := some(t)
	e := opened(t, d)
	s := e.Status()
	for i := range 2*s.Groups + 3 {
		if got := e.Status(); got.Anchor.Cursor != i%s.Groups || got.Groups != s.Groups {
			t.Fatalf("behind %d: %+v, %d groups", i, got.Anchor, got.Groups)
		}
		wanted := d.Copy()
		must(t, "Save", goingOn(s.Groups)(wanted))
		must(t, "Scrub", e.Scrub())
		wantSame(t, "nothing but the anchor", d, wanted)
		if i%7 == 0 {
			e = opened(t, d)
		}
	}
	for _, cursor := range []int{s.Groups, 5*s.Groups + 7, api.MaxNumber} {
		must(t, "Save", saving(func(a *api.Anchor) { a.Cursor = cursor })(d))
		e = opened(t, d)
		groups := scrub.Groups(d, s.Anchor, s.Blocks)
		spot := scrub.Spots(groups[cursor%s.Groups])[1]
		before := d.Copy()
		d.Rot(spot.Name, spot.Index, 20, 1)
		must(t, "Scrub", e.Scrub())
		goingOn(s.Groups)(before)
		wantSame(t, fmt.Sprint("a cursor of ", cursor), d, before)
		if got := e.Status().Anchor.Cursor; got != (cursor+1)%s.Groups {
			t.Errorf("a cursor of %d: %d", cursor, got)
		}
	}
}

// Each group is looked after in its turn: of all of which one extent is turned, no other than the one at the cursor is mended.
func TestP22_8EachGroupInItsTurn(t *testing.T) {
	d, m := some(t)
	e := opened(t, d)
	s := e.Status()
	whole := d.Copy()
	groups := scrub.Groups(d, s.Anchor, s.Blocks)
	for i, g := range groups {
		spots := scrub.Spots(g)
		d.Rot(spots[i%len(spots)].Name, g.Index, i%api.Size, 0x10)
	}
	e = opened(t, d) // the anchor is mended by that
	for i, g := range groups {
		wantAll(t, "turned", e, m.tell(nil, least, greatest))
		before := scrub.Bad(d, g)
		must(t, "Scrub", e.Scrub())
		if i > 0 && before != 1 || scrub.Bad(d, g) != 0 {
			t.Errorf("%v: %d bad, then %d", g, before, scrub.Bad(d, g))
		}
		if i+1 < len(groups) && scrub.Bad(d, groups[i+1]) != 1 {
			t.Errorf("%v is mended ahead of its turn", groups[i+1])
		}
	}
	for _, file := range whole.List() {
		for i := range whole.Extents(file) {
			a, _ := whole.Read(file, i)
			b, _ := d.Read(file, i)
			if !slices.Equal(a, b) && file != "anchor.a" && file != "anchor.b" {
				t.Errorf("%s, %d is another one", file, i)
			}
		}
	}
	if len(e.Status().Ledger) > 0 {
		t.Error(e.Status().Ledger)
	}
}

func TestP22_8MendStepByStep(t *testing.T) {
	d, _ := some(t)
	for _, c := range []struct {
		name  string
		index int
	}{{"m4", 1}, {"t4", 0}, {"w4", 2}, {"f2", 0}, {"i1", 1}} {
		d := d.Copy()
		groups := cursorTo(t, d, c.name, c.index)
		happens := func(d *disk.Disk) { d.Rot(c.name+".a", c.index, 9, 9) }
		wantStepsOf(t, c.name, d, happens, (*Engine).Scrub, mending(c.name, c.index), goingOn(groups))
	}
}

func losing(files ...string) func(d *disk.Disk) {
	return func(d *disk.Disk) { turn(d, files...) }
}

// A commit of the same: what memory has is written anew, in the next generation.
func committing(t *testing.T, s api.Status, ledger []api.Spot) []diskStep {
	gen := s.Anchor.Gen + 1
	manifest, tombs := anchor.Names(gen)
	oldManifest, oldTombs := anchor.Names(s.Anchor.Gen)
	return []diskStep{
		storing(tombs, gen, tombsOf(t, s.Deletes, ledger)),
		storing(manifest, gen, manifestOf(t, s.Blocks...)),
		saving(func(a *api.Anchor) { a.Gen = gen }),
		droppingPair(oldManifest, oldTombs),
	}
}

func TestP22_8LostTextsAreWrittenAnew(t *testing.T) {
	d, m := some(t)
	for _, name := range []string{"m4", "t4"} {
		d := d.Copy()
		groups := cursorTo(t, d, name, 0)
		steps := append(committing(t, opened(t, d).Status(), nil), goingOn(groups))
		e := wantStepsOf(t, name, d, losing(name+".a", name+".b"), (*Engine).Scrub, steps...)
		wantAll(t, name, e, m.tell(nil, least, greatest))
	}
}

// A log that is lost is cut, with what memory has of it.
func TestP22_8ALostLogIsCut(t *testing.T) {
	d, m := some(t)
	groups := cursorTo(t, d, "w4", 3)
	head := seriesOf(slices.Concat(rows(300, 40, "a", "x"), rows(340, 5, "c", "x"))...)
	f := made(t, head, 4, 5, 1, 4)
	s := opened(t, d).Status()
	e := wantStepsOf(t, "log", d, losing("w4.a", "w4.b"), (*Engine).Scrub,
		writing(f, head),
		storing("t5", 5, tombsOf(t, s.Deletes, nil)),
		storing("m5", 5, manifestOf(t, append(s.Blocks, f)...)),
		saving(func(a *api.Anchor) { a.Gen, a.Segment, a.Extents, a.Next = 5, 5, 0, 5 }),
		droppingPair("m4", "t4", "w4"),
		goingOn(groups),
	)
	wantAll(t, "cut", e, m.tell(nil, least, greatest))
}

func TestP22_8ALostFooterIsWrittenAnew(t *testing.T) {
	d, m := some(t)
	d = d.Copy()
	groups := cursorTo(t, d, "f2", 0)
	f := opened(t, d).Status().Blocks[1]
	b, code := block.Encode(f)
	must(t, "Encode", code)
	e := wantStepsOf(t, "footer", d, losing("f2.a", "f2.b"), (*Engine).Scrub, storing("f2", f.Gen, b), goingOn(groups))
	wantAll(t, "footer", e, m.tell(nil, least, greatest))
	e, d = cutEach(t, rows(0, 5, "a", "x"), rows(5, 5, "a", "x"), rows(10, 5, "a", "x"))
	must(t, "Tick", e.Tick())
	if g := foots(t, d)[0]; len(g.Parents) != 3 {
		t.Errorf("%+v", g)
	}
	cursorTo(t, d, "f4", 0)
	e = opened(t, d)
	turn(d, "f4.a", "f4.b")
	must(t, "Scrub", e.Scrub())
	if g := foots(t, d)[0]; !reflect.DeepEqual(bare(g), e.Status().Blocks) || len(g.Parents) != 0 {
		t.Errorf("as it is in memory: %+v", g)
	}
}

func TestP22_8ALostIndexIsReckonedAnew(t *testing.T) {
	d, m := some(t)
	for _, index := range []int{0, 1} {
		d := d.Copy()
		groups := cursorTo(t, d, "i1", index)
		f := opened(t, d).Status().Blocks[0]
		e := wantStepsOf(t, "index", d, losing("i1.a", "i1.b"), (*Engine).Scrub, func(d *disk.Disk) api.Errno {
			_, code := block.Index(d, f)
			return code
		}, goingOn(groups))
		wantAll(t, "index", e, m.tell(nil, least, greatest))
	}
	groups := cursorTo(t, d, "i1", 0)
	e := wantStepsOf(t, "index and stream", d, losing("i1.a", "i1.b", "c1.0", "c1.1"), (*Engine).Scrub, goingOn(groups))
	f := e.Status().Blocks[0]
	wantAll(t, "index and stream", e, m.tell(nil, least, greatest, api.Gap{From: f.Min, To: f.Max}), api.Gap{From: f.Min, To: f.Max})
}

func TestP22_8ALostAnchorIsSaved(t *testing.T) {
	d, m := some(t)
	e := opened(t, d)
	s := e.Status()
	turn(d, "anchor.a", "anchor.b")
	must(t, "Scrub", e.Scrub())
	a, code := anchor.Load(d)
	must(t, "Load", code)
	s.Anchor.Seq++
	s.Anchor.Cursor++
	if a != s.Anchor || len(d.Damaged()) > 0 {
		t.Errorf("%+v, not %+v", a, s.Anchor)
	}
	wantAll(t, "opened", opened(t, d), m.tell(nil, least, greatest))
}

func TestP22_8ALostStripeIsNoted(t *testing.T) {
	d, m := some(t)
	groups := cursorTo(t, d, "c1", 1)
	s := opened(t, d).Status()
	ledger := []api.Spot{{Name: "c1.0", Index: 1}, {Name: "c1.1", Index: 1}, {Name: "c1.2", Index: 1}, {Name: "c1.p", Index: 1}}
	happens := func(d *disk.Disk) {
		d.Rot("c1.2", 1, 4, 4)
		d.Rot("c1.p", 1, 5, 5)
	}
	steps := append(committing(t, s, ledger), goingOn(groups))
	e := wantStepsOf(t, "stripe", d, happens, (*Engine).Scrub, steps...)
	gap := api.Gap{From: s.Blocks[0].Min, To: s.Blocks[0].Max}
	wantAll(t, "stripe", e, m.tell(nil, least, greatest, gap), gap)
	if l := e.Status().Ledger; !slices.Equal(l, ledger) {
		t.Error(l)
	}
}

// What stands in the ledger already is not written once more.
func TestP22_8NotedOnce(t *testing.T) {
	e, d := cutEach(t, rows(0, 5, "a", "x"))
	lose(d, "c1")
	for range 3 * e.Status().Groups {
		must(t, "Scrub", e.Scrub())
	}
	s := e.Status()
	if s.Anchor.Gen != 3 || len(s.Ledger) != 4 {
		t.Errorf("%+v", s)
	}
	if got := opened(t, d).Status(); !reflect.DeepEqual(got, s) {
		t.Errorf("%+v, not %+v", got, s)
	}
	must(t, "Append", e.Append(rows(9, 1, "a", "x")))
	must(t, "Keep", e.Keep(1))
	must(t, "Tick", e.Tick())
	if s := e.Status(); len(s.Blocks)+len(s.Ledger) != 0 {
		t.Errorf("%+v", s)
	}
}

func TestP22_8AFullLedger(t *testing.T) {
	for _, noted := range []int{9996, 9997, 10000} {
		d := newDisk(t, 100000)
		series := seriesOf(rows(0, 5, "a", "x")...)
		f := made(t, series, 1, 7, 1, 1)
		must(t, "Write", block.Write(d, f, series))
		var ledger []api.Spot
		for i := range noted {
			ledger = append(ledger, api.Spot{Name: "c1.0", Index: i + 1})
		}
		store(t, d, nil, ledger, f)
		cursorTo(t, d, "c1", 0)
		e := opened(t, d)
		lose(d, "c1")
		before := e.Status()
		must(t, "Scrub", e.Scrub())
		s := e.Status()
		before.Anchor.Seq++
		before.Anchor.Cursor = 0
		if noted == 9996 {
			before.Anchor.Seq++
			before.Anchor.Gen++
			before.Ledger = scrub.Note(ledger, []api.Spot{{Name: "c1.0"}, {Name: "c1.1"}, {Name: "c1.2"}, {Name: "c1.p"}}, true)
			before.Groups = s.Groups
		}
		if !reflect.DeepEqual(s, before) {
			t.Errorf("%d noted: %s, not %s", noted, brief(s), brief(before))
		}
	}
}

// Without room what was lost stays so, and is told; the cursor goes on.
func TestP22_8WithoutRoom(t *testing.T) {
	whole, _ := some(t)
	for name, index := range map[string]int{"m4": 0, "t4": 0, "w4": 0, "c1": 0} {
		d := whole.Copy()
		groups := cursorTo(t, d, name, index)
		e := opened(t, d)
		s := e.Status()
		turn(d, name+".0", name+".1", name+".a", name+".b")
		fill(t, d, 5)
		wanted := d.Copy()
		must(t, "Save", goingOn(groups)(wanted))
		want(t, name, e.Scrub(), api.ErrFull)
		wantSame(t, name, d, wanted)
		s.Anchor.Seq++
		s.Anchor.Cursor++
		if got := e.Status(); !reflect.DeepEqual(got, s) {
			t.Errorf("%s: %s, not %s", name, brief(got), brief(s))
		}
		must(t, "Remove", d.Remove("w1.z"))
		for range groups + 3 {
			must(t, "Scrub", e.Scrub())
		}
		if d.Extents(name+".a") > 0 || (len(e.Status().Ledger) > 0) != (name == "c1") {
			t.Errorf("%s: %v, %s", name, d.List(), brief(e.Status()))
		}
		wantMemory(t, name, e, d)
	}
}

// Footer and index, whose files are gone and whose room is taken, stay lost; nothing is written on the way.
func TestP22_8WithoutRoomForWhatIsGone(t *testing.T) {
	whole, _ := some(t)
	for _, name := range []string{"f1", "i1"} {
		d := whole.Copy()
		groups := cursorTo(t, d, name, 0)
		e := opened(t, d)
		pair.Drop(d, name)
		fill(t, d, 1)
		if name == "i1" {
			groups = e.Status().Groups
		}
		wanted := d.Copy()
		must(t, "Save", goingOn(groups)(wanted))
		want(t, name, e.Scrub(), api.ErrFull)
		wantSame(t, name, d, wanted)
		must(t, "Remove", d.Remove("w1.z"))
		for range groups {
			must(t, "Scrub", e.Scrub())
		}
		if scrub.Bad(d, api.Group{Kind: api.GroupPair, Name: name}) > 0 {
			t.Error(name, "is still lost")
		}
	}
}

// A footer that may not be, though a manifest may have it, can't be written anew: that is told, and the cursor goes on.
func TestP22_8AFooterThatMayNotBe(t *testing.T) {
	d := newDisk(t, 100)
	store(t, d, nil, nil, api.Footer{Number: 1, Rank: 1, Gen: 1, Level: 1, Min: 4, Max: 6})
	groups := cursorTo(t, d, "f1", 0)
	e := opened(t, d)
	wanted := d.Copy()
	must(t, "Save", goingOn(groups)(wanted))
	want(t, "Scrub", e.Scrub(), api.ErrArg)
	wantSame(t, "the cursor alone", d, wanted)
}

func TestExampleOfTheWhole7FsckAndOpen(t *testing.T) {
	d, m := some(t)
	e := opened(t, d)
	must(t, "Cut", e.Cut())
	must(t, "Append", e.Append(rows(345, 3, "a", "x")))
	m.do(opAppend(rows(345, 3, "a", "x")...))
	turn(d, "m5.a", "m5.b")
	wantNotOpened(t, "turned", d, api.ErrManifest)
	must(t, "Run", fsck.Run(d))
	wantAll(t, "the same", opened(t, d), m.tell(nil, least, greatest))
}

func TestExampleOfTheWhole4ACrashBetweenLogAndAnchor(t *testing.T) {
	e, d := fresh(t, 100)
	must(t, "Append", e.Append(rows(0, 1, "a", "x")))
	d.Fuse(4)
	want(t, "Append", e.Append(rows(1, 1, "a", "x")), api.ErrDead)
	wantEach(t, "stopped", e, api.ErrClosed)
	d.Crash(nil)
	wantAll(t, "opened", opened(t, d), seriesOf(rows(0, 1, "a", "x")...))
}
