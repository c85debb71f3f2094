package engine

import (
	"fmt"
	"reflect"
	"slices"
	"strings"
	"testing"

	"dryrot/anchor"
	"dryrot/api"
	"dryrot/disk"
	"dryrot/pair"
	"dryrot/wal"
)

func TestExampleOfTheWhole1AppendAndSelect(t *testing.T) {
	e, _ := fresh(t, 100)
	must(t, "Append", e.Append([]api.Row{row(5, 7, "a", "x")}))
	wantAll(t, "it", e, []api.Series{{Labels: of("a", "x"), Samples: []api.Sample{{T: 5, V: 7}}}})
}

func TestP22_2AnOperationStepByStep(t *testing.T) {
	d, _ := some(t)
	a, _ := anchor.Load(d)
	long := append(rows(400, 100, "a", "x"), rows(350, 60, "b", strings.Repeat("v", 40))...)
	for what, c := range map[string]struct {
		op   api.Op
		call func(e *Engine) api.Errno
		turn func(a *api.Anchor)
	}{
		"a row": {opAppend(row(320, 7, "a", "x")), func(e *Engine) api.Errno { return e.Append([]api.Row{row(320, 7, "a", "x")}) }, func(a *api.Anchor) {}},
		"rows": {opAppend(long...), func(e *Engine) api.Errno { return e.Append(long) }, func(a *api.Anchor) {
			a.Newest, a.Floor = 499, 169
		}},
		"a delete": {api.Op{Kind: api.OpDelete, Matchers: is("a", "x"), From: 5, To: -5}, func(e *Engine) api.Errno { return e.Delete(is("a", "x"), 5, -5) }, func(a *api.Anchor) {}},
		"a keep":   {api.Op{Kind: api.OpKeep, Keep: 44}, func(e *Engine) api.Errno { return e.Keep(44) }, func(a *api.Anchor) { a.Keep, a.Floor = 44, 300 }},
	} {
		wantSteps(t, what, d, c.call, appending(a.Segment, a.Extents, a.LSN+1, c.op), saving(func(a *api.Anchor) {
			a.LSN++
			a.Extents += recordExtents(t, c.op)
			c.turn(a)
		}))
	}
}

func TestP22_2OperationsThatMayNotBe(t *testing.T) {
	e, d := fresh(t, 1000)
	must(t, "Append", e.Append(rows(0, 3, "a", "x")))
	must(t, "Keep", e.Keep(1))
	before, status := d.Copy(), e.Status()
	for what, l := range map[string][]api.Row{"nil": nil, "none": {}, "too many": rows(5, 201, "a", "x"), "no labels": {{T: 9}}, "a wrong label": {row(9, 1, "1", "x")}, "a label without a value": {row(9, 1, "a", "")}, "a wrong one behind": append(rows(9, 3, "a", "x"), row(9, 1, "b", "x", "a", "x")), "old, and wrong": {row(0, 1, "a", "x"), row(9, 1, "1", "x")}} {
		want(t, what, e.Append(l), api.ErrArg)
	}
	for what, m := range map[string][]api.Matcher{"no matcher": {{}}, "too many": slices.Repeat(is("a", "x"), 7), "no pattern": {{Kind: api.Like, Name: "a", Value: "("}}, "a wrong name": is("1", "x"), "another kind": {{Kind: 5, Name: "a", Value: "x"}}} {
		want(t, what, e.Delete(m, 0, 9), api.ErrArg)
		want(t, what, e.Delete(m, 9, 0), api.ErrArg)
		want(t, what, told(e.Select(m, 0, 9)), api.ErrArg)
		want(t, what, told(e.Select(m, 9, 0)), api.ErrArg)
	}
	for _, n := range []int{-1, least, api.MaxNumber + 1, greatest} {
		want(t, fmt.Sprint("Keep of ", n), e.Keep(n), api.ErrArg)
	}
	wantSame(t, "refused", d, before)
	if !reflect.DeepEqual(e.Status(), status) {
		t.Errorf("Status = %s", brief(e.Status()))
	}
	d.Fuse(0)
	want(t, "a wrong one on a dead disk", e.Append(nil), api.ErrArg)
	want(t, "an old one on a dead disk", e.Append(rows(0, 1, "a", "x")), api.ErrOld)
	wantTold(t, "it goes on", e, nil, 0, 9, seriesOf(rows(1, 2, "a", "x")...))
	want(t, "a right one", e.Append(rows(9, 1, "a", "x")), api.ErrDead)
	wantEach(t, "stopped", e, api.ErrClosed)
}

// A row takes one extent of each file; deletes and keeps may have the room that appends leave.
func TestP22_2Room(t *testing.T) {
	for free := range 40 {
		for what, c := range map[string]struct {
			need int
			call func(e *Engine) api.Errno
		}{
			"Append of one":  {2 + api.Reserve, func(e *Engine) api.Errno { return e.Append(rows(5, 1, "a", "x")) }},
			"Append of more": {8 + api.Reserve, func(e *Engine) api.Errno { return e.Append(rows(5, 18, "a", "x")) }},
			"Delete":         {2, func(e *Engine) api.Errno { return e.Delete(nil, 0, 1) }},
			"a long Delete":  {4, func(e *Engine) api.Errno { return e.Delete(slices.Repeat(is("a", strings.Repeat("v", 40)), 3), 0, 1) }},
			"Keep":           {2, func(e *Engine) api.Errno { return e.Keep(5) }},
		} {
			e, d := fresh(t, 100)
			fill(t, d, free)
			before, status := d.Copy(), e.Status()
			if free >= c.need {
				want(t, fmt.Sprint(what, " with ", free), c.call(e), api.OK)
				continue
			}
			want(t, fmt.Sprint(what, " with ", free), c.call(e), api.ErrFull)
			wantSame(t, what, d, before)
			if !reflect.DeepEqual(e.Status(), status) {
				t.Errorf("%s: Status = %s", what, brief(e.Status()))
			}
		}
	}
}

func TestP22_3ErrOldComesAheadOfErrFull(t *testing.T) {
	e, d := fresh(t, 100)
	must(t, "Append", e.Append(rows(100, 1, "a", "x")))
	must(t, "Keep", e.Keep(10))
	fill(t, d, 0)
	want(t, "old", e.Append([]api.Row{row(100, 1, "a", "x"), row(89, 1, "a", "x")}), api.ErrOld)
	want(t, "not old", e.Append([]api.Row{row(90, 1, "a", "x")}), api.ErrFull)
}

// store lays a store with these deletes and blocks, in generation 7, on a disk.
func store(t *testing.T, d *disk.Disk, deletes []api.Delete, ledger []api.Spot, blocks ...api.Footer) {
	t.Helper()
	must(t, "tombstones", pair.Store(d, "t7", 7, tombsOf(t, deletes, ledger)))
	must(t, "manifest", pair.Store(d, "m7", 7, manifestOf(t, blocks...)))
	a := anchor.Fresh()
	a.Gen, a.Segment, a.Next = 7, 5, 2000
	_, code := anchor.Save(d, a)
	must(t, "anchor", code)
}

func TestP22_2TooManyDeletes(t *testing.T) {
	d := newDisk(t, 100000)
	block := api.Footer{Number: 1, Rank: 4, Gen: 2, Level: 1, Bytes: 10, Max: 5}
	store(t, d, make([]api.Delete, 9999), nil, block)
	e := opened(t, d)
	must(t, "Delete", e.Delete(is("a", "x"), 1, 2))
	if s := e.Status(); len(s.Deletes) != 10000 || !reflect.DeepEqual(s.Deletes[9999], api.Delete{Matchers: is("a", "x"), From: 1, To: 2, Upto: 4}) {
		t.Error(len(s.Deletes), s.Deletes[len(s.Deletes)-1])
	}
	before := d.Copy()
	want(t, "one more", e.Delete(nil, 1, 2), api.ErrFull)
	want(t, "one more that may not be", e.Delete([]api.Matcher{{}}, 1, 2), api.ErrArg)
	wantSame(t, "full", d, before)
	must(t, "others", e.Append(rows(1, 1, "a", "x")))
	must(t, "others", e.Keep(0))
	if got := opened(t, d.Copy()).Status(); len(got.Deletes) != 10000 {
		t.Error(len(got.Deletes))
	}
	e.state.deletes = slices.Repeat([]api.Delete{{Upto: 4}}, 10000)
	must(t, "a commit of as many as may be", e.Cut())
	if got := opened(t, d.Copy()).Status(); len(got.Deletes) != 10000 {
		t.Error(len(got.Deletes))
	}
}

// A log that is read again behind a commit that left it may bring more deletes than tombstones may have: then nothing is written.
func TestP22_2MoreDeletesThanMayBe(t *testing.T) {
	d := newDisk(t, 100000)
	heeded := slices.Repeat([]api.Delete{{Upto: 5}}, 9999)
	store(t, d, heeded, nil, api.Footer{Number: 1, Rank: 4, Gen: 2, Level: 1, Bytes: 10, Max: 5}, api.Footer{Number: 2, Rank: 5, Gen: 2, Level: 1})
	e := opened(t, d)
	must(t, "Delete", e.Delete(nil, 1, 2))
	if len(e.Status().Deletes) != 10000 {
		t.Fatal(len(e.Status().Deletes))
	}
	saving(func(a *api.Anchor) { a.Gen = 8 })(d)
	e.state.Gen = 8
	pair.Store(d, "t8", 8, tombsOf(t, e.state.deletes, nil))
	pair.Store(d, "m8", 8, manifestOf(t, e.state.blocks...))
	e = opened(t, d)
	if len(e.Status().Deletes) != 10001 {
		t.Fatal(len(e.Status().Deletes))
	}
	before, status := d.Copy(), e.Status()
	want(t, "Cut", e.Cut(), api.ErrFull)
	want(t, "Tick", e.Tick(), api.ErrFull)
	want(t, "Delete", e.Delete(nil, 1, 2), api.ErrFull)
	wantSame(t, "full", d, before)
	if !reflect.DeepEqual(e.Status(), status) {
		t.Error("the state has changed")
	}
}

func TestP22_3Append(t *testing.T) {
	e, _ := fresh(t, 1000)
	must(t, "Append", e.Append([]api.Row{row(5, 1, "a", "x"), row(5, 2, "a", "x"), row(3, 9, "b", "y"), row(-7, 4, "a", "x")}))
	wantAll(t, "the later one counts", e, seriesOf(row(-7, 4, "a", "x"), row(5, 2, "a", "x"), row(3, 9, "b", "y")))
	if a := e.Status().Anchor; a.Newest != 5 || a.Floor != least || a.LSN != 1 || a.Extents != 1 {
		t.Errorf("%+v", a)
	}
	must(t, "Append", e.Append([]api.Row{row(5, 3, "a", "x"), row(-9, 1, "c", "x")}))
	if a := e.Status().Anchor; a.Newest != 5 || a.LSN != 2 {
		t.Errorf("%+v", a)
	}
	wantTold(t, "over it", e, is("a", "x"), least, greatest, seriesOf(row(-7, 4, "a", "x"), row(5, 3, "a", "x")))
}

func TestP22_3TheEdgesOfTimes(t *testing.T) {
	e, d := fresh(t, 1000)
	edges := []api.Row{row(least, 1, "a", "x"), row(least+1, 2, "a", "x"), row(0, 3, "a", "x"), row(greatest, 1<<63, "a", "x")}
	must(t, "Append", e.Append(edges))
	wantAll(t, "edges", e, seriesOf(edges...))
	must(t, "Cut", e.Cut())
	wantAll(t, "cut", e, seriesOf(edges...))
	must(t, "Delete", e.Delete(nil, least, least))
	must(t, "Delete", e.Delete(nil, greatest, greatest))
	wantAll(t, "deleted", e, seriesOf(edges[1:3]...))
	must(t, "Keep", e.Keep(api.MaxNumber))
	if a := e.Status().Anchor; a.Floor != greatest-api.MaxNumber || a.Newest != greatest {
		t.Errorf("%+v", a)
	}
	wantAll(t, "kept", opened(t, d), nil)
}

func TestExampleOfTheWhole5Keep(t *testing.T) {
	for _, cut := range []bool{false, true} {
		e, d := fresh(t, 1000)
		must(t, "Append", e.Append(rows(0, 1, "a", "x")))
		if cut {
			must(t, "Cut", e.Cut())
		}
		must(t, "Keep", e.Keep(10))
		wantAll(t, "still there", e, seriesOf(rows(0, 1, "a", "x")...))
		must(t, "Append", e.Append(rows(20, 1, "a", "x")))
		wantAll(t, "gone", e, seriesOf(rows(20, 1, "a", "x")...))
		must(t, "Keep", e.Keep(0))
		must(t, "Keep", e.Keep(1000))
		wantAll(t, "for ever", e, seriesOf(rows(20, 1, "a", "x")...))
		want(t, "old", e.Append(rows(9, 1, "a", "x")), api.ErrOld)
		must(t, "Append", e.Append(rows(10, 1, "a", "x")))
		wantAll(t, "opened", opened(t, d), seriesOf(append(rows(10, 1, "a", "x"), rows(20, 1, "a", "x")...)...))
	}
}

// The floor moves by the greatest time of a batch, and takes rows of the same batch.
func TestP22_3RowsBelowTheirOwnFloor(t *testing.T) {
	e, d := fresh(t, 1000)
	must(t, "Keep", e.Keep(10))
	must(t, "Append", e.Append([]api.Row{row(5, 1, "a", "x"), row(100, 2, "a", "x"), row(89, 2, "b", "x"), row(90, 3, "b", "x")}))
	wantAll(t, "gone", e, seriesOf(row(100, 2, "a", "x"), row(90, 3, "b", "x")))
	if s := e.Status(); s.Anchor.Floor != 90 || s.Series != 2 {
		t.Errorf("%+v", s.Anchor)
	}
	wantAll(t, "opened", opened(t, d), seriesOf(row(100, 2, "a", "x"), row(90, 3, "b", "x")))
}

func TestP22_3Delete(t *testing.T) {
	e, d := fresh(t, 1000)
	must(t, "Append", e.Append(append(rows(0, 10, "a", "x"), rows(0, 10, "a", "y")...)))
	must(t, "Delete", e.Delete(is("a", "x"), 2, 8))
	if l := e.Status().Deletes; len(l) != 0 {
		t.Error("without blocks there is none to heed it", l)
	}
	left := []api.Row{rows(0, 1, "a", "x")[0], rows(1, 1, "a", "x")[0], rows(9, 1, "a", "x")[0]}
	wantTold(t, "deleted", e, is("a", "x"), least, greatest, seriesOf(left...))
	must(t, "Cut", e.Cut())
	must(t, "Append", e.Append(rows(4, 1, "a", "x")))
	must(t, "Delete", e.Delete(is("a", "y"), 9, 0))
	must(t, "Delete", e.Delete(is("a", "y"), 1, 100))
	must(t, "Append", e.Append(rows(6, 1, "a", "y")))
	wanted := seriesOf(append(append(left, rows(4, 1, "a", "x")...), rows(0, 1, "a", "y")[0], rows(6, 1, "a", "y")[0])...)
	wantAll(t, "deleted", e, wanted)
	deletes := []api.Delete{{Matchers: is("a", "y"), From: 9, To: 0, Upto: 1}, {Matchers: is("a", "y"), From: 1, To: 100, Upto: 1}}
	if l := e.Status().Deletes; !reflect.DeepEqual(l, deletes) {
		t.Error(l)
	}
	wantAll(t, "opened", opened(t, d), wanted)
	if l := opened(t, d).Status().Deletes; !reflect.DeepEqual(l, deletes) {
		t.Error(l)
	}
}

// A disk that refuses a record behind its first write stops the engine; one that refuses it ahead of that does not.
func TestStoppedByAnotherError(t *testing.T) {
	e, d := fresh(t, 1000)
	must(t, "Append", e.Append(rows(0, 5, "a", "x")))
	for half, stops := range map[string]bool{"w1.a": false, "w1.b": true} {
		other := d.Copy()
		e := opened(t, other)
		other.Remove(half)
		before := other.Copy()
		want(t, half, e.Append(rows(9, 1, "a", "x")), api.ErrArg)
		if stops {
			wantEach(t, half, e, api.ErrClosed)
			continue
		}
		wantSame(t, half, other, before)
		wantAll(t, half, e, seriesOf(rows(0, 5, "a", "x")...))
		must(t, "Cut", e.Cut())
		must(t, "Append", e.Append(rows(9, 1, "a", "x")))
		wantMemory(t, half, e, other)
	}
}

// The greatest numbers: what may not be counted any further is refused, and leaves memory as it is unless something was written.
func TestNumbersThatEnd(t *testing.T) {
	for what, c := range map[string]struct {
		turn  func(a *api.Anchor)
		call  func(e *Engine) api.Errno
		stops bool
	}{
		"LSN":                {func(a *api.Anchor) { a.LSN = api.MaxNumber }, func(e *Engine) api.Errno { return e.Keep(1) }, false},
		"Seq":                {func(a *api.Anchor) { a.Seq = api.MaxNumber - 1 }, func(e *Engine) api.Errno { return e.Keep(1) }, true},
		"Seq of Scrub":       {func(a *api.Anchor) { a.Seq = api.MaxNumber - 1 }, func(e *Engine) api.Errno { return e.Scrub() }, false},
		"Gen of a block":     {func(a *api.Anchor) { a.Gen = api.MaxNumber }, func(e *Engine) api.Errno { return e.Cut() }, false},
		"Next":               {func(a *api.Anchor) { a.Next = api.MaxNumber }, func(e *Engine) api.Errno { return e.Cut() }, true},
		"a number again":     {func(a *api.Anchor) { a.Next = 1 }, func(e *Engine) api.Errno { return e.Cut() }, false},
		"Gen of three":       {func(a *api.Anchor) { a.Gen = api.MaxNumber }, func(e *Engine) api.Errno { return e.Tick() }, false},
		"Next of three":      {func(a *api.Anchor) { a.Next = api.MaxNumber }, func(e *Engine) api.Errno { return e.Tick() }, true},
		"Gen without blocks": {func(a *api.Anchor) { a.Gen, a.Floor = api.MaxNumber, greatest }, func(e *Engine) api.Errno { return e.Tick() }, false},
	} {
		e, d := fresh(t, 1000)
		for i := range 3 {
			must(t, "Append", e.Append(rows(10*i, 5, "a", "x")))
			must(t, "Cut", e.Cut())
		}
		must(t, "Append", e.Append(rows(100, 5, "a", "x")))
		manifest, _ := pair.Load(d, "m4", 4)
		saving(c.turn)(d)
		a, _ := anchor.Load(d)
		name, tombs := anchor.Names(a.Gen)
		pair.Store(d, name, a.Gen, manifest)
		pair.Store(d, tombs, a.Gen, make([]byte, 8))
		e = opened(t, d)
		before, status := d.Copy(), e.Status()
		want(t, what, c.call(e), api.ErrArg)
		if c.stops {
			wantEach(t, what, e, api.ErrClosed)
			continue
		}
		wantSame(t, what, d, before)
		if got := e.Status(); !reflect.DeepEqual(got, status) {
			t.Errorf("%s: Status = %s, not %s", what, brief(got), brief(status))
		}
	}
}

func TestArgumentsAreNotKept(t *testing.T) {
	e, d := fresh(t, 1000)
	must(t, "Append", e.Append(rows(0, 5, "b", "x")))
	must(t, "Cut", e.Cut())
	l := rows(0, 5, "a", "x")
	must(t, "Append", e.Append(l[:3]))
	m := append(is("b", "x"), is("c", "z")...)
	must(t, "Delete", e.Delete(m[:1], 1, 2))
	if !reflect.DeepEqual(l, rows(0, 5, "a", "x")) || m[1].Name != "c" {
		t.Error("an argument is changed")
	}
	wanted, _ := e.Select(nil, least, greatest)
	for i := range l {
		l[i].Labels[0] = api.Label{Name: "z", Value: "z"}
		l[i].T = 77
	}
	m[0] = api.Matcher{Kind: api.Is, Name: "a", Value: "x"}
	wantAll(t, "kept", e, wanted.Series)
	wantAll(t, "opened", opened(t, d), wanted.Series)
}

func TestAnswersAreNewMemory(t *testing.T) {
	d, m := some(t)
	d.Write("c1.9", 0, make([]byte, api.Size))
	e := opened(t, d)
	turn(d, "c1.0", "c1.1")
	e.state.ledger = []api.Spot{{Name: "c1.0", Index: 1}}
	status := e.Status()
	for range 3 {
		a, code := e.Select(nil, least, greatest)
		if code != api.OK || len(a.Gaps) != 1 || !sameSeries(a.Series, m.tell(nil, least, greatest, a.Gaps...)) {
			t.Fatal(brief(a), code)
		}
		for _, s := range a.Series[:cap(a.Series)] {
			clear(s.Labels[:cap(s.Labels)])
			clear(s.Samples[:cap(s.Samples)])
		}
		clear(a.Gaps[:cap(a.Gaps)])
		s := e.Status()
		if !reflect.DeepEqual(s, status) {
			t.Fatal(brief(s))
		}
		for _, x := range s.Deletes {
			clear(x.Matchers[:cap(x.Matchers)])
		}
		clear(s.Deletes[:cap(s.Deletes)])
		clear(s.Ledger[:cap(s.Ledger)])
		clear(s.Blocks[:cap(s.Blocks)])
		status = e.Status()
		if len(status.Deletes) != 2 || len(status.Deletes[0].Matchers) != 1 || status.Deletes[0].Matchers[0].Name != "b" || status.Ledger[0].Name != "c1.0" || status.Blocks[0].Number != 1 {
			t.Fatal(brief(status))
		}
	}
}

func TestP22_9Close(t *testing.T) {
	d, m := some(t)
	e := opened(t, d)
	before := d.Copy()
	must(t, "Close", e.Close())
	wantEach(t, "closed", e, api.ErrClosed)
	wantSame(t, "closed", d, before)
	wantAll(t, "opened", opened(t, d), m.tell(nil, least, greatest))
	wantEach(t, "still closed", e, api.ErrClosed)
}

func TestP22_9Status(t *testing.T) {
	d, _ := some(t)
	e := opened(t, d)
	s := e.Status()
	a, _ := anchor.Load(d)
	groups := 1 + 2 + 1 + a.Extents // anchor, manifest, tombstones, log
	for _, f := range s.Blocks {
		groups += 1 + d.Extents("i"+fmt.Sprint(f.Number)+".a") + d.Extents("c"+fmt.Sprint(f.Number)+".p")
	}
	if s.Anchor != a || s.Groups != groups || s.Series != 2 || len(s.Blocks) != 3 || len(s.Deletes) != 2 || len(s.Ledger) != 0 {
		t.Errorf("%+v, %d groups", s, groups)
	}
	if n := wal.Name(a.Segment); d.Extents(n+".a") != a.Extents {
		t.Error(n)
	}
	for i, f := range s.Blocks {
		if f.Parents != nil || f.Number != i+1 || f.Rank != i+1 || f.Gen != i+2 || f.Level != 1 {
			t.Errorf("%+v", f)
		}
	}
}
