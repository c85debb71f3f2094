package engine

import (
	"slices"
	"testing"

	"dryrot/api"
	"dryrot/disk"
	"dryrot/pair"
)

// cutEach is a store with a block of each of these rows.
func cutEach(t *testing.T, l ...[]api.Row) (*Engine, *disk.Disk) {
	t.Helper()
	e, d := fresh(t, 5000)
	for _, rows := range l {
		must(t, "Append", e.Append(rows))
		must(t, "Cut", e.Cut())
	}
	return e, d
}

// lose has the stream of blocks be lost.
func lose(d *disk.Disk, files ...string) {
	for _, file := range files {
		turn(d, file+".0", file+".1")
	}
}

func TestExampleOfTheWhole2OneChunkFile(t *testing.T) {
	for _, file := range []string{"c1.0", "c1.1", "c1.2", "c1.p", "i1.a", "i1.b", "f1.a", "f1.b"} {
		e, d := cutEach(t, rows(0, 50, "a", "x"))
		before := d.Copy()
		d.Rot(file, 0, 30, 1)
		wantAll(t, file, e, seriesOf(rows(0, 50, "a", "x")...))
		for range e.Status().Groups {
			must(t, "Scrub", e.Scrub())
		}
		a, _ := before.Read(file, 0)
		b, _ := d.Read(file, 0)
		if !slices.Equal(a, b) || len(d.Damaged()) > 0 {
			t.Errorf("%s is not put right: %v", file, d.Damaged())
		}
	}
}

func TestExampleOfTheWhole3AGap(t *testing.T) {
	e, d := cutEach(t, rows(10, 50, "a", "x"))
	must(t, "Append", e.Append(rows(0, 100, "a", "y")))
	d.Rot("c1.1", 0, 30, 1)
	d.Rot("c1.p", 0, 30, 1)
	wantAll(t, "a gap", e, seriesOf(append(rows(0, 10, "a", "y"), rows(60, 40, "a", "y")...)...), api.Gap{From: 10, To: 59})
}

func TestP22_4TheRangeAndTheMatchers(t *testing.T) {
	e, d := cutEach(t, append(rows(0, 30, "a", "x"), rows(0, 30, "b", "x")...), append(rows(20, 30, "a", "x"), rows(100, 1, "a", "z")...))
	must(t, "Append", e.Append(append(rows(40, 30, "a", "x"), rows(-50, 5, "c", "x")...)))
	m := newModel()
	m.do(opAppend(slices.Concat(rows(0, 70, "a", "x"), rows(0, 30, "b", "x"), rows(100, 1, "a", "z"), rows(-50, 5, "c", "x"))...))
	for _, e := range []*Engine{e, opened(t, d)} {
		for _, l := range [][]api.Matcher{nil, {}, is("a", "x"), is("a", ""), is("b", "x"), {{Kind: api.Not, Name: "a", Value: "x"}}, {{Kind: api.Like, Name: "a", Value: "x|z"}}, {{Kind: api.NotLike, Name: "b", Value: "x+"}, {Kind: api.Not, Name: "c", Value: ""}}, is("d", "x")} {
			for _, from := range []int{least, -50, -46, -45, 0, 29, 30, 49, 50, 69, 70, 100, 101, greatest} {
				for _, to := range []int{least, -51, -50, -46, 0, 19, 20, 39, 40, 99, 100, greatest} {
					wantTold(t, "told", e, l, from, to, m.tell(l, from, to))
				}
			}
		}
	}
}

// Of two samples of one time the one that came later counts, wherever they are.
func TestP22_4LaterSamplesGoOverEarlierOnes(t *testing.T) {
	e, d := cutEach(t, []api.Row{row(1, 1, "a", "x"), row(2, 1, "a", "x"), row(3, 1, "a", "x")}, []api.Row{row(2, 2, "a", "x"), row(3, 2, "a", "x")})
	must(t, "Append", e.Append([]api.Row{row(3, 3, "a", "x")}))
	wanted := seriesOf(row(1, 1, "a", "x"), row(2, 2, "a", "x"), row(3, 3, "a", "x"))
	wantAll(t, "told", e, wanted)
	wantAll(t, "opened", opened(t, d), wanted)
	must(t, "Delete", e.Delete(nil, 3, 3))
	wantAll(t, "none comes up again", e, wantedUpTo(wanted, 2))
	wantAll(t, "opened", opened(t, d), wantedUpTo(wanted, 2))
}

func wantedUpTo(l []api.Series, n int) []api.Series {
	return []api.Series{{Labels: l[0].Labels, Samples: l[0].Samples[:n]}}
}

// A delete takes what was there; what is appended behind it stays, in the head and in blocks.
func TestExampleOfTheWhole6DeleteCutMerge(t *testing.T) {
	e, d := cutEach(t, rows(0, 10, "a", "x"), rows(5, 10, "a", "x"))
	must(t, "Delete", e.Delete(is("a", "x"), 3, 12))
	must(t, "Append", e.Append([]api.Row{row(4, 7, "a", "x"), row(12, 8, "a", "x")}))
	wanted := seriesOf(append(append(rows(0, 3, "a", "x"), row(4, 7, "a", "x"), row(12, 8, "a", "x")), rows(13, 2, "a", "x")...)...)
	check := func(what string) {
		t.Helper()
		wantAll(t, what, e, wanted)
		e = opened(t, d)
		wantAll(t, what+", opened", e, wanted)
	}
	check("deleted")
	must(t, "Cut", e.Cut())
	if s := e.Status(); len(s.Blocks) != 3 || len(s.Deletes) != 1 || s.Deletes[0].Upto != 2 {
		t.Errorf("%+v", s)
	}
	check("cut")
	must(t, "Tick", e.Tick())
	if s := e.Status(); len(s.Blocks) != 1 || len(s.Deletes) != 0 {
		t.Errorf("%+v", s)
	}
	check("merged")
}

// Blocks that have nothing to tell of a range are not asked, so none of them is a gap.
func TestP22_4BlocksThatAreNotAsked(t *testing.T) {
	e, d := cutEach(t, rows(10, 11, "a", "x"), rows(30, 5, "a", "x"))
	lose(d, "c1")
	for _, c := range []struct {
		from, to int
		gaps     []api.Gap
	}{
		{least, 9, nil}, {21, greatest, nil}, {least, 10, []api.Gap{{From: 10, To: 10}}}, {20, greatest, []api.Gap{{From: 20, To: 20}}}, {15, 15, []api.Gap{{From: 15, To: 15}}}, {least, greatest, []api.Gap{{From: 10, To: 20}}}, {12, 18, []api.Gap{{From: 12, To: 18}}}, {20, 10, nil},
	} {
		var wanted []api.Row
		for _, r := range rows(30, 5, "a", "x") {
			if r.T >= c.from && r.T <= c.to {
				wanted = append(wanted, r)
			}
		}
		wantTold(t, "told", e, nil, c.from, c.to, seriesOf(wanted...), c.gaps...)
	}
	wantAll(t, "an index that can be read, and finds nothing", e, seriesOf(rows(30, 5, "a", "x")...), api.Gap{From: 10, To: 20})
	wantTold(t, "an index that can be read, and finds nothing", e, is("a", "y"), least, greatest, nil)
	must(t, "Keep", e.Keep(14))
	wantAll(t, "the floor at its end", e, seriesOf(rows(30, 5, "a", "x")...), api.Gap{From: 10, To: 20})
	must(t, "Keep", e.Keep(13))
	wantAll(t, "the floor behind its end", e, seriesOf(rows(30, 5, "a", "x")...))
}

// A block of no bytes tells nothing, whatever times it says.
func TestP22_4ABlockWithoutBytes(t *testing.T) {
	d := newDisk(t, 100)
	store(t, d, nil, nil, api.Footer{Number: 1, Rank: 1, Gen: 1, Level: 1}, api.Footer{Number: 2, Rank: 2, Gen: 1, Level: 1, Min: 4, Max: 6}, api.Footer{Number: 3, Rank: 3, Gen: 1, Level: 1, Bytes: 1, Min: 40, Max: 60})
	wantAll(t, "told", opened(t, d), nil, api.Gap{From: 40, To: 60})
}

func TestP22_4Gaps(t *testing.T) {
	for what, c := range map[string]struct {
		spans, gaps [][2]int
	}{
		"one":                {[][2]int{{3, 5}}, [][2]int{{3, 5}}},
		"apart":              {[][2]int{{3, 5}, {7, 9}}, [][2]int{{3, 5}, {7, 9}}},
		"apart, falling":     {[][2]int{{7, 9}, {3, 5}}, [][2]int{{3, 5}, {7, 9}}},
		"touch":              {[][2]int{{3, 5}, {6, 9}}, [][2]int{{3, 9}}},
		"touch, falling":     {[][2]int{{6, 9}, {3, 5}}, [][2]int{{3, 9}}},
		"meet":               {[][2]int{{3, 5}, {5, 9}}, [][2]int{{3, 9}}},
		"one within another": {[][2]int{{3, 50}, {7, 9}, {50, 51}}, [][2]int{{3, 51}}},
		"the same":           {[][2]int{{3, 3}, {3, 3}, {3, 3}}, [][2]int{{3, 3}}},
		"closed by a third":  {[][2]int{{3, 5}, {9, 10}, {6, 8}}, [][2]int{{3, 10}}},
		"the edges":          {[][2]int{{greatest, greatest}, {least, least}, {least + 2, least + 3}}, [][2]int{{least, least}, {least + 2, least + 3}, {greatest, greatest}}},
		"touch at the edges": {[][2]int{{greatest, greatest}, {greatest - 1, greatest - 1}, {least, least}, {least + 1, least + 1}}, [][2]int{{least, least + 1}, {greatest - 1, greatest}}},
		"all":                {[][2]int{{least, greatest}, {0, 0}}, [][2]int{{least, greatest}}},
	} {
		var l [][]api.Row
		for _, s := range c.spans {
			l = append(l, []api.Row{row(s[0], 1, "a", "x"), row(s[1], 1, "a", "x")})
		}
		e, d := cutEach(t, l...)
		for _, f := range e.Status().Blocks {
			lose(d, streamName(f.Number))
		}
		var gaps []api.Gap
		for _, g := range c.gaps {
			gaps = append(gaps, api.Gap{From: g[0], To: g[1]})
		}
		wantAll(t, what, e, nil, gaps...)
	}
}

func TestP22_4WithinAGapNothingIsTold(t *testing.T) {
	e, d := cutEach(t, rows(0, 40, "a", "x"), rows(10, 11, "a", "y"), rows(10, 11, "a", "z"))
	must(t, "Append", e.Append([]api.Row{row(9, 1, "h", "x"), row(10, 2, "h", "x"), row(20, 3, "h", "x"), row(21, 4, "h", "x"), row(15, 5, "i", "x")}))
	lose(d, "c2")
	left := append(append(rows(0, 10, "a", "x"), rows(21, 19, "a", "x")...), row(9, 1, "h", "x"), row(21, 4, "h", "x"))
	wantAll(t, "told", e, seriesOf(left...), api.Gap{From: 10, To: 20})
	wantTold(t, "a block that has none of it is no gap", e, is("i", "x"), least, greatest, seriesOf(row(15, 5, "i", "x")))
	wantTold(t, "told", e, nil, 10, 20, nil, api.Gap{From: 10, To: 20})
}

// The samples of blocks below the floor are not told, though the blocks are still there.
func TestP22_4TheFloor(t *testing.T) {
	e, d := cutEach(t, append(rows(0, 40, "a", "x"), rows(0, 5, "b", "x")...))
	must(t, "Append", e.Append(rows(30, 21, "a", "y")))
	must(t, "Keep", e.Keep(20))
	wanted := seriesOf(append(rows(30, 10, "a", "x"), rows(30, 21, "a", "y")...)...)
	wantAll(t, "told", e, wanted)
	wantAll(t, "opened", opened(t, d), wanted)
}

func wantWords(t *testing.T, what string, l []string, code api.Errno, wanted ...string) {
	t.Helper()
	if code != api.OK || !slices.Equal(l, wanted) {
		t.Errorf("%s: %q, %d, not %q", what, l, int(code), wanted)
	}
}

func TestP22_5NamesAndValues(t *testing.T) {
	e, d := fresh(t, 1000)
	l, code := e.Names()
	wantWords(t, "Names of none", l, code)
	l, code = e.Values("a")
	wantWords(t, "Values of none", l, code)
	must(t, "Append", e.Append([]api.Row{row(1, 1, "B", "2", "a", "x"), row(1, 1, "a", "w", "old", "v")}))
	must(t, "Cut", e.Cut())
	must(t, "Append", e.Append([]api.Row{row(9, 1, "_z", "1", "a", "x", "b", "w"), row(9, 1, "a", "10"), row(9, 1, "a", "9", "c", "x")}))
	for _, e := range []*Engine{e, opened(t, d)} {
		l, code = e.Names()
		wantWords(t, "Names", l, code, "B", "_z", "a", "b", "c", "old")
		for name, wanted := range map[string][]string{"a": {"10", "9", "w", "x"}, "B": {"2"}, "b": {"w"}, "old": {"v"}, "x": nil, "": nil, "1 is no name": nil} {
			l, code = e.Values(name)
			wantWords(t, "Values of "+name, l, code, wanted...)
		}
	}
	must(t, "Delete", e.Delete(is("old", "v"), 0, 5))
	must(t, "Delete", e.Delete(is("c", "x"), 9, 9))
	l, code = e.Names()
	wantWords(t, "Names, deleted", l, code, "B", "_z", "a", "b")
	must(t, "Keep", e.Keep(5))
	l, code = e.Names()
	wantWords(t, "Names, above the floor", l, code, "_z", "a", "b")
	l, code = e.Values("a")
	wantWords(t, "Values, above the floor", l, code, "10", "x")
}

func TestP22_5AGapDoesNotAllowIt(t *testing.T) {
	e, d := cutEach(t, rows(0, 5, "a", "x"))
	must(t, "Append", e.Append(rows(0, 9, "b", "x")))
	lose(d, "c1")
	for _, e := range []*Engine{e, opened(t, d)} {
		want(t, "Names", words(e.Names()), api.ErrDegraded)
		want(t, "Values", words(e.Values("b")), api.ErrDegraded)
		want(t, "Values", words(e.Values("")), api.ErrDegraded)
	}
	must(t, "Keep", e.Keep(3))
	l, code := e.Names()
	wantWords(t, "a gap below the floor", l, code, "b")
}

// What the index has lost, the stream tells; both lost are a gap, whatever is asked for.
func TestP22_4AnIndexThatIsLost(t *testing.T) {
	e, d := cutEach(t, rows(0, 50, "a", "x"))
	turn(d, "i1.a", "i1.b")
	wantAll(t, "the index", e, seriesOf(rows(0, 50, "a", "x")...))
	pair.Drop(d, "i1")
	wantAll(t, "no index", e, seriesOf(rows(0, 50, "a", "x")...))
	lose(d, "c1")
	wantTold(t, "both", e, is("a", "y"), 60, greatest, nil)
	wantTold(t, "both", e, is("a", "y"), 5, 6, nil, api.Gap{From: 5, To: 6})
}
