package scrub

import (
	"fmt"
	"math"
	"math/rand"
	"reflect"
	"slices"
	"strings"
	"testing"

	"dryrot/anchor"
	"dryrot/api"
	"dryrot/block"
	"dryrot/disk"
	"dryrot/extent"
	"dryrot/pair"
	"dryrot/stripe"
	"dryrot/wal"
)

func newDisk(t *testing.T, room int) *disk.Disk {
	t.Helper()
	d, e := disk.New(room)
	if e != api.OK {
		t.Fatal(e)
	}
	return d
}

func want(t *testing.T, what string, got, wanted api.Errno) {
	t.Helper()
	if got != wanted {
		t.Errorf("%s: %d, not %d", what, int(got), int(wanted))
	}
}

func wantSame(t *testing.T, what string, d, wanted *disk.Disk) {
	t.Helper()
	if !reflect.DeepEqual(d, wanted) {
		t.Errorf("%s: the disk is another one: %v, not %v", what, d.List(), wanted.List())
	}
}

func brief(x any) string { return fmt.Sprintf("%.300s", fmt.Sprint(x)) }

func inPair(name string, i int) api.Group {
	return api.Group{Kind: api.GroupPair, Name: name, Index: i}
}

func inStripe(name string, gen, i int) api.Group {
	return api.Group{Kind: api.GroupStripe, Name: name, Index: i, Gen: gen}
}

// some is an anchor that may be.
func some() api.Anchor {
	return api.Anchor{Seq: 9, Gen: 5, LSN: 3, Segment: 2, Extents: 3, Floor: -4, Newest: 8, Keep: 7, Next: 12, Cursor: 1}
}

// text is bytes none of which is its neighbour, so that a part in a wrong place shows.
func text(n int) []byte {
	b := make([]byte, n)
	for i := range b {
		b[i] = byte(i%251 + 1)
	}
	return b
}

func wantGroups(t *testing.T, what string, d *disk.Disk, a api.Anchor, l []api.Footer, wanted ...api.Group) {
	t.Helper()
	if got := Groups(d, a, l); !slices.Equal(got, wanted) {
		t.Errorf("%s: Groups = %s, not %s", what, brief(got), brief(wanted))
	}
}

// fresh is a store without anything in it.
func fresh(t *testing.T) (*disk.Disk, api.Anchor) {
	t.Helper()
	d := newDisk(t, 2000)
	want(t, "tombstones", pair.Store(d, "t1", 1, make([]byte, 8)), api.OK)
	want(t, "manifest", pair.Store(d, "m1", 1, make([]byte, 4)), api.OK)
	a, e := anchor.Save(d, anchor.Fresh())
	want(t, "anchor", e, api.OK)
	return d, a
}

func TestP20_1ExampleOfTheChapter(t *testing.T) {
	d, a := fresh(t)
	wantGroups(t, "fresh", d, a, nil, inPair("anchor", 0), inPair("m1", 0), inPair("t1", 0))
	for _, g := range Groups(d, a, nil) {
		if Bad(d, g) != 0 || len(Spots(g)) != 2 {
			t.Error(g, Bad(d, g), Spots(g))
		}
	}
	wantGroups(t, "an empty list", d, a, []api.Footer{}, inPair("anchor", 0), inPair("m1", 0), inPair("t1", 0))
}

func TestP20_1Groups(t *testing.T) {
	d := newDisk(t, 2000)
	pair.Store(d, "m5", 5, text(300))
	pair.Store(d, "t5", 5, text(107))
	pair.Store(d, "i3", 1, text(213))
	blocks := []api.Footer{{Number: 10, Gen: 4, Bytes: 631}, {Number: 3, Gen: 1, Bytes: 0}}
	wantGroups(t, "several", d, some(), blocks,
		inPair("anchor", 0), inPair("m5", 0), inPair("m5", 1), inPair("m5", 2), inPair("t5", 0), inPair("t5", 1), inPair("w2", 0), inPair("w2", 1), inPair("w2", 2),
		inPair("f10", 0), inPair("i10", 0), inStripe("c10", 4, 0), inStripe("c10", 4, 1), inStripe("c10", 4, 2),
		inPair("f3", 0), inPair("i3", 0), inPair("i3", 1), inPair("i3", 2), inStripe("c3", 1, 0))
}

// Of manifest, tombstones and index the longer file counts, and one extent at least; of the others the files play no part.
func TestP20_1HowManyOfEach(t *testing.T) {
	for a := range 4 {
		for b := range 4 {
			d := newDisk(t, 2000)
			for _, name := range []string{"anchor", "m5", "t5", "w2", "f6", "i6"} {
				for i := range a {
					d.Write(name+".a", i, make([]byte, api.Size))
				}
				for i := range b {
					d.Write(name+".b", i, make([]byte, api.Size))
				}
			}
			d.Write("c6.0", 0, make([]byte, api.Size))
			d.Write("c6.0", 1, make([]byte, api.Size))
			wanted := []api.Group{inPair("anchor", 0)}
			several := func(name string) {
				for i := range max(a, b, 1) {
					wanted = append(wanted, inPair(name, i))
				}
			}
			several("m5")
			several("t5")
			wanted = append(wanted, inPair("w2", 0), inPair("w2", 1), inPair("w2", 2), inPair("f6", 0))
			several("i6")
			wanted = append(wanted, inStripe("c6", 2, 0))
			wantGroups(t, fmt.Sprint(a, " and ", b), d, some(), []api.Footer{{Number: 6, Gen: 2, Bytes: 1}}, wanted...)
		}
	}
}

func TestP20_1GroupsOfBytes(t *testing.T) {
	d := newDisk(t, 0)
	for _, c := range []struct{ bytes, groups int }{{0, 1}, {1, 1}, {105, 1}, {315, 1}, {316, 2}, {630, 2}, {631, 3}, {31500, 100}, {1<<31 - 1, 6817409}} {
		l := Groups(d, api.Anchor{Seq: 1, Gen: 1, Segment: 1, Next: 1}, []api.Footer{{Number: 1, Gen: 1, Bytes: c.bytes}})
		if len(l) != 5+c.groups || l[len(l)-1] != inStripe("c1", 1, c.groups-1) || l[5] != inStripe("c1", 1, 0) {
			t.Errorf("%d bytes: %d groups", c.bytes, len(l))
		}
	}
}

func TestP20_1GroupsOfTheLog(t *testing.T) {
	d := newDisk(t, 0)
	for _, n := range []int{0, 1, 2, 1000, 1000000} {
		a := some()
		a.Extents = n
		l := Groups(d, a, nil)
		if len(l) != 3+n || n > 0 && (l[3] != inPair("w2", 0) || l[2+n] != inPair("w2", n-1)) {
			t.Errorf("%d extents: %d groups", n, len(l))
		}
	}
}

// What may not be in a footer, but for its number and bytes, plays no part.
func TestP20_1GroupsAtTheEdges(t *testing.T) {
	d := newDisk(t, 0)
	a := some()
	a.Gen, a.Segment, a.Extents = api.MaxNumber, api.MaxNumber, 1
	wantGroups(t, "the greatest", d, a, []api.Footer{{Number: math.MaxInt, Gen: math.MinInt, Level: 9, Rank: -1, Min: 2, Max: 1, Parents: []int{0, 0, 0, 0}}, {Number: 1, Gen: 0}, {Number: 1, Gen: 7}},
		inPair("anchor", 0), inPair("m4611686018427387904", 0), inPair("t4611686018427387904", 0), inPair("w4611686018427387904", 0),
		inPair("f9223372036854775807", 0), inPair("i9223372036854775807", 0), inStripe("c9223372036854775807", math.MinInt, 0),
		inPair("f1", 0), inPair("i1", 0), inStripe("c1", 0, 0), inPair("f1", 0), inPair("i1", 0), inStripe("c1", 7, 0))
}

func TestP20_1NoGroups(t *testing.T) {
	d, _ := fresh(t)
	right := api.Footer{Number: 1, Gen: 1, Bytes: 5}
	for what, turn := range map[string]func(a *api.Anchor){
		"Seq": func(a *api.Anchor) { a.Seq = 0 }, "Gen": func(a *api.Anchor) { a.Gen = 0 }, "Segment": func(a *api.Anchor) { a.Segment = 0 }, "Next": func(a *api.Anchor) { a.Next = -1 }, "LSN": func(a *api.Anchor) { a.LSN = -1 }, "Keep": func(a *api.Anchor) { a.Keep = -1 }, "Cursor": func(a *api.Anchor) { a.Cursor = api.MaxNumber + 1 },
		"Extents below 0": func(a *api.Anchor) { a.Extents = -1 }, "too many": func(a *api.Anchor) { a.Extents = 1 << 31 }, "far too many": func(a *api.Anchor) { a.Extents = api.MaxNumber }, "most": func(a *api.Anchor) { a.Extents = math.MaxInt },
		"all": func(a *api.Anchor) { *a = api.Anchor{} }, "fresh": func(a *api.Anchor) { *a = anchor.Fresh() },
	} {
		a := some()
		turn(&a)
		wantGroups(t, what, d, a, nil)
		wantGroups(t, what, d, a, []api.Footer{right})
	}
	for _, f := range []api.Footer{{}, {Number: -1}, {Number: math.MinInt}, {Number: 1, Bytes: -1}, {Number: 1, Bytes: math.MinInt}, {Number: 1, Bytes: 1 << 31}, {Number: 1, Bytes: math.MaxInt}} {
		wantGroups(t, "a wrong block", d, some(), []api.Footer{f})
		wantGroups(t, "a wrong block", d, some(), []api.Footer{right, f})
		wantGroups(t, "a wrong block", d, some(), []api.Footer{f, right})
	}
}

func TestNoCallMadeIt(t *testing.T) {
	for _, d := range []*disk.Disk{nil, {}} {
		wantGroups(t, "no disk", d, some(), nil)
		wantGroups(t, "no disk", d, some(), []api.Footer{{Number: 1}})
		for _, g := range []api.Group{inPair("m1", 0), inStripe("c1", 1, 0), {}, inStripe("c1", 1, -1)} {
			if n := Bad(d, g); n != 0 {
				t.Errorf("no disk: Bad of %v = %d", g, n)
			}
			if wrote, e := Mend(d, g); wrote || e != api.ErrNil {
				t.Errorf("no disk: Mend of %v = %v, %d", g, wrote, int(e))
			}
		}
	}
}

func TestP20_1Spots(t *testing.T) {
	for _, c := range []struct {
		g      api.Group
		wanted []api.Spot
	}{
		{inPair("m1", 3), []api.Spot{{Name: "m1.a", Index: 3}, {Name: "m1.b", Index: 3}}},
		{inPair("", 0), []api.Spot{{Name: ".a"}, {Name: ".b"}}},
		{api.Group{Kind: api.GroupPair, Name: "x", Gen: 7}, []api.Spot{{Name: "x.a"}, {Name: "x.b"}}},
		{inStripe("c12", 9, 4), []api.Spot{{Name: "c12.0", Index: 4}, {Name: "c12.1", Index: 4}, {Name: "c12.2", Index: 4}, {Name: "c12.p", Index: 4}}},
		{inStripe("c1", -1, -5), []api.Spot{{Name: "c1.0", Index: -5}, {Name: "c1.1", Index: -5}, {Name: "c1.2", Index: -5}, {Name: "c1.p", Index: -5}}},
		{api.Group{Name: "x"}, nil}, {api.Group{Kind: 3, Name: "x"}, nil}, {api.Group{Kind: -1, Name: "x"}, nil}, {api.Group{Kind: math.MaxInt}, nil},
	} {
		if l := Spots(c.g); !slices.Equal(l, c.wanted) {
			t.Errorf("Spots(%v) = %v", c.g, l)
		}
	}
}

func wantBad(t *testing.T, what string, d *disk.Disk, g api.Group, wanted int) {
	t.Helper()
	if n := Bad(d, g); n != wanted {
		t.Errorf("%s: Bad of %v = %d, not %d", what, g, n, wanted)
	}
}

// put writes an extent of one file alone.
func put(t *testing.T, d *disk.Disk, file, framedAs string, i, framedAt, gen int, payload []byte) {
	t.Helper()
	b, e := extent.Frame(framedAs, framedAt, gen, payload)
	want(t, "Frame", e, api.OK)
	want(t, "Write", d.Write(file, i, b), api.OK)
}

func TestP20_1BadOfAPair(t *testing.T) {
	d := newDisk(t, 20)
	g := inPair("x", 1)
	wantBad(t, "no file", d, g, 2)
	pair.Store(d, "x", 3, text(200))
	wantBad(t, "right", d, g, 0)
	for _, gen := range []int{0, 3, -1, 99} {
		wantBad(t, "of any generation", d, api.Group{Kind: api.GroupPair, Name: "x", Index: 1, Gen: gen}, 0)
	}
	for _, i := range []int{-1, 2, 1 << 31, math.MaxInt, math.MinInt} {
		wantBad(t, "no such extent", d, inPair("x", i), 2)
	}
	put(t, d, "x.b", "x.b", 1, 1, 4, []byte("another text, and generation"))
	wantBad(t, "both can be taken", d, g, 0)
	put(t, d, "x.b", "x.a", 1, 1, 3, text(200)[106:])
	wantBad(t, "the other file's", d, g, 1)
	put(t, d, "x.b", "x.b", 1, 0, 3, text(106))
	wantBad(t, "another number's", d, g, 1)
	d.Rot("x.a", 0, 7, 1)
	wantBad(t, "another one is turned", d, g, 1)
	d.Sync("x.a")
	d.Rot("x.a", 1, 7, 1)
	wantBad(t, "both", d, g, 2)
	d.Remove("x.b")
	wantBad(t, "both, of one file", d, g, 2)
	d.Rot("x.a", 1, 7, 1)
	wantBad(t, "one, of one file", d, g, 1)
}

func TestP20_1BadOfAStripe(t *testing.T) {
	d := newDisk(t, 40)
	g := inStripe("x", 3, 1)
	wantBad(t, "no file", d, g, 4)
	stripe.Store(d, "x", 3, text(600))
	wantBad(t, "right", d, g, 0)
	for _, gen := range []int{0, 2, 4, -3, math.MaxInt} {
		wantBad(t, "of another generation", d, inStripe("x", gen, 1), 4)
	}
	for _, i := range []int{-1, 2, 1 << 31, math.MaxInt, math.MinInt} {
		wantBad(t, "no such extent", d, inStripe("x", 3, i), 4)
	}
	for place, file := range []string{"x.0", "x.1", "x.2", "x.p"} {
		x := d.Copy()
		x.Rot(file, 1, 90, 1)
		wantBad(t, file+" turned", x, g, 1)
		wantBad(t, file+" turned elsewhere", x, inStripe("x", 3, 0), 0)
		for size := range api.Load + 1 {
			x := d.Copy()
			put(t, x, file, file, 1, 1, 3, text(size))
			bad := 0
			if isRight := size < api.Load; isRight == (place == 3) {
				bad = 1
			}
			wantBad(t, fmt.Sprint(size, " bytes in ", file), x, g, bad)
		}
		put(t, x, file, file, 1, 1, 4, text(api.Load-1))
		wantBad(t, file+" of another generation", x, g, 1)
		put(t, x, file, "y"+file[1:], 1, 1, 3, text(api.Load-1))
		wantBad(t, file+" of another name", x, g, 1)
		put(t, x, file, file, 1, 0, 3, text(api.Load-1))
		wantBad(t, file+" of another number", x, g, 1)
		x.Remove(file)
		wantBad(t, file+" is gone", x, g, 1)
		x.Remove("x.1")
		wantBad(t, file+" and .1 are gone", x, g, 4-x.Extents("x.0")/2-x.Extents("x.2")/2-x.Extents("x.p")/2)
	}
}

// A stripe's generation of 0 is one like any other.
func TestP20_1BadOfGenerationNought(t *testing.T) {
	d := newDisk(t, 40)
	stripe.Store(d, "x", 0, text(100))
	stripe.Store(d, "y", 1, text(100))
	wantBad(t, "of generation 0", d, inStripe("x", 0, 0), 0)
	wantBad(t, "of generation 1", d, inStripe("y", 0, 0), 4)
}

func TestP20_1BadOfAnotherKind(t *testing.T) {
	d, _ := fresh(t)
	for _, kind := range []int{0, 3, -1, math.MinInt} {
		wantBad(t, "no such kind", d, api.Group{Kind: kind, Name: "m1"}, 0)
		wantBad(t, "no such kind", d, api.Group{Kind: kind, Name: "none"}, 0)
	}
}

func TestLookingChangesNothing(t *testing.T) {
	d, a, blocks := store(t)
	d.Rot("m4.a", 0, 1, 1)
	before := d.Copy()
	for _, g := range Groups(d, a, blocks) {
		Bad(d, g)
		Spots(g)
	}
	wantSame(t, "looked at", d, before)
}

// step is what changes a disk.
type step func(d *disk.Disk) (bool, api.Errno)

// wantStep holds Mend against what it is to be, on a disk that stops behind each number of changes.
func wantStep(t *testing.T, what string, d *disk.Disk, g api.Group, is step) {
	t.Helper()
	for n := range 8 {
		got, wanted := d.Copy(), d.Copy()
		got.Fuse(n)
		wanted.Fuse(n)
		wrote, e := Mend(got, g)
		wantedWrote, wantedErr := is(wanted)
		if wrote != wantedWrote || e != wantedErr {
			t.Errorf("%s, fuse of %d: Mend of %v = %v, %d, not %v, %d", what, n, g, wrote, int(e), wantedWrote, int(wantedErr))
		}
		wantSame(t, fmt.Sprint(what, ", fuse of ", n), got, wanted)
	}
}

func TestP20_2Mend(t *testing.T) {
	good := newDisk(t, 40)
	pair.Store(good, "x", 3, text(200))
	stripe.Store(good, "x", 3, text(600))
	turned := map[string]*disk.Disk{"right": good.Copy(), "nothing there": newDisk(t, 40)}
	for _, file := range good.List() {
		d := good.Copy()
		d.Rot(file, 1, 50, 7)
		turned[file+" turned"] = d
		for _, other := range good.List() {
			x := d.Copy()
			x.Rot(other, 1, 60, 7)
			turned[file+" and "+other+" turned"] = x
		}
		gone := good.Copy()
		gone.Remove(file)
		turned[file+" gone"] = gone
		old := good.Copy()
		put(t, old, file, file, 1, 1, 2, text(50))
		turned[file+" older"] = old
	}
	for what, d := range turned {
		for _, i := range []int{0, 1, 2, -1, 1<<31 - 1, 1 << 31, math.MinInt, math.MaxInt} {
			wantStep(t, what, d, inPair("x", i), func(d *disk.Disk) (bool, api.Errno) { return pair.Mend(d, "x", i) })
			wantStep(t, what, d, inStripe("x", 3, i), func(d *disk.Disk) (bool, api.Errno) { return stripe.Mend(d, "x", 3, i) })
		}
		for _, gen := range []int{0, 2, 4, -1, math.MaxInt} {
			pairs := api.Group{Kind: api.GroupPair, Name: "x", Index: 1, Gen: gen}
			wantStep(t, what, d, pairs, func(d *disk.Disk) (bool, api.Errno) { return pair.Mend(d, "x", 1) })
			wantStep(t, what, d, inStripe("x", gen, 1), func(d *disk.Disk) (bool, api.Errno) { return stripe.Mend(d, "x", gen, 1) })
		}
	}
}

func TestP20_2MendOfAnotherKind(t *testing.T) {
	d, _ := fresh(t)
	d.Rot("m1.a", 0, 1, 1)
	before := d.Copy()
	for _, kind := range []int{0, 3, -1, math.MaxInt, math.MinInt} {
		if wrote, e := Mend(d, api.Group{Kind: kind, Name: "m1"}); wrote || e != api.ErrArg {
			t.Errorf("Mend of kind %d = %v, %d", kind, wrote, int(e))
		}
	}
	wantSame(t, "refused", d, before)
	if wrote, e := Mend(d, inStripe("m1", 1, -1)); wrote || e != api.ErrArg {
		t.Error(wrote, e)
	}
	if wrote, e := Mend(d, inPair("m2", 0)); wrote || e != api.ErrLost {
		t.Error(wrote, e)
	}
	if wrote, e := Mend(d, inPair("m1", 0)); !wrote || e != api.OK {
		t.Error(wrote, e)
	}
	if wrote, e := Mend(d, inPair("m1", 0)); wrote || e != api.OK {
		t.Error(wrote, e)
	}
}

func spotsOf(words ...string) []api.Spot {
	var l []api.Spot
	for _, w := range words {
		name, digits, _ := strings.Cut(w, " ")
		var i int
		fmt.Sscan(digits, &i)
		l = append(l, api.Spot{Name: name, Index: i})
	}
	return l
}

func TestP20_3Note(t *testing.T) {
	for _, c := range []struct {
		ledger, l []api.Spot
		in        bool
		wanted    []api.Spot
	}{
		{nil, nil, true, nil}, {nil, nil, false, nil}, {[]api.Spot{}, []api.Spot{}, true, nil}, {[]api.Spot{}, []api.Spot{}, false, nil},
		{nil, spotsOf("a 1"), true, spotsOf("a 1")}, {nil, spotsOf("a 1"), false, nil}, {spotsOf("a 1"), nil, true, spotsOf("a 1")}, {spotsOf("a 1"), nil, false, spotsOf("a 1")},
		{spotsOf("a 1"), spotsOf("a 1"), true, spotsOf("a 1")}, {spotsOf("a 1"), spotsOf("a 1"), false, nil},
		{spotsOf("a 1"), spotsOf("a 2"), false, spotsOf("a 1")}, {spotsOf("a 1"), spotsOf("b 1"), false, spotsOf("a 1")}, {spotsOf("a 2"), spotsOf("a 1"), true, spotsOf("a 1", "a 2")},
		{spotsOf("b 1", "a 10", "a 9", "a 10", "c -1", "c -2"), spotsOf("a 9", "B 5", "b 1"), true, spotsOf("B 5", "a 9", "a 10", "b 1", "c -2", "c -1")},
		{spotsOf("b 1", "a 10", "a 9", "a 10", "c -1", "c -2"), spotsOf("a 9", "B 5", "b 1", "b 1"), false, spotsOf("a 10", "c -2", "c -1")},
		{spotsOf("c1.0 5", "c1.1 5", "c1.2 5", "c1.p 5"), Spots(inStripe("c10", 1, 5)), true, spotsOf("c1.0 5", "c1.1 5", "c1.2 5", "c1.p 5", "c10.0 5", "c10.1 5", "c10.2 5", "c10.p 5")},
		{[]api.Spot{{Name: "\xff", Index: math.MaxInt}, {Name: "日"}, {Index: math.MinInt}, {}}, nil, true, []api.Spot{{Index: math.MinInt}, {}, {Name: "日"}, {Name: "\xff", Index: math.MaxInt}}},
	} {
		if l := Note(c.ledger, c.l, c.in); !slices.Equal(l, c.wanted) {
			t.Errorf("Note(%v, %v, %v) = %v, not %v", c.ledger, c.l, c.in, l, c.wanted)
		}
	}
}

// plainNote is the chapter's words, over all extents that can be there.
func plainNote(ledger, l []api.Spot, in bool) []api.Spot {
	var noted []api.Spot
	for _, name := range []string{"", "a", "aa", "b"} {
		for i := range 5 {
			s := api.Spot{Name: name, Index: i}
			isIn, isNew := slices.Contains(ledger, s), slices.Contains(l, s)
			if in && (isIn || isNew) || !in && isIn && !isNew {
				noted = append(noted, s)
			}
		}
	}
	return noted
}

func TestP20_3NoteOfRandomLists(t *testing.T) {
	r := rand.New(rand.NewSource(203))
	random := func() []api.Spot {
		var l []api.Spot
		for range r.Intn(20) {
			l = append(l, api.Spot{Name: []string{"", "a", "aa", "b"}[r.Intn(4)], Index: r.Intn(5)})
		}
		return l
	}
	for range 5000 {
		ledger, l, in := random(), random(), r.Intn(2) == 0
		before, beforeL := slices.Clone(ledger), slices.Clone(l)
		noted := Note(ledger, l, in)
		if !slices.Equal(noted, plainNote(ledger, l, in)) {
			t.Fatalf("Note(%v, %v, %v) = %v", ledger, l, in, noted)
		}
		for i := range noted[:cap(noted)] {
			noted[:cap(noted)][i] = api.Spot{Name: "changed", Index: -1}
		}
		if !slices.Equal(ledger, before) || !slices.Equal(l, beforeL) {
			t.Fatal("Note shares memory, or changes what it is handed")
		}
	}
}

// Long lists are noted without holding each extent against each.
func TestP20_3NoteOfLongLists(t *testing.T) {
	var ledger, l []api.Spot
	for i := range 300000 {
		ledger = append(ledger, api.Spot{Name: "a", Index: 300000 - i})
		l = append(l, api.Spot{Name: "a", Index: 2 * i})
	}
	if n := len(Note(ledger, l, true)); n != 450000 {
		t.Error(n)
	}
	if n := len(Note(ledger, l, false)); n != 150000 {
		t.Error(n)
	}
}

// The room behind a list's end is left as it is.
func TestArgumentsAreLeftAsTheyAre(t *testing.T) {
	room := spotsOf("b 1", "a 1", "z 9", "z 9")
	l := spotsOf("c 1", "y 9")
	Note(room[:2], l[:1], true)
	Note(room[:2], l[:1], false)
	if !slices.Equal(room, spotsOf("b 1", "a 1", "z 9", "z 9")) || !slices.Equal(l, spotsOf("c 1", "y 9")) {
		t.Error(room, l)
	}
	d, a, blocks := store(t)
	before := fmt.Sprint(blocks)
	groups := Groups(d, a, blocks)
	wanted := slices.Clone(groups)
	clear(groups[:cap(groups)])
	if !slices.Equal(Groups(d, a, blocks), wanted) || fmt.Sprint(blocks) != before {
		t.Error("Groups shares memory")
	}
	spots := Spots(wanted[0])
	clear(spots[:cap(spots)])
	if Spots(wanted[0])[0].Name != "anchor.a" {
		t.Error("Spots shares memory")
	}
}

// store is a store with two blocks and a log, of several groups each.
func store(t *testing.T) (*disk.Disk, api.Anchor, []api.Footer) {
	t.Helper()
	d := newDisk(t, 2000)
	want(t, "manifest", pair.Store(d, "m4", 4, text(150)), api.OK)
	want(t, "tombstones", pair.Store(d, "t4", 4, text(300)), api.OK)
	a := anchor.Fresh()
	a.Gen, a.Segment, a.LSN, a.Next = 4, 3, 2, 9
	for lsn, size := range []int{250, 20} {
		n, e := wal.Append(d, a.Segment, a.Extents, lsn+1, text(size))
		want(t, "log", e, api.OK)
		a.Extents += n
	}
	var blocks []api.Footer
	for _, number := range []int{5, 8} {
		var l []api.Series
		for i := range number {
			s := api.Series{Labels: []api.Label{{Name: "a", Value: fmt.Sprint("x", i)}}}
			for n := range 20 * number {
				s.Samples = append(s.Samples, api.Sample{T: n * n, V: uint64(n * i)})
			}
			l = append(l, s)
		}
		f, e := block.Make(l, number, number-4, 1, number, nil)
		want(t, "block", e, api.OK)
		want(t, "block", block.Write(d, f, l), api.OK)
		blocks = append(blocks, f)
	}
	a, e := anchor.Save(d, a)
	want(t, "anchor", e, api.OK)
	return d, a, blocks
}

// All extents of a store stand in one group each, and all are right.
func TestP20_1GroupsOfAWholeStore(t *testing.T) {
	d, a, blocks := store(t)
	var all []api.Spot
	for _, g := range Groups(d, a, blocks) {
		wantBad(t, "written", d, g, 0)
		all = append(all, Spots(g)...)
	}
	var there []api.Spot
	for _, file := range d.List() {
		for i := range d.Extents(file) {
			there = append(there, api.Spot{Name: file, Index: i})
		}
	}
	if noted := Note(nil, all, true); !slices.Equal(noted, there) || len(noted) != len(all) {
		t.Errorf("%d extents in groups, %d of them once, %d on the disk", len(all), len(noted), len(there))
	}
}

func TestP20_4OneOfEachGroupIsMended(t *testing.T) {
	r := rand.New(rand.NewSource(204))
	good, a, blocks := store(t)
	for range 30 {
		d := good.Copy()
		groups := Groups(d, a, blocks)
		for _, g := range groups {
			spots := Spots(g)
			s := spots[r.Intn(len(spots))]
			for range 1 + r.Intn(api.Size) {
				d.Rot(s.Name, s.Index, r.Intn(api.Size), byte(1+r.Intn(255)))
			}
		}
		for _, g := range groups {
			if bad := Bad(d, g); bad > 1 {
				t.Fatal(g, bad)
			}
			if _, e := Mend(d, g); e != api.OK {
				t.Fatal(g, e)
			}
			wantBad(t, "mended", d, g, 0)
		}
		wantSame(t, "mended", d, good)
		for _, g := range groups {
			if wrote, e := Mend(d, g); wrote || e != api.OK {
				t.Fatal(g, wrote, e)
			}
		}
	}
}

// Mending one group changes its own extents alone; what can't be mended is left as it is.
func TestP20_4NothingElseHasChanged(t *testing.T) {
	r := rand.New(rand.NewSource(205))
	good, a, blocks := store(t)
	mended, lost := 0, 0
	for range 200 {
		d := good.Copy()
		groups := Groups(d, a, blocks)
		for _, file := range d.List() {
			for i := range d.Extents(file) {
				if r.Intn(4) == 0 {
					d.Rot(file, i, r.Intn(api.Size), byte(1+r.Intn(255)))
				}
			}
		}
		g := groups[r.Intn(len(groups))]
		bad, before := Bad(d, g), d.Copy()
		wrote, e := Mend(d, g)
		if e == api.OK {
			mended++
			wantBad(t, "mended", d, g, 0)
			for _, s := range Spots(g) {
				if b, _ := before.Read(s.Name, s.Index); bad > 0 {
					now, _ := d.Read(s.Name, s.Index)
					good, _ := good.Read(s.Name, s.Index)
					if !slices.Equal(now, good) {
						t.Fatal("not as it was: ", s, b)
					}
				}
			}
		} else {
			lost++
			wantSame(t, "lost", d, before)
		}
		if wrote != (bad > 0 && e == api.OK) || (e == api.OK) != (bad < 2) || e != api.OK && e != api.ErrLost {
			t.Fatalf("%d bad: Mend = %v, %d", bad, wrote, int(e))
		}
		own := Spots(g)
		for _, file := range d.List() {
			for i := range d.Extents(file) {
				now, _ := d.Read(file, i)
				was, _ := before.Read(file, i)
				if !slices.Contains(own, api.Spot{Name: file, Index: i}) && !slices.Equal(now, was) {
					t.Fatal("changed: ", file, i)
				}
			}
		}
	}
	if mended < 50 || lost < 20 {
		t.Error(mended, lost)
	}
}
