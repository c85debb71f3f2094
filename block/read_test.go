package block

import (
	"fmt"
	"math"
	"math/rand"
	"slices"
	"testing"

	"dryrot/api"
	"dryrot/chunk"
	"dryrot/disk"
	"dryrot/extent"
	"dryrot/index"
	"dryrot/match"
	"dryrot/pair"
	"dryrot/stripe"
)

const (
	least = math.MinInt
	most  = math.MaxInt
)

func is(name, value string) []api.Matcher {
	return []api.Matcher{{Kind: api.Is, Name: name, Value: value}}
}

// plainSelect is the chapter's words over the series that were written.
func plainSelect(l []api.Series, m []api.Matcher, from, to int) []api.Series {
	var found []api.Series
	for _, s := range l {
		x := api.Series{Labels: s.Labels}
		for _, sample := range s.Samples {
			if sample.T >= from && sample.T <= to {
				x.Samples = append(x.Samples, sample)
			}
		}
		if match.All(m, s.Labels) && len(x.Samples) > 0 {
			found = append(found, x)
		}
	}
	return found
}

func wantSelect(t *testing.T, what string, d *disk.Disk, f api.Footer, m []api.Matcher, from, to int, wanted []api.Series) {
	t.Helper()
	if l, e := Select(d, f, m, from, to); e != api.OK || !sameSeries(l, wanted) {
		t.Fatalf("%s: Select of %v, %d to %d = %s, %d, not %s", what, m, from, to, brief(l), int(e), brief(wanted))
	}
}

func wantNoSelect(t *testing.T, what string, d *disk.Disk, f api.Footer, m []api.Matcher, from, to int, wanted api.Errno) {
	t.Helper()
	if l, e := Select(d, f, m, from, to); e != wanted || len(l) != 0 {
		t.Errorf("%s: Select of %v, %d to %d = %s, %d, not %d", what, m, from, to, brief(l), int(e), int(wanted))
	}
}

func wantIndex(t *testing.T, what string, d *disk.Disk, f api.Footer, wrote bool, wanted api.Errno) {
	t.Helper()
	if w, e := Index(d, f); w != wrote || e != wanted {
		t.Errorf("%s: Index = %v, %d, not %v, %d", what, w, int(e), wrote, int(wanted))
	}
}

// wantAll holds what is told of ranges and matchers against the series that were written.
func wantAll(t *testing.T, what string, d *disk.Disk, f api.Footer, l []api.Series) {
	t.Helper()
	for _, m := range [][]api.Matcher{
		nil, {}, is("a", "x"), is("a", ""), is("b", "1"), is("c", ""), is("c", "x"), append(is("a", "x"), is("b", "1")...), append(is("a", "x"), is("a", "y")...),
		{{Kind: api.Not, Name: "a", Value: "x"}}, {{Kind: api.Like, Name: "a", Value: "x.*"}}, {{Kind: api.NotLike, Name: "b", Value: "[12]"}}, slices.Repeat(is("a", "x"), 6),
	} {
		for _, span := range [][2]int{{least, most}, {f.Min, f.Max}, {f.Min, f.Min}, {f.Max, f.Max}, {f.Min + 1, f.Max - 1}, {0, 0}, {5, 95}, {0, 200}, {least, 7}, {7, most}, {f.Max + 1, most}, {least, f.Min - 1}, {least, least}, {most, most}} {
			if span[0] <= span[1] {
				wantSelect(t, what, d, f, m, span[0], span[1], plainSelect(l, m, span[0], span[1]))
			}
		}
	}
}

func TestP19_3Select(t *testing.T) {
	for _, l := range rightLists() {
		d := newDisk(t, 100000)
		f := made(t, l, 7, 3)
		want(t, "Write", Write(d, f, l), api.OK)
		before := d.Copy()
		if len(l) > 0 && len(l[0].Samples) > 1000 {
			wantSelect(t, "long", d, f, nil, least, most, l)
			wantSelect(t, "long", d, f, nil, 1005, 1995, plainSelect(l, nil, 1005, 1995))
		} else {
			wantAll(t, "written", d, f, l)
		}
		wantSame(t, "read", d, before)
	}
}

// The samples that are told are those of the range alone, also at the edges of chunks.
func TestP19_3EachRange(t *testing.T) {
	l := []api.Series{{Labels: of("a", "x"), Samples: even(0, 45)}, {Labels: of("a", "y"), Samples: even(5, 20)}}
	d, f := written(t, l)
	for from := -15; from < 470; from += 5 {
		for _, size := range []int{0, 3, 5, 10, 195, 200, 1000} {
			wantSelect(t, "range", d, f, nil, from, from+size, plainSelect(l, nil, from, from+size))
		}
	}
}

func TestP19_3SelectOfRandomSeries(t *testing.T) {
	r := rand.New(rand.NewSource(193))
	for range 60 {
		l := series(r)
		d, f := written(t, l)
		wantAll(t, "random", d, f, l)
	}
}

func TestP19_3ExampleOfTheChapter(t *testing.T) {
	d, f := written(t, nil)
	if f.Bytes != 0 || f.Min != 0 || f.Max != 0 {
		t.Error(f)
	}
	wantSelect(t, "no series", d, f, nil, least, most, nil)
	if g, e := Foot(d, 7); e != api.OK || !sameFooter(f, g) {
		t.Error(g, e)
	}
}

func TestP19_3WrongArguments(t *testing.T) {
	d, right := written(t, some())
	var wrongMatchers [][]api.Matcher
	for _, m := range []api.Matcher{{}, {Kind: 5, Name: "a", Value: "x"}, {Kind: api.Is, Name: "1", Value: "x"}, {Kind: api.Is, Name: "a", Value: "\n"}, {Kind: api.Like, Name: "a", Value: "("}} {
		wrongMatchers = append(wrongMatchers, []api.Matcher{m}, append(is("a", "x"), m))
	}
	wrongMatchers = append(wrongMatchers, slices.Repeat(is("a", "x"), 7))
	for _, span := range [][2]int{{least, most}, {1, 0}} {
		for _, f := range wrongFooters() {
			wantNoSelect(t, "wrong footer", d, f, nil, span[0], span[1], api.ErrArg)
		}
		for _, m := range wrongMatchers {
			wantNoSelect(t, "wrong matchers", d, right, m, span[0], span[1], api.ErrArg)
			wantNoSelect(t, "wrong matchers", d, made(t, nil, 7, 3), m, span[0], span[1], api.ErrArg)
		}
	}
}

func TestP19_3NoneIsTold(t *testing.T) {
	d, f := written(t, some())
	for _, x := range []*disk.Disk{d, newDisk(t, 0)} {
		for _, span := range [][2]int{{1, 0}, {most, least}, {0, -1}} {
			wantSelect(t, "from above to", x, f, nil, span[0], span[1], nil)
		}
		wantSelect(t, "no Bytes", x, made(t, nil, 7, 3), nil, least, most, nil)
	}
	wantNoSelect(t, "no files", newDisk(t, 0), f, nil, least, most, api.ErrLost)
	wantNoSelect(t, "no files", newDisk(t, 0), f, nil, f.Max+1, most, api.ErrLost)
}

// lose turns two extents of a stripe's group.
func lose(d *disk.Disk, name string, i int) {
	d.Rot(name+".0", i, 3, 1)
	d.Rot(name+".2", i, 3, 1)
}

// Where the index can be read, the groups that are asked for are those of the chunks that are found.
func TestP19_3OnlyWhatIsFoundIsAskedFor(t *testing.T) {
	l := some()
	good, f := written(t, l)
	entries, _ := index.Build(streamOf(t, l))
	for group := range stripe.Groups(f.Bytes) {
		d := good.Copy()
		lose(d, "c7", group)
		asked, missed := 0, 0
		for _, entry := range entries {
			m := []api.Matcher{{Kind: api.Is, Name: "a"}, {Kind: api.Is, Name: "b"}}
			for _, label := range entry.Labels {
				m[slices.Index([]string{"a", "b"}, label.Name)].Value = label.Value
			}
			hit := false // parts 0 and 2 of the group are lost
			for part := entry.At / 105; part <= (entry.At+entry.Size-1)/105; part++ {
				hit = hit || part == 3*group || part == 3*group+2
			}
			if hit {
				asked++
				wantNoSelect(t, "lost", d, f, m, entry.Min, entry.Max, api.ErrLost)
			} else {
				missed++
				wantSelect(t, "not lost", d, f, m, entry.Min, entry.Max, plainSelect(l, m, entry.Min, entry.Max))
			}
		}
		if asked == 0 || missed == 0 {
			t.Errorf("group %d: %d asked, %d missed", group, asked, missed)
		}
		wantNoSelect(t, "all", d, f, nil, least, most, api.ErrLost)
		wantSelect(t, "none found", d, f, is("c", "x"), least, most, nil)
		wantSelect(t, "none found", d, f, nil, f.Max+1, most, nil)

		d.Remove("i7.a")
		d.Remove("i7.b")
		for _, entry := range entries {
			wantNoSelect(t, "no index either", d, f, nil, entry.Min, entry.Min, api.ErrLost)
		}
		wantNoSelect(t, "no index either", d, f, is("c", "x"), f.Max+1, most, api.ErrLost)
	}
}

// wrongIndexes is disks whose index can't be read, by why that is so.
func wrongIndexes(t *testing.T, good *disk.Disk, l []api.Series) map[string]*disk.Disk {
	t.Helper()
	right := indexOf(t, l)
	disks := map[string]*disk.Disk{}
	turned := good.Copy()
	turned.Rot("i7.a", 1, 30, 1)
	turned.Rot("i7.b", 1, 90, 1)
	disks["both turned"] = turned
	gone := good.Copy()
	pair.Drop(gone, "i7")
	disks["gone"] = gone
	later := good.Copy()
	pair.Put(later, "i7", 1, 4, right[106:212])
	disks["one of another generation"] = later
	for what, b := range map[string][]byte{
		"empty":          nil,
		"not an index":   []byte("hello"),
		"a byte more":    append(slices.Clone(right), 0),
		"a byte less":    right[:len(right)-1],
		"fewer entries":  indexOf(t, l[:len(l)-1]),
		"none":           indexOf(t, nil),
		"more entries":   indexOf(t, append(l[:len(l):len(l)], api.Series{Labels: of("z", "z"), Samples: at(1)})),
		"a turned count": append([]byte{right[0], right[1], right[2], right[3] + 1}, right[4:]...),
	} {
		d := good.Copy()
		want(t, "Store", pair.Store(d, "i7", 3, b), api.OK)
		disks[what] = d
	}
	for _, gen := range []int{0, 2, 4} {
		d := good.Copy()
		want(t, "Store", pair.Store(d, "i7", gen, right), api.OK)
		disks[fmt.Sprint("of generation ", gen)] = d
	}
	return disks
}

func TestP19_3WithoutIndex(t *testing.T) {
	good, f := written(t, some())
	for what, d := range wrongIndexes(t, good, some()) {
		before := d.Copy()
		wantAll(t, what, d, f, some())
		wantSame(t, what, d, before)
		d.Rot("c7.1", 1, 40, 4)
		d.Rot("c7.p", 0, 40, 4)
		wantAll(t, what+", and the stream turned", d, f, some())
		lose(d, "c7", 0)
		wantNoSelect(t, what+", and the stream lost", d, f, nil, least, most, api.ErrLost)
	}
}

// storeEntries has a block's index be what these entries say.
func storeEntries(t *testing.T, d *disk.Disk, entries []api.Entry) {
	t.Helper()
	b, e := index.Encode(entries)
	if e != api.OK {
		t.Fatal(e, entries)
	}
	want(t, "Store", pair.Store(d, "i7", 3, b), api.OK)
}

// entriesTurned is entries of which one is changed; where they stand follows from their sizes.
func entriesTurned(t *testing.T, l []api.Series, turn func(entries []api.Entry) []api.Entry) []api.Entry {
	t.Helper()
	entries, _ := index.Build(streamOf(t, l))
	entries = turn(entries)
	at := 0
	for i := range entries {
		entries[i].At = at
		at += entries[i].Size
	}
	return entries
}

// An index that can be read, and is as long as the stream, is held against the chunks.
func TestP19_3IndexThatSaysOtherwise(t *testing.T) {
	l := some()
	good, f := written(t, l)
	for what, turn := range map[string]func(l []api.Entry) []api.Entry{
		"a lesser Min":  func(l []api.Entry) []api.Entry { l[1].Min--; return l },
		"a greater Min": func(l []api.Entry) []api.Entry { l[1].Min++; return l },
		"a lesser Max":  func(l []api.Entry) []api.Entry { l[1].Max--; return l },
		"a greater Max": func(l []api.Entry) []api.Entry { l[1].Max++; return l },
		"other labels":  func(l []api.Entry) []api.Entry { l[len(l)-1].Labels = of("c", "2"); return l },
		"two as one": func(l []api.Entry) []api.Entry {
			l[0].Size, l[0].Max = l[0].Size+l[1].Size, l[1].Max
			return slices.Delete(l, 1, 2)
		},
		"ends too early": func(l []api.Entry) []api.Entry { l[0].Size--; l[1].Size++; return l },
		"ends too late":  func(l []api.Entry) []api.Entry { l[0].Size++; l[1].Size--; return l },
		"one as all":     func(l []api.Entry) []api.Entry { l[0].Size = f.Bytes; return l[:1] },
	} {
		d := good.Copy()
		storeEntries(t, d, entriesTurned(t, l, turn))
		before := d.Copy()
		wantNoSelect(t, what, d, f, nil, least, most, api.ErrLost)
		wantIndex(t, what, d, f, false, api.OK)
		wantSame(t, what, d, before)
		if what != "one as all" {
			wantSelect(t, what+", not found", d, f, is("a", "y"), least, most, plainSelect(l, is("a", "y"), least, most))
		}
	}
	d := good.Copy()
	storeEntries(t, d, entriesTurned(t, l, slices.Clone))
	wantAll(t, "it", d, f, l)
}

// What stands in the stripe is a stream, or nothing is told.
func TestP19_3StreamThatIsNone(t *testing.T) {
	l := some()
	good, f := written(t, l)
	right := streamOf(t, l)
	for what, b := range map[string][]byte{
		"one that ends too early":   right[:f.Bytes-1],
		"a byte turned":             append([]byte{right[0], right[1], right[2], right[3] ^ 1}, right[4:]...),
		"noughts":                   make([]byte, f.Bytes),
		"nothing":                   nil,
		"chunks in a falling order": slices.Concat(streamOf(t, l[1:]), streamOf(t, l[:1])),
	} {
		d := good.Copy()
		want(t, "Store", stripe.Store(d, "c7", 3, b), api.OK)
		wantNoSelect(t, what, d, f, nil, least, most, api.ErrLost)
		pair.Drop(d, "i7")
		before := d.Copy()
		wantNoSelect(t, what+", no index", d, f, nil, least, most, api.ErrLost)
		wantNoSelect(t, what+", no index", d, f, is("c", "x"), most, most, api.ErrLost)
		wantIndex(t, what+", no index", d, f, false, api.ErrLost)
		wantSame(t, what, d, before)
	}
	for _, gen := range []int{0, 2, 4} {
		d := good.Copy()
		stripe.Store(d, "c7", gen, right)
		wantNoSelect(t, "of another generation", d, f, nil, least, most, api.ErrLost)
	}
	longer := good.Copy()
	stripe.Store(longer, "c7", 3, append(slices.Clone(right), 1, 2, 3))
	wantAll(t, "bytes behind it play no part", longer, f, l)
	pair.Drop(longer, "i7")
	wantAll(t, "bytes behind it play no part", longer, f, l)
}

// A footer that says less than stands there has another stream: the index is not that one's.
func TestP19_3FooterOfAnotherLength(t *testing.T) {
	l := some()
	d, f := written(t, l)
	f.Bytes = len(streamOf(t, l[:2]))
	wantSelect(t, "a shorter one", d, f, nil, least, most, l[:2])
	f.Bytes++
	wantNoSelect(t, "not at a chunk's end", d, f, nil, least, most, api.ErrLost)
	f.Bytes = 1<<31 - 1
	wantNoSelect(t, "the longest", d, f, nil, least, most, api.ErrLost)
	f.Bytes, f.Gen = len(streamOf(t, l)), 4
	wantNoSelect(t, "of another generation", d, f, nil, least, most, api.ErrLost)
	f.Gen, f.Number = 3, 8
	wantNoSelect(t, "of another number", d, f, nil, least, most, api.ErrLost)
}

func TestP19_4Index(t *testing.T) {
	l := some()
	good, f := written(t, l)
	before := good.Copy()
	wantIndex(t, "it can be read", good, f, false, api.OK)
	wantSame(t, "it can be read", good, before)
	for _, file := range []string{"i7.a", "i7.b"} {
		d := good.Copy()
		for i := range d.Extents(file) {
			d.Rot(file, i, 50, 9)
		}
		before := d.Copy()
		wantIndex(t, "one half can be read", d, f, false, api.OK)
		wantSame(t, "one half can be read", d, before)
	}
	for what, d := range wrongIndexes(t, good, l) {
		wantIndex(t, what, d, f, true, api.OK)
		wantSame(t, what, d, good)
		wantIndex(t, what+", again", d, f, false, api.OK)
	}
}

func TestP19_4IndexStepByStep(t *testing.T) {
	l := some()
	good, f := written(t, l)
	b := indexOf(t, l)
	call := func(d *disk.Disk) api.Errno { _, e := Index(d, f); return e }
	store := func(d *disk.Disk) api.Errno { return pair.Store(d, "i7", 3, b) }
	for _, d := range wrongIndexes(t, good, l) {
		wantSteps(t, d, call, store)
		d.Fuse(3)
		wantIndex(t, "dead", d, f, false, api.ErrDead)
	}
	full := newDisk(t, Need(l)-1)
	stripe.Store(full, "c7", 3, streamOf(t, l))
	full.Write("z", 0, make([]byte, api.Size))
	full.Write("z", 1, make([]byte, api.Size))
	wantIndex(t, "full", full, f, false, api.ErrFull)
}

func TestP19_4IndexThatCanNotBeMade(t *testing.T) {
	good, f := written(t, some())
	for what, d := range wrongIndexes(t, good, some()) {
		for group := range stripe.Groups(f.Bytes) {
			lost := d.Copy()
			lose(lost, "c7", group)
			before := lost.Copy()
			wantIndex(t, what, lost, f, false, api.ErrLost)
			wantSame(t, what, lost, before)
		}
	}
	for _, g := range wrongFooters() {
		wantIndex(t, "wrong footer", good, g, false, api.ErrArg)
	}
	g := f
	g.Gen = 4
	wantIndex(t, "another generation", good, g, false, api.ErrLost)
	g = f
	g.Number = 8
	wantIndex(t, "another block", good, g, false, api.ErrLost)
}

func TestP19_4IndexOfNoSeries(t *testing.T) {
	good, f := written(t, nil)
	wantIndex(t, "it can be read", good, f, false, api.OK)
	d := good.Copy()
	d.Rot("i7.a", 0, 1, 1)
	d.Rot("i7.b", 0, 1, 1)
	wantIndex(t, "both turned", d, f, true, api.OK)
	wantSame(t, "both turned", d, good)
	pair.Store(d, "i7", 3, indexOf(t, some()))
	wantIndex(t, "that of others", d, f, true, api.OK)
	wantSame(t, "that of others", d, good)
}

// turn has an extent be another one: some of its bytes turned, all of them, or one that stood elsewhere.
func turn(r *rand.Rand, d *disk.Disk, file string, i int) {
	switch r.Intn(4) {
	case 0:
		d.Rot(file, i, r.Intn(api.Size), byte(1+r.Intn(255)))
	case 1:
		for at := range api.Size {
			d.Rot(file, i, at, byte(1+r.Intn(255)))
		}
	case 2:
		d.Write(file, i, make([]byte, api.Size))
	case 3:
		b, _ := extent.Frame("c8.0", i, 3, []byte("another file's"))
		d.Write(file, i, b)
	}
}

// turnOneOfEach turns one extent of each group of a block.
func turnOneOfEach(r *rand.Rand, d *disk.Disk, f api.Footer) {
	for _, name := range []string{"i7", "f7"} {
		for i := range d.Extents(name + ".a") {
			turn(r, d, name+[]string{".a", ".b"}[r.Intn(2)], i)
		}
	}
	for i := range stripe.Groups(f.Bytes) {
		turn(r, d, "c7"+[]string{".0", ".1", ".2", ".p"}[r.Intn(4)], i)
	}
}

func TestP19_5OneOfEachGroupTurned(t *testing.T) {
	r := rand.New(rand.NewSource(195))
	for range 60 {
		l := series(r)
		d, f := written(t, l)
		turnOneOfEach(r, d, f)
		wantAll(t, "turned", d, f, l)
		if g, e := Foot(d, 7); e != api.OK || !sameFooter(f, g) {
			t.Fatalf("Foot = %+v, %d", g, int(e))
		}
		wantIndex(t, "turned", d, f, false, api.OK)
	}
}

func TestP19_5EachByteOfEachExtentTurned(t *testing.T) {
	l := []api.Series{{Labels: of("a", "x"), Samples: even(0, 25)}}
	good, f := written(t, l)
	for _, file := range good.List() {
		for i := range good.Extents(file) {
			for at := range api.Size {
				d := good.Copy()
				d.Rot(file, i, at, byte(at*37%255+1))
				wantSelect(t, fmt.Sprint(file, i, at), d, f, nil, least, most, l)
			}
		}
	}
}

func TestP19_6TheWholeIndexTurnedToo(t *testing.T) {
	r := rand.New(rand.NewSource(196))
	for range 20 {
		l := series(r)
		good, f := written(t, l)
		d := good.Copy()
		for i := range d.Extents("i7.a") {
			turn(r, d, "i7.a", i)
			turn(r, d, "i7.b", i)
		}
		turned := d.Copy()
		wantIndex(t, "the index alone", turned, f, true, api.OK)
		wantSame(t, "the index alone", turned, good)

		turnOneOfEach(r, d, f)
		for i := range d.Extents("i7.a") {
			d.Write("i7.a", i, make([]byte, api.Size))
			d.Write("i7.b", i, make([]byte, api.Size))
		}
		wantAll(t, "turned", d, f, l)
		wantIndex(t, "turned", d, f, true, api.OK)
		for _, file := range []string{"i7.a", "i7.b"} {
			for i := range good.Extents(file) {
				now, _ := d.Read(file, i)
				before, _ := good.Read(file, i)
				if d.Extents(file) != good.Extents(file) || !slices.Equal(now, before) {
					t.Fatal("not as it was: ", file, i)
				}
			}
		}
		wantAll(t, "made anew", d, f, l)
	}
}

// What was written and synced is there behind a crash.
func TestP19_5ACrashBehindWrite(t *testing.T) {
	d, f := written(t, some())
	d.Crash(nil)
	wantAll(t, "crashed", d, f, some())
	if l := d.Damaged(); len(l) != 0 {
		t.Error(l)
	}
}

// Till its last change has been done, a block has no footer in one of its files; from then on it is whole.
func TestP19_5ACrashWhileWriting(t *testing.T) {
	l := some()
	f := made(t, l, 7, 3)
	told := 0
	for fuse := 0; ; fuse++ {
		d := newDisk(t, 1000)
		d.Fuse(fuse)
		e := Write(d, f, l)
		d.Crash(nil)
		g, foot := Foot(d, 7)
		if foot == api.OK {
			told++
			if !sameFooter(f, g) {
				t.Fatal(g)
			}
			wantSelect(t, "it has a footer", d, f, nil, least, most, l)
		}
		if e == api.OK {
			break
		}
	}
	if told < 2 {
		t.Error(told)
	}
}

func TestP19_3ManyBlocksOnADisk(t *testing.T) {
	r := rand.New(rand.NewSource(194))
	d := newDisk(t, 20000)
	var blocks []api.Footer
	var lists [][]api.Series
	for number := 1; number <= 20; number++ {
		l := series(r)
		f, e := Make(l, number, number+5, 1, number, nil)
		if e != api.OK {
			t.Fatal(e)
		}
		want(t, "Write", Write(d, f, l), api.OK)
		blocks, lists = append(blocks, f), append(lists, l)
	}
	for i, f := range blocks {
		wantSelect(t, "one of many", d, f, nil, least, most, chunk.Join(lists[i]))
	}
	want(t, "Drop", Drop(d, 1), api.OK)
	for i, f := range blocks[1:] {
		wantSelect(t, "one is gone", d, f, nil, least, most, lists[i+1])
	}
	wantNoSelect(t, "gone", d, blocks[0], nil, least, most, api.ErrLost)
}
