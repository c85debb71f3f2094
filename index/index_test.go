package index

import (
	"bytes"
	"encoding/binary"
	"fmt"
	"maps"
	"math"
	"math/rand"
	"slices"
	"strings"
	"testing"

	"dryrot/api"
	"dryrot/chunk"
	"dryrot/labels"
	"dryrot/match"
)

// of is labels by name, value, name, value ..
func of(words ...string) []api.Label {
	var l []api.Label
	for i := 0; i < len(words); i += 2 {
		l = append(l, api.Label{Name: words[i], Value: words[i+1]})
	}
	return l
}

func entry(size, least, greatest int, words ...string) api.Entry {
	return api.Entry{Labels: of(words...), Size: size, Min: least, Max: greatest}
}

// laid is entries one behind another.
func laid(l ...api.Entry) []api.Entry {
	at := 0
	for i := range l {
		l[i].At = at
		at += l[i].Size
	}
	return l
}

// even is n samples at times from one on.
func even(from, n int) []api.Sample {
	var l []api.Sample
	for t := range n {
		l = append(l, api.Sample{T: from + t, V: 9})
	}
	return l
}

// stream is the chunks of series one behind another, in whatever order they come.
func stream(l ...api.Series) []byte {
	var b []byte
	for _, s := range l {
		one, _ := chunk.Encode([]api.Series{s})
		b = append(b, one...)
	}
	return b
}

func series(samples []api.Sample, words ...string) api.Series {
	return api.Series{Labels: of(words...), Samples: samples}
}

func greatestLabels() []api.Label {
	var l []api.Label
	for i := range 8 {
		l = append(l, api.Label{Name: strings.Repeat("n", 23) + fmt.Sprint(i), Value: strings.Repeat("v", 40)})
	}
	return l
}

// many is n entries of one series.
func many(n int) []api.Entry {
	l := make([]api.Entry, n)
	for i := range l {
		l[i] = entry(1+i%7, 2*i, 2*i+1, "a", "x")
	}
	return laid(l...)
}

func sameEntry(a, b api.Entry) bool {
	return slices.Equal(a.Labels, b.Labels) && a.At == b.At && a.Size == b.Size && a.Min == b.Min && a.Max == b.Max
}

func same(a, b []api.Entry) bool { return slices.EqualFunc(a, b, sameEntry) }

// brief is the beginning of a thing's words, since some have thousands of entries.
func brief(x any) string { return fmt.Sprintf("%.300s", fmt.Sprintf("%+v", x)) }

// rightLists is entries that may be an index, the edges among them.
func rightLists() [][]api.Entry {
	return [][]api.Entry{
		nil, {},
		laid(entry(1, 0, 0, "a", "x")), laid(entry(1<<31-1, math.MinInt, math.MaxInt, "a", "x")), laid(entry(5, -7, -7, "a", "a")),
		laid(entry(3, 1, 2, "a", "x"), entry(4, 3, 9, "a", "x")), laid(entry(3, 1, 2, "a", "x"), entry(4, 3, 3, "a", "x"), entry(5, 4, 4, "a", "x")),
		laid(entry(3, 1, 9, "a", "x"), entry(4, 1, 9, "a", "y")), laid(entry(3, 1, 9, "a", "x"), entry(4, -5, 0, "a", "x", "b", "x"), entry(4, 5, 8, "b", "a")),
		laid(entry(1<<31-1, 1, 9, "a", "x"), entry(1<<31-1, 10, 11, "a", "x"), entry(1<<31-1, 1, 9, "a", "y")),
		laid(api.Entry{Labels: greatestLabels(), Size: 9, Min: -1, Max: 1}), laid(entry(1, 1, 1, "A", "日"), entry(1, 1, 1, "_", `"`), entry(1, 1, 1, "a", `\`), entry(1, 1, 1, "b", "Z", "c", "a", "d", "b")),
		laid(entry(2, math.MinInt, math.MinInt, "a", "x"), entry(2, math.MinInt+1, math.MaxInt-1, "a", "x"), entry(2, math.MaxInt, math.MaxInt, "a", "x")),
		many(300),
	}
}

// turned is a list with its last entry changed.
func turned(l []api.Entry, change func(x *api.Entry)) []api.Entry {
	change(&l[len(l)-1])
	return l
}

// wrongLists is entries that may be no index, by what is wrong.
func wrongLists() map[string][]api.Entry {
	right := func() []api.Entry { return laid(entry(3, 1, 2, "b", "x"), entry(4, 3, 9, "b", "x")) }
	l := map[string][]api.Entry{
		"nothing in it":      {{}},
		"too many":           many(100001),
		"far too many":       make([]api.Entry, 200000),
		"the first too far":  turned(right()[:1], func(x *api.Entry) { x.At = 1 }),
		"the first ahead of": turned(right()[:1], func(x *api.Entry) { x.At = -1 }),
	}
	for why, change := range map[string]func(x *api.Entry){
		"no labels": func(x *api.Entry) { x.Labels = nil }, "no value": func(x *api.Entry) { x.Labels = of("b", "") }, "a wrong name": func(x *api.Entry) { x.Labels = of("1", "x") }, "a wrong value": func(x *api.Entry) { x.Labels = of("c", "\xff") },
		"a long value": func(x *api.Entry) { x.Labels = of("c", strings.Repeat("v", 41)) }, "a value beyond a byte": func(x *api.Entry) { x.Labels = of("c", strings.Repeat("v", 257)) }, "names that fall": func(x *api.Entry) { x.Labels = of("d", "x", "c", "x") }, "a name twice": func(x *api.Entry) { x.Labels = of("c", "x", "c", "y") },
		"nine labels":     func(x *api.Entry) { x.Labels = append(greatestLabels(), of("o", "x")...) },
		"times that fall": func(x *api.Entry) { x.Min, x.Max = 9, 8 }, "far times that fall": func(x *api.Entry) { x.Min, x.Max = math.MaxInt, math.MinInt },
		"no size": func(x *api.Entry) { x.Size = 0 }, "a size below 0": func(x *api.Entry) { x.Size = -1 }, "a great size": func(x *api.Entry) { x.Size = 1 << 31 }, "a size beyond four bytes": func(x *api.Entry) { x.Size = 1<<32 + 1 }, "the greatest size": func(x *api.Entry) { x.Size = math.MaxInt }, "the least size": func(x *api.Entry) { x.Size = math.MinInt },
		"one too far": func(x *api.Entry) { x.At++ }, "one too near": func(x *api.Entry) { x.At-- }, "at 0": func(x *api.Entry) { x.At = 0 }, "far off": func(x *api.Entry) { x.At = math.MinInt }, "at a sum of four bytes": func(x *api.Entry) { x.At += 1 << 32 },
		"values that fall": func(x *api.Entry) { x.Labels = of("b", "w") }, "labels that fall": func(x *api.Entry) { x.Labels = of("a", "z") }, "the same time": func(x *api.Entry) { x.Min = 2 }, "an earlier time": func(x *api.Entry) { x.Min, x.Max = 0, 0 }, "times around": func(x *api.Entry) { x.Min = math.MinInt },
	} {
		l[why] = turned(right(), change)
		l[why+", and one behind"] = append(turned(right(), change), api.Entry{Labels: of("z", "z"), At: 7, Size: 1})
	}
	l["a longer list ahead"] = laid(entry(3, 1, 2, "b", "x", "c", "x"), entry(4, 3, 9, "b", "x"))
	return l
}

// someIndex is entries that may be an index.
func someIndex(r *rand.Rand, most int) []api.Entry {
	words := []string{"a", "b", "c", "x", "y", "ab", "B", "_"}
	var all [][]api.Label
	for range r.Intn(most + 1) {
		values := map[string]string{}
		for range 1 + r.Intn(4) {
			values[words[r.Intn(len(words))]] = append(words, "日", `"`, "0")[r.Intn(len(words)+3)]
		}
		var l []api.Label
		for _, name := range slices.Sorted(maps.Keys(values)) {
			l = append(l, api.Label{Name: name, Value: values[name]})
		}
		all = append(all, l)
	}
	slices.SortFunc(all, labels.Compare)
	var entries []api.Entry
	for _, l := range slices.CompactFunc(all, slices.Equal) {
		t := r.Intn(60) - 30
		for range 1 + r.Intn(3) {
			long := r.Intn(12)
			entries = append(entries, api.Entry{Labels: l, Size: 1 + r.Intn(1<<r.Intn(31)), Min: t, Max: t + long})
			t += long + 1 + r.Intn(9)
		}
	}
	return laid(entries...)
}

// plainBytes is entries as bytes, whether they may be or not.
func plainBytes(l []api.Entry) []byte {
	number, word := binary.BigEndian.AppendUint32, binary.BigEndian.AppendUint64
	var texts []string
	var pairs []api.Label
	for _, x := range l {
		for _, label := range x.Labels {
			texts = append(texts, label.Name, label.Value)
		}
		pairs = append(pairs, x.Labels...)
	}
	slices.Sort(texts)
	texts = slices.Compact(texts)
	place := func(b []byte, s string) []byte {
		at, _ := slices.BinarySearch(texts, s)
		return number(b, uint32(at))
	}
	b := number(nil, uint32(len(texts)))
	for _, s := range texts {
		b = append(append(b, byte(len(s))), s...)
	}
	b = number(b, uint32(len(l)))
	for _, x := range l {
		b = append(b, byte(len(x.Labels)))
		for _, label := range x.Labels {
			b = place(place(b, label.Name), label.Value)
		}
		b = word(word(number(b, uint32(x.Size)), uint64(x.Min)), uint64(x.Max))
	}
	slices.SortFunc(pairs, func(a, b api.Label) int { return labels.Compare([]api.Label{a}, []api.Label{b}) })
	for _, label := range slices.Compact(pairs) {
		var holders []byte
		for at, x := range l {
			if slices.Contains(x.Labels, label) {
				holders = number(holders, uint32(at))
			}
		}
		b = append(number(place(place(b, label.Name), label.Value), uint32(len(holders)/4)), holders...)
	}
	return b
}

func TestP13_1BuildOfStreams(t *testing.T) {
	for _, l := range [][]api.Series{
		nil, {},
		{series(even(5, 1), "a", "x")}, {series(even(5, 21), "a", "x")}, {series(even(-50, 100), "a", "x"), series(even(0, 3), "a", "x", "b", "y"), series(even(7, 40), "a", "y")},
		{{Labels: greatestLabels(), Samples: []api.Sample{{T: math.MinInt, V: 1}, {T: math.MaxInt, V: math.MaxUint64}}}}, {series(even(0, 65535), "a", "x")},
	} {
		b, _ := chunk.Encode(l)
		var want []api.Entry
		for _, s := range l {
			for part := range slices.Chunk(s.Samples, 20) {
				want = append(want, api.Entry{Labels: s.Labels, Size: len(stream(api.Series{Labels: s.Labels, Samples: part})), Min: part[0].T, Max: part[len(part)-1].T})
			}
		}
		if got, e := Build(b); e != api.OK || !same(got, laid(want...)) || !Can(got) {
			t.Errorf("Build of %s = %s, %d", brief(l), brief(got), int(e))
		}
	}
}

// Chunks that are not full may stand behind one another, as long as their times rise.
func TestP13_1BuildOfShortChunks(t *testing.T) {
	l, e := Build(stream(series(even(0, 2), "a", "x"), series(even(2, 3), "a", "x"), series(even(9, 1), "a", "x")))
	if e != api.OK || len(l) != 3 || l[1].Min != 2 || l[1].Max != 4 || l[2].At != l[0].Size+l[1].Size {
		t.Errorf("Build = %s, %d", brief(l), int(e))
	}
}

func wantNoIndex(t *testing.T, why string, b []byte) {
	t.Helper()
	if l, e := Build(b); len(l) != 0 || e != api.ErrForm {
		t.Errorf("%s: Build(%.80x) = %s, %d", why, b, brief(l), int(e))
	}
}

func TestP13_1BuildOfWhatMayNotBe(t *testing.T) {
	x := series(even(5, 3), "b", "x")
	wantNoIndex(t, "the same twice", stream(x, x))
	wantNoIndex(t, "the same time twice", stream(x, series(even(7, 1), "b", "x")))
	wantNoIndex(t, "an earlier time", stream(x, series(even(0, 2), "b", "x")))
	wantNoIndex(t, "a lesser value", stream(x, series(even(50, 3), "b", "w")))
	wantNoIndex(t, "a lesser name", stream(x, series(even(50, 3), "a", "x")))
	wantNoIndex(t, "labels that end", stream(series(even(5, 3), "b", "x", "c", "x"), x))
	wantNoIndex(t, "labels apart", stream(x, series(even(5, 3), "b", "y"), series(even(50, 3), "b", "x")))
}

func TestP13_1BuildOfNoStream(t *testing.T) {
	right := stream(series(even(5, 21), "a", "x"), series(even(5, 3), "b", "x"))
	ends := []int{0}
	for l, _ := Build(right); len(l) > 0; l = l[1:] {
		ends = append(ends, l[0].At+l[0].Size)
	}
	for n := range len(right) {
		if !slices.Contains(ends, n) {
			wantNoIndex(t, fmt.Sprint("cut to ", n), right[:n])
		}
	}
	for _, more := range [][]byte{{0}, {0, 0, 0, 0}, {255, 255, 255, 255}, right[:9], make([]byte, 100)} {
		wantNoIndex(t, "more behind", slices.Concat(right, more))
		wantNoIndex(t, "no chunk first", slices.Concat(more, right))
	}
	l, e := Build(right[:ends[1]])
	if e != api.OK || len(l) != 1 {
		t.Errorf("one chunk: %s, %d", brief(l), int(e))
	}
}

func TestP13_1BuildOfAsManyAsMayBe(t *testing.T) {
	var b []byte
	for i := range 100001 {
		if i == 100000 {
			if l, e := Build(b); len(l) != 100000 || e != api.OK || l[99999].Min != 99999 {
				t.Errorf("100000 chunks: %s, %d", brief(l), int(e))
			}
		}
		b = append(b, stream(series(even(i, 1), "a", "x"))...)
	}
	wantNoIndex(t, "100001 chunks", b)
}

func TestP13_1Can(t *testing.T) {
	for _, l := range rightLists() {
		if !Can(l) {
			t.Errorf("Can(%s) = false", brief(l))
		}
	}
	for why, l := range wrongLists() {
		if Can(l) {
			t.Errorf("%s: Can(%s) = true", why, brief(l))
		}
	}
	if !Can(many(100000)) {
		t.Error("Can of 100000 = false")
	}
}

func TestP13_2ExampleOfTheChapter(t *testing.T) {
	b, e := Encode(laid(entry(3, 1, 2, "a", "x"), entry(4, 3, 9, "a", "x")))
	want := []byte{
		0, 0, 0, 2, 1, 'a', 1, 'x',
		0, 0, 0, 2,
		1, 0, 0, 0, 0, 0, 0, 0, 1, 0, 0, 0, 3, 0, 0, 0, 0, 0, 0, 0, 1, 0, 0, 0, 0, 0, 0, 0, 2,
		1, 0, 0, 0, 0, 0, 0, 0, 1, 0, 0, 0, 4, 0, 0, 0, 0, 0, 0, 0, 3, 0, 0, 0, 0, 0, 0, 0, 9,
		0, 0, 0, 0, 0, 0, 0, 1, 0, 0, 0, 2, 0, 0, 0, 0, 0, 0, 0, 1,
	}
	if e != api.OK || !bytes.Equal(b, want) {
		t.Errorf("Encode = % x, %d", b, int(e))
	}
}

func TestP13_2BytesWrittenOut(t *testing.T) {
	for _, c := range []struct {
		l    []api.Entry
		want []byte
	}{
		{nil, make([]byte, 8)},
		{[]api.Entry{}, make([]byte, 8)},
		{laid(entry(1<<31-1, -1, 258, "a", "a")), []byte{
			0, 0, 0, 1, 1, 'a', 0, 0, 0, 1,
			1, 0, 0, 0, 0, 0, 0, 0, 0, 127, 255, 255, 255, 255, 255, 255, 255, 255, 255, 255, 255, 0, 0, 0, 0, 0, 0, 1, 2,
			0, 0, 0, 0, 0, 0, 0, 0, 0, 0, 0, 1, 0, 0, 0, 0}},
		{laid(entry(1, 0, 0, "b", "日"), entry(2, 0, 0, "b", "日", "c", "a")), []byte{
			0, 0, 0, 4, 1, 'a', 1, 'b', 1, 'c', 3, 0xe6, 0x97, 0xa5, 0, 0, 0, 2,
			1, 0, 0, 0, 1, 0, 0, 0, 3, 0, 0, 0, 1, 0, 0, 0, 0, 0, 0, 0, 0, 0, 0, 0, 0, 0, 0, 0, 0,
			2, 0, 0, 0, 1, 0, 0, 0, 3, 0, 0, 0, 2, 0, 0, 0, 0, 0, 0, 0, 2, 0, 0, 0, 0, 0, 0, 0, 0, 0, 0, 0, 0, 0, 0, 0, 0,
			0, 0, 0, 1, 0, 0, 0, 3, 0, 0, 0, 2, 0, 0, 0, 0, 0, 0, 0, 1,
			0, 0, 0, 2, 0, 0, 0, 0, 0, 0, 0, 1, 0, 0, 0, 1}},
	} {
		if b, e := Encode(c.l); !bytes.Equal(b, c.want) || e != api.OK {
			t.Errorf("Encode(%s) = % x, %d", brief(c.l), b, int(e))
		}
	}
}

func TestP13_2EncodeOfWhatMayBe(t *testing.T) {
	r := rand.New(rand.NewSource(132))
	lists := rightLists()
	for range 500 {
		lists = append(lists, someIndex(r, 12))
	}
	for _, l := range lists {
		if b, e := Encode(l); !bytes.Equal(b, plainBytes(l)) || e != api.OK {
			t.Fatalf("Encode(%s) = %.80x, %d", brief(l), b, int(e))
		}
	}
}

func TestP13_2EncodeOfWhatMayNotBe(t *testing.T) {
	for why, l := range wrongLists() {
		if b, e := Encode(l); len(b) != 0 || e != api.ErrArg {
			t.Errorf("%s: Encode(%s) = %.80x, %d", why, brief(l), b, int(e))
		}
	}
}

func wantNoEntries(t *testing.T, why string, b []byte) {
	t.Helper()
	if l, e := Decode(b); len(l) != 0 || e != api.ErrForm {
		t.Errorf("%s: Decode(%.80x) = %s, %d", why, b, brief(l), int(e))
	}
}

func TestP13_2DecodeOfTooFewAndTooMany(t *testing.T) {
	wantNoEntries(t, "nil", nil)
	wantNoEntries(t, "none", []byte{})
	for _, l := range rightLists() {
		b := plainBytes(l)
		for n := 0; n < len(b); n += 1 + len(b)/500 {
			wantNoEntries(t, "cut", b[:n])
		}
		wantNoEntries(t, "without the last byte", b[:len(b)-1])
		for _, more := range [][]byte{{0}, {255}, b, make([]byte, 4), make([]byte, 8), make([]byte, 12), make([]byte, 16)} {
			wantNoEntries(t, "more behind", slices.Concat(b, more))
		}
	}
}

// Where entries stand is not said, so wrong places alone can't be told from the bytes.
func TestP13_2DecodeOfWhatMayNotBe(t *testing.T) {
	for why, l := range wrongLists() {
		place := slices.ContainsFunc([]string{"too far", "too near", "ahead of", "at 0", "far off", "at a sum", "size below 0", "beyond", "the greatest size", "the least size"}, func(s string) bool { return strings.Contains(why, s) })
		if !place && len(l) < 150000 {
			wantNoEntries(t, why, plainBytes(l))
		}
	}
}

// Bytes of the right entries in other forms.
func TestP13_2DecodeOfOtherForms(t *testing.T) {
	const (
		texts    = "\x00\x00\x00\x03\x01a\x01x\x01y"
		two      = "\x00\x00\x00\x02"
		times    = "\x00\x00\x00\x05\x00\x00\x00\x00\x00\x00\x00\x01\x00\x00\x00\x00\x00\x00\x00\x02"
		first    = "\x01\x00\x00\x00\x00\x00\x00\x00\x01" + times
		second   = "\x01\x00\x00\x00\x00\x00\x00\x00\x02" + times
		postingX = "\x00\x00\x00\x00\x00\x00\x00\x01\x00\x00\x00\x01\x00\x00\x00\x00"
		postingY = "\x00\x00\x00\x00\x00\x00\x00\x02\x00\x00\x00\x01\x00\x00\x00\x01"
	)
	right := texts + two + first + second + postingX + postingY
	if l, e := Decode([]byte(right)); e != api.OK || !same(l, laid(entry(5, 1, 2, "a", "x"), entry(5, 1, 2, "a", "y"))) {
		t.Fatalf("Decode = %s, %d", brief(l), int(e))
	}
	for why, s := range map[string]string{
		"a text that nobody has":   "\x00\x00\x00\x04\x01a\x01x\x01y\x01z" + right[len(texts):],
		"an empty text":            "\x00\x00\x00\x04\x00\x01a\x01x\x01y" + strings.NewReplacer("\x00\x00\x00\x00\x00\x00\x00\x01", "\x00\x00\x00\x01\x00\x00\x00\x02").Replace(right[len(texts):]),
		"a text twice":             "\x00\x00\x00\x04\x01a\x01x\x01y\x01y" + right[len(texts):],
		"texts that fall":          "\x00\x00\x00\x03\x01a\x01y\x01x" + two + "\x01\x00\x00\x00\x00\x00\x00\x00\x02" + times + "\x01\x00\x00\x00\x00\x00\x00\x00\x01" + times + postingX + postingY,
		"no postings":              texts + two + first + second,
		"one posting":              texts + two + first + second + postingX,
		"the other posting":        texts + two + first + second + postingY,
		"postings that fall":       texts + two + first + second + postingY + postingX,
		"a posting twice":          right + postingY,
		"a posting of nobody":      right + "\x00\x00\x00\x01\x00\x00\x00\x01\x00\x00\x00\x00",
		"postings of the other":    texts + two + first + second + postingX[:15] + "\x01" + postingY[:15] + "\x00",
		"a posting of both":        texts + two + first + second + postingX[:11] + "\x02\x00\x00\x00\x00\x00\x00\x00\x01" + postingY,
		"a posting of none":        texts + two + first + second + postingX[:11] + "\x00" + postingY,
		"a place beyond entries":   texts + two + first + second + postingX + postingY[:15] + "\x02",
		"how many postings, ahead": texts + two + first + second + two + postingX + postingY,
		"a place beyond texts":     texts + two + first + "\x01\x00\x00\x00\x00\x00\x00\x00\x03" + times + postingX + postingY,
		"a place far beyond":       texts + two + first + "\x01\x00\x00\x00\x00\xff\xff\xff\xff" + times + postingX + postingY,
		"a name's place beyond":    texts + two + first + "\x01\x00\x00\x00\x09\x00\x00\x00\x02" + times + postingX + postingY,
		"more texts than there":    "\xff\xff\xff\xff" + right[4:],
		"more entries than there":  texts + "\xff\xff\xff\xff" + right[len(texts)+4:],
		"fewer entries":            texts + "\x00\x00\x00\x01" + right[len(texts)+4:],
		"texts alone":              texts,
		"texts of no entries":      texts + "\x00\x00\x00\x00",
		"entries without a label":  "\x00\x00\x00\x00\x00\x00\x00\x01\x00" + times,
	} {
		wantNoEntries(t, why, []byte(s))
	}
}

// What Decode takes is the bytes of what it answers, whatever byte is turned, missing or doubled.
func TestP13_2DecodeOfTurnedBytes(t *testing.T) {
	r := rand.New(rand.NewSource(1322))
	for range 1500 {
		b := plainBytes(someIndex(r, 5))
		for range 30 {
			at, twin := r.Intn(len(b)), bytes.Clone(b)
			switch r.Intn(3) {
			case 0:
				twin[at] = byte(r.Intn(256))
			case 1:
				twin = slices.Delete(twin, at, at+1)
			case 2:
				twin = slices.Insert(twin, at, byte(r.Intn(4)))
			}
			l, e := Decode(twin)
			if e == api.ErrForm && len(l) == 0 {
				continue
			}
			if e != api.OK || !Can(l) || !bytes.Equal(plainBytes(l), twin) {
				t.Fatalf("Decode(%x) = %s, %d", twin, brief(l), int(e))
			}
		}
	}
}

func TestP13_2DecodeOfLongBytes(t *testing.T) {
	for _, start := range []string{"", "\xff\xff\xff\xff", "\x00\x18\x6a\x00", "\x00\x18\x6a\x01", "\x00\x00\x00\x00\xff\xff\xff\xff", "\x00\x00\x00\x01\x01a\xff\xff\xff\xff", "\x00\x00\x00\x01\x01a\x00\x01\x86\xa0", "\x00\x00\x00\x01\x01a\x00\x01\x86\xa1", "\x00\x00\x00\x00\x00\x00\x00\x00"} {
		for _, c := range []byte{0, 1, 8, 255} {
			wantNoEntries(t, fmt.Sprintf("%q and %d", start, c), append([]byte(start), bytes.Repeat([]byte{c}, 1<<23)...))
		}
	}
}

// plainFind asks each entry by itself.
func plainFind(l []api.Entry, m []api.Matcher, from, to int) []int {
	var found []int
	for i, x := range l {
		if match.All(m, x.Labels) && x.Min <= x.Max && from <= to && x.Min <= to && from <= x.Max {
			found = append(found, i)
		}
	}
	return found
}

func one(kind int, name, value string) api.Matcher {
	return api.Matcher{Kind: kind, Name: name, Value: value}
}

func TestP13_3FindByMatchers(t *testing.T) {
	l := laid(entry(1, 0, 9, "a", "x"), entry(1, 10, 19, "a", "x"), entry(1, 0, 9, "a", "x", "b", "y"), entry(1, 0, 9, "a", "y"), entry(1, 0, 9, "b", "x"))
	for _, c := range []struct {
		m    []api.Matcher
		want []int
	}{
		{nil, []int{0, 1, 2, 3, 4}}, {[]api.Matcher{}, []int{0, 1, 2, 3, 4}},
		{[]api.Matcher{one(api.Is, "a", "x")}, []int{0, 1, 2}}, {[]api.Matcher{one(api.Not, "a", "x")}, []int{3, 4}}, {[]api.Matcher{one(api.Is, "a", "")}, []int{4}}, {[]api.Matcher{one(api.Not, "a", "")}, []int{0, 1, 2, 3}},
		{[]api.Matcher{one(api.Like, "a", "x|y")}, []int{0, 1, 2, 3}}, {[]api.Matcher{one(api.NotLike, "a", "x|y")}, []int{4}}, {[]api.Matcher{one(api.Like, "a", "x*")}, []int{0, 1, 2, 4}}, {[]api.Matcher{one(api.NotLike, "a", "x*")}, []int{3}}, {[]api.Matcher{one(api.Like, "a", ".*")}, []int{0, 1, 2, 3, 4}},
		{[]api.Matcher{one(api.Is, "c", "x")}, nil}, {[]api.Matcher{one(api.Is, "c", "")}, []int{0, 1, 2, 3, 4}}, {[]api.Matcher{one(api.Not, "c", "x")}, []int{0, 1, 2, 3, 4}}, {[]api.Matcher{one(api.Not, "c", "")}, nil},
		{[]api.Matcher{one(api.Is, "a", "x"), one(api.Is, "b", "y")}, []int{2}}, {[]api.Matcher{one(api.Is, "a", "x"), one(api.Not, "b", "y")}, []int{0, 1}}, {[]api.Matcher{one(api.Not, "b", "y"), one(api.Is, "a", "x")}, []int{0, 1}}, {[]api.Matcher{one(api.Not, "a", "y"), one(api.Not, "b", "y")}, []int{0, 1, 4}},
		{[]api.Matcher{one(api.Is, "a", "x"), one(api.Is, "a", "y")}, nil}, {[]api.Matcher{one(api.Not, "a", "x"), one(api.Not, "a", "y"), one(api.Not, "b", "x")}, nil},
		{[]api.Matcher{{}}, nil}, {[]api.Matcher{one(5, "a", "x")}, nil}, {[]api.Matcher{one(-1, "a", "x"), one(api.Is, "a", "x")}, nil}, {[]api.Matcher{one(api.Like, "a", "(")}, nil}, {[]api.Matcher{one(api.NotLike, "a", "(")}, []int{0, 1, 2, 3, 4}},
		{slices.Repeat([]api.Matcher{one(api.Is, "a", "x")}, 20), []int{0, 1, 2}},
	} {
		if got := Find(l, c.m, math.MinInt, math.MaxInt); !slices.Equal(got, c.want) {
			t.Errorf("Find of %v = %v, not %v", c.m, got, c.want)
		}
	}
}

func TestP13_3FindByTimes(t *testing.T) {
	l := laid(entry(1, 0, 9, "a", "x"), entry(1, 10, 19, "a", "x"), entry(1, 30, 30, "a", "x"), entry(1, math.MinInt, -5, "a", "y"), entry(1, 25, math.MaxInt, "a", "y"))
	for _, c := range []struct {
		from, to int
		want     []int
	}{
		{0, 9, []int{0}}, {9, 10, []int{0, 1}}, {10, 10, []int{1}}, {-4, -1, nil}, {20, 24, nil}, {20, 25, []int{4}}, {30, 30, []int{2, 4}}, {29, 29, []int{4}}, {31, 31, []int{4}}, {-5, 0, []int{0, 3}}, {3, 4, []int{0}},
		{math.MinInt, math.MaxInt, []int{0, 1, 2, 3, 4}}, {math.MinInt, math.MinInt, []int{3}}, {math.MaxInt, math.MaxInt, []int{4}}, {math.MinInt, 0, []int{0, 3}}, {19, math.MaxInt, []int{1, 2, 4}},
		{9, 8, nil}, {1, 0, nil}, {math.MaxInt, math.MinInt, nil}, {30, 29, nil},
	} {
		for _, m := range [][]api.Matcher{nil, {one(api.Not, "a", "z")}, {one(api.Like, "a", "x|y")}} {
			if got := Find(l, m, c.from, c.to); !slices.Equal(got, c.want) {
				t.Errorf("Find of %v from %d to %d = %v, not %v", m, c.from, c.to, got, c.want)
			}
		}
	}
}

func TestP13_3FindInNothing(t *testing.T) {
	for _, l := range [][]api.Entry{nil, {}} {
		for _, m := range [][]api.Matcher{nil, {one(api.Is, "a", "x")}, {one(api.Not, "a", "x")}} {
			if got := Find(l, m, math.MinInt, math.MaxInt); len(got) != 0 {
				t.Errorf("Find = %v", got)
			}
		}
	}
}

// Entries that may be no index are gone through as they are: of labels of one name the first one counts, an empty value is none, and times that fall are none.
func TestP13_3FindInWhatMayNotBe(t *testing.T) {
	l := []api.Entry{entry(0, 5, 5, "a", "x", "a", "y"), entry(-1, 0, 9, "a", ""), {Max: 9}, entry(1, 9, 0, "a", "x"), entry(1, 0, 9, "a", "", "a", "x"), entry(1, 0, 9, "", "x"), entry(1, 0, 9, "a", "\xff"), entry(1, 0, 9, "a", "x")}
	for _, c := range []struct {
		m    api.Matcher
		want []int
	}{
		{one(api.Is, "a", "x"), []int{0, 7}}, {one(api.Is, "a", "y"), nil}, {one(api.Is, "a", ""), []int{1, 2, 4, 5}}, {one(api.Not, "a", "x"), []int{1, 2, 4, 5, 6}}, {one(api.Is, "", "x"), []int{5}}, {one(api.Is, "a", "\xff"), []int{6}},
	} {
		if got := Find(l, []api.Matcher{c.m}, 0, 9); !slices.Equal(got, c.want) {
			t.Errorf("Find of %v = %v, not %v", c.m, got, c.want)
		}
	}
}

// someMatchers is matchers of all kinds, wrong ones among them.
func someMatchers(r *rand.Rand) []api.Matcher {
	var m []api.Matcher
	for range r.Intn(5) {
		m = append(m, one(1+r.Intn(4), []string{"a", "b", "c", "x", "B", "q"}[r.Intn(6)], []string{"", "a", "x", "y", "日", ".*", ".", "[ab]|x", "(a|b)?", "[^a]*", "x+y?"}[r.Intn(11)]))
		if r.Intn(40) == 0 {
			m[len(m)-1] = []api.Matcher{{}, one(7, "a", "x"), one(api.Like, "a", "["), one(api.NotLike, "b", "*"), one(api.Is, "", "")}[r.Intn(5)]
		}
	}
	return m
}

func someRange(r *rand.Rand) (int, int) {
	if r.Intn(3) == 0 {
		return math.MinInt, math.MaxInt
	}
	from := r.Intn(120) - 50
	return from, from + r.Intn(30) - 3
}

func TestP13_3FindInAny(t *testing.T) {
	r := rand.New(rand.NewSource(133))
	for range 6000 {
		l := someIndex(r, 20)
		if r.Intn(2) == 0 {
			r.Shuffle(len(l), func(i, j int) { l[i], l[j] = l[j], l[i] })
		}
		m := someMatchers(r)
		from, to := someRange(r)
		if got, want := Find(l, m, from, to), plainFind(l, m, from, to); !slices.Equal(got, want) {
			t.Fatalf("Find(%v, %v, %d, %d) = %v, not %v", l, m, from, to, got, want)
		}
	}
}

// A matcher is asked once a value: a list this long would take minutes otherwise.
func TestP13_3FindInManyEntries(t *testing.T) {
	l := many(100000)
	m := slices.Repeat([]api.Matcher{one(api.Like, "a", strings.Repeat("(x|y)*", 10))}, 6)
	if got := Find(l, m, 10, 199989); len(got) != 99990 || got[0] != 5 || got[99989] != 99994 {
		t.Errorf("Find = %s", brief(got))
	}
}

func TestP13_4ListsKnown(t *testing.T) {
	for _, c := range []struct{ a, b, union, meet, minus []int }{
		{nil, nil, nil, nil, nil}, {[]int{}, []int{}, nil, nil, nil},
		{[]int{1}, nil, []int{1}, nil, []int{1}}, {nil, []int{1}, []int{1}, nil, nil}, {[]int{1}, []int{1}, []int{1}, []int{1}, nil},
		{[]int{3, 1}, []int{2, 3}, []int{1, 2, 3}, []int{3}, []int{1}}, {[]int{3, 1, 1}, []int{2, 3}, []int{1, 2, 3}, []int{3}, []int{1}},
		{[]int{5, 5, 5}, []int{5, 5}, []int{5}, []int{5}, nil}, {[]int{9, 8, 7}, []int{1, 2, 3}, []int{1, 2, 3, 7, 8, 9}, nil, []int{7, 8, 9}},
		{[]int{0, -1, math.MinInt}, []int{math.MaxInt, -1}, []int{math.MinInt, -1, 0, math.MaxInt}, []int{-1}, []int{math.MinInt, 0}}, {[]int{math.MaxInt, math.MaxInt}, []int{math.MaxInt, math.MinInt}, []int{math.MinInt, math.MaxInt}, []int{math.MaxInt}, nil},
		{[]int{2, 2}, []int{}, []int{2}, nil, []int{2}}, {[]int{}, []int{2, 2}, []int{2}, nil, nil},
	} {
		if x, y, z := Union(c.a, c.b), Meet(c.a, c.b), Minus(c.a, c.b); !slices.Equal(x, c.union) || !slices.Equal(y, c.meet) || !slices.Equal(z, c.minus) {
			t.Errorf("of %v and %v: %v, %v, %v", c.a, c.b, x, y, z)
		}
	}
}

func TestP13_4ListsOfAnyNumbers(t *testing.T) {
	r := rand.New(rand.NewSource(134))
	numbers := func() []int {
		var l []int
		for range r.Intn(30) {
			l = append(l, r.Intn(40)-20)
		}
		return l
	}
	for range 5000 {
		a, b := numbers(), numbers()
		var union, meet, minus []int
		for n := -20; n < 20; n++ {
			inA, inB := slices.Contains(a, n), slices.Contains(b, n)
			if inA || inB {
				union = append(union, n)
			}
			if inA && inB {
				meet = append(meet, n)
			}
			if inA && !inB {
				minus = append(minus, n)
			}
		}
		if x, y, z := Union(a, b), Meet(a, b), Minus(a, b); !slices.Equal(x, union) || !slices.Equal(y, meet) || !slices.Equal(z, minus) {
			t.Fatalf("of %v and %v: %v, %v, %v", a, b, x, y, z)
		}
	}
}

func TestP13_5ThereAndBack(t *testing.T) {
	r := rand.New(rand.NewSource(135))
	lists := append(rightLists(), many(100000))
	for range 1000 {
		lists = append(lists, someIndex(r, 15))
	}
	for _, l := range lists {
		b, e := Encode(l)
		if back, f := Decode(b); e != api.OK || f != api.OK || !same(back, l) {
			t.Fatalf("Decode(%.80x) = %s, %d, not %s", b, brief(back), int(f), brief(l))
		}
	}
}

// It has as many texts as may be: looking them up one by one would be told by the time it takes.
func TestP13_5ThereAndBackOfTheGreatest(t *testing.T) {
	l := make([]api.Entry, 100000)
	for i := range l {
		l[i] = entry(1, i, i)
		for n := range 8 {
			l[i].Labels = append(l[i].Labels, api.Label{Name: fmt.Sprintf("n%06d_%d", i, n), Value: fmt.Sprintf("%06d.%d", i, n)})
		}
	}
	b, e := Encode(laid(l...))
	if count := binary.BigEndian.Uint32(b); count != 1600000 {
		t.Fatalf("%d texts", count)
	}
	if back, f := Decode(b); e != api.OK || f != api.OK || !same(back, l) {
		t.Errorf("%d, %d", int(e), int(f))
	}
}

func TestP13_6FindOfMoreMatchersIsMeet(t *testing.T) {
	r := rand.New(rand.NewSource(136))
	for range 3000 {
		l, m := someIndex(r, 20), someMatchers(r)
		from, to := someRange(r)
		want := Find(l, nil, from, to)
		for _, x := range m {
			want = Meet(want, Find(l, []api.Matcher{x}, from, to))
		}
		if got := Find(l, m, from, to); !slices.Equal(got, want) {
			t.Fatalf("Find(%v, %v, %d, %d) = %v, not %v", l, m, from, to, got, want)
		}
	}
}

func TestArgumentsAreLeftAsTheyAre(t *testing.T) {
	given := func() []api.Entry {
		return laid(api.Entry{Labels: of("a", "x", "b", "y", "c", "z")[:2], Size: 5}, entry(4, 1, 2, "b", "x"), entry(4, 3, 2, "b", "x"), entry(4, 0, 2, "a", "x"))
	}
	l, twin := given(), given()
	m := []api.Matcher{one(api.Is, "a", "x"), one(api.Not, "c", "x"), one(api.Like, "b", "y"), {}}
	for n := range len(l) + 1 {
		Can(l[:n])
		Encode(l[:n])
		Find(l[:n], m[:min(n, 3)], 0, 9)
	}
	room, old := l[0].Labels, twin[0].Labels
	if !same(l, twin) || !slices.Equal(room[:cap(room)], old[:cap(old)]) || m[3] != (api.Matcher{}) || m[0].Name != "a" {
		t.Errorf("changed: %v, %v", l, m)
	}
	a, b := []int{3, 1, 3, 7, 7, 5}, []int{9, 3, 1, 1, 8, 8}
	for n := range 7 {
		Union(a[:n], b[:n])
		Meet(a[:n], b[:n])
		Minus(a[:n], b[:n])
	}
	if !slices.Equal(a, []int{3, 1, 3, 7, 7, 5}) || !slices.Equal(b, []int{9, 3, 1, 1, 8, 8}) {
		t.Errorf("changed: %v, %v", a, b)
	}
	for _, bytesOf := range [][]byte{plainBytes(laid(entry(5, 1, 2, "a", "x"))), stream(series(even(0, 21), "a", "x"))} {
		long := append(bytes.Clone(bytesOf), 7, 8, 9)
		whole := bytes.Clone(long)
		for n := range len(long) + 1 {
			Decode(long[:n])
			Build(long[:n])
		}
		if !bytes.Equal(long, whole) {
			t.Errorf("changed: % x", long)
		}
	}
}

// wantApart writes over each list of an answer, the room behind it too, and looks whether the others have changed.
func wantApart(t *testing.T, l, twin []api.Entry) {
	t.Helper()
	for i := range l {
		if !slices.Equal(l[i].Labels, twin[i].Labels) {
			t.Errorf("labels of two entries share memory: %v", l)
		}
		clear(l[i].Labels[:cap(l[i].Labels)])
	}
	clear(l[:cap(l)])
}

func TestAnswersAreNewMemory(t *testing.T) {
	b := stream(series(even(0, 41), "a", "x", "b", "x"), series(even(0, 1), "b", "x"))
	whole := bytes.Clone(b)
	l, _ := Build(b)
	clear(b)
	twin, _ := Build(whole)
	wantApart(t, l, twin)
	x, _ := Encode(twin)
	old := bytes.Clone(x)
	back, _ := Decode(x)
	clear(x[:cap(x)])
	wantApart(t, back, twin)
	if again, _ := Encode(twin); !bytes.Equal(again, old) {
		t.Error("two answers of Encode share memory")
	}
	for _, call := range []func(a, b []int) []int{Union, Meet, Minus} {
		for _, c := range [][2][]int{{{1, 2, 3}, {2, 3}}, {{1, 2}, nil}, {nil, {1, 2}}, {{1, 2}, {1, 2}}} {
			a, b := slices.Clone(c[0]), slices.Clone(c[1])
			got := call(a, b)
			clear(got[:cap(got)])
			if !slices.Equal(a, c[0]) || !slices.Equal(b, c[1]) {
				t.Errorf("a list of %v is shared", c)
			}
		}
	}
}
