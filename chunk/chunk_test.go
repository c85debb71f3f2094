package chunk

import (
	"bytes"
	"encoding/binary"
	"fmt"
	"maps"
	"math"
	"math/rand"
	"slices"
	"strings"
	"testing"

	"dryrot/api"
	"dryrot/codec"
	"dryrot/labels"
)

// of is labels by name, value, name, value ..
func of(words ...string) []api.Label {
	var l []api.Label
	for i := 0; i < len(words); i += 2 {
		l = append(l, api.Label{Name: words[i], Value: words[i+1]})
	}
	return l
}

// series is samples of some labels.
func series(l []api.Label, samples ...api.Sample) api.Series {
	return api.Series{Labels: l, Samples: samples}
}

// even is n samples at the times 0, 1, 2 ..
func even(n int) []api.Sample {
	var l []api.Sample
	for t := range n {
		l = append(l, api.Sample{T: t, V: 9})
	}
	return l
}

// at is samples of a value at some times.
func at(v uint64, times ...int) []api.Sample {
	var l []api.Sample
	for _, t := range times {
		l = append(l, api.Sample{T: t, V: v})
	}
	return l
}

func greatestLabels() []api.Label {
	var l []api.Label
	for i := range 8 {
		l = append(l, api.Label{Name: strings.Repeat("n", 23) + fmt.Sprint(i), Value: strings.Repeat("v", 40)})
	}
	return l
}

// greatestSamples is n samples of as many bits as can be.
func greatestSamples(n int) []api.Sample {
	var l []api.Sample
	for i := range n {
		l = append(l, api.Sample{T: i<<47 + i%2<<46, V: uint64(i%2) * math.MaxUint64})
	}
	return l
}

// plainChunk is a chunk's bytes, whether it may be or not: the labels and the samples come as bytes.
func plainChunk(names, samples []byte) []byte {
	b := binary.BigEndian.AppendUint32(nil, uint32(len(names)+len(samples)))
	return slices.Concat(b, names, samples)
}

func chunkOf(s api.Series) []byte {
	names, _ := labels.Encode(s.Labels)
	samples, _ := codec.Encode(s.Samples)
	return plainChunk(names, samples)
}

// told is what a cursor tells.
type told struct {
	entries []api.Entry
	samples [][]api.Sample
}

func readAll(c *Cursor) told {
	var x told
	for {
		entry, samples, ok := c.Next()
		if !ok {
			return x
		}
		x.entries = append(x.entries, entry)
		x.samples = append(x.samples, samples)
	}
}

func (x told) series() []api.Series {
	var l []api.Series
	for i, entry := range x.entries {
		l = append(l, api.Series{Labels: entry.Labels, Samples: x.samples[i]})
	}
	return l
}

func sameSeries(a, b []api.Series) bool {
	return slices.EqualFunc(a, b, func(x, y api.Series) bool {
		return slices.Equal(x.Labels, y.Labels) && slices.Equal(x.Samples, y.Samples)
	})
}

func isNoEntry(x api.Entry) bool {
	return len(x.Labels) == 0 && x.At == 0 && x.Size == 0 && x.Min == 0 && x.Max == 0
}

func brief(x any) string { return fmt.Sprintf("%.200s", fmt.Sprint(x)) }

// rightLists is series that may stand in a stream, the edges among them.
func rightLists() [][]api.Series {
	l := [][]api.Series{
		nil, {},
		{series(of("a", "x"), api.Sample{})}, {series(of("a", "x"), at(7, math.MinInt, math.MaxInt)...)}, {series(greatestLabels(), greatestSamples(45)...)},
		{series(of("a", "x"), even(21)...), series(of("a", "x", "b", "x"), even(1)...), series(of("a", "y"), even(20)...), series(of("b", "a"), even(19)...)},
		{series(of("A", "日"), at(1, 5)...), series(of("_", `"`), at(1, 5)...), series(of("a", `\`), at(1, -5)...)},
		{series(of("a", "x"), even(65535)...)},
	}
	for _, n := range []int{1, 2, 19, 20, 21, 39, 40, 41, 100} {
		l = append(l, []api.Series{series(of("a", "x"), even(n)...), series(of("a", "y"), greatestSamples(n)...)})
	}
	return l
}

// wrongLists is series that may not stand in a stream.
func wrongLists() [][]api.Series {
	right := series(of("b", "y"), even(3)...)
	l := [][]api.Series{
		{right, right}, {right, series(of("b", "x"), even(3)...)}, {right, series(of("a", "x"), even(3)...)}, {series(of("b", "y", "c", "x"), even(3)...), right},
		{series(of("a", "x"), even(1)...), right, series(of("b", "a"), even(1)...)}, {series(of("a", "x"), even(1)...), right, series(of("a", "x"), even(1)...)},
	}
	for _, wrong := range []api.Series{
		{}, series(nil, even(3)...), series(of("c", "x")), series(of("c", ""), even(3)...), series(of("1", "x"), even(3)...), series(of("d", "x", "c", "x"), even(3)...), series(of("c", "x", "c", "y"), even(3)...), series(of("c", "\xff"), even(3)...), series(of("c", strings.Repeat("v", 41)), even(3)...),
		series(of("c", "x"), at(1, 2, 2)...), series(of("c", "x"), at(1, 2, 1)...), series(of("c", "x"), at(1, 1, 2, 3, 3)...), series(of("c", "x"), even(65536)...), series(of("c", "x"), make([]api.Sample, 70000)...),
		{Labels: of("c", "x"), Samples: []api.Sample{}},
	} {
		l = append(l, []api.Series{wrong}, []api.Series{right, wrong}, []api.Series{wrong, right})
	}
	return l
}

// someSeries is up to most series that may stand in a stream.
func someSeries(r *rand.Rand, most int) []api.Series {
	var l []api.Series
	for range r.Intn(most + 1) {
		s := series(of("a", string(rune('p'+r.Intn(4))), "b", string(rune('p'+r.Intn(4))))[r.Intn(2):])
		t := int(r.Uint64()) >> (2 + r.Intn(60))
		for range 1 + r.Intn(1+r.Intn(70)) {
			s.Samples = append(s.Samples, api.Sample{T: t, V: r.Uint64() >> r.Intn(64)})
			t += 1 + r.Intn(1<<r.Intn(40))
		}
		l = append(l, s)
	}
	byLabels := func(a, b api.Series) int { return labels.Compare(a.Labels, b.Labels) }
	slices.SortFunc(l, byLabels)
	return slices.CompactFunc(l, func(a, b api.Series) bool { return byLabels(a, b) == 0 })
}

// plainStream is the stream of series, chunk by chunk.
func plainStream(l []api.Series) []byte {
	var b []byte
	for _, s := range l {
		for part := range slices.Chunk(s.Samples, 20) {
			b = append(b, chunkOf(series(s.Labels, part...))...)
		}
	}
	return b
}

func TestP12_1Can(t *testing.T) {
	for _, l := range rightLists() {
		if !Can(l) {
			t.Errorf("Can(%s) = false", brief(l))
		}
	}
	for _, l := range wrongLists() {
		if Can(l) {
			t.Errorf("Can(%s) = true", brief(l))
		}
	}
}

func TestP12_1ExampleOfTheChapter(t *testing.T) {
	b, e := Encode([]api.Series{series(of("a", "x"), even(21)...)})
	c := Open(b, 0)
	x := readAll(c)
	if e != api.OK || len(x.entries) != 2 || len(x.samples[0]) != 20 || len(x.samples[1]) != 1 || c.Err() != api.OK {
		t.Errorf("21 samples: %d, %s", int(e), brief(x))
	}
}

func TestP12_1BytesWrittenOut(t *testing.T) {
	for _, c := range []struct {
		l    []api.Series
		want []byte
	}{
		{nil, nil},
		{[]api.Series{series(of("a", "x"), api.Sample{T: -1, V: 258})}, []byte{0, 0, 0, 23, 1, 1, 'a', 1, 'x', 0, 1, 255, 255, 255, 255, 255, 255, 255, 255, 0, 0, 0, 0, 0, 0, 1, 2}},
		{[]api.Series{series(of("a", "x"), at(0, 0)...), series(of("a", "y"), at(0, 0, 1)...)}, []byte{
			0, 0, 0, 23, 1, 1, 'a', 1, 'x', 0, 1, 0, 0, 0, 0, 0, 0, 0, 0, 0, 0, 0, 0, 0, 0, 0, 0,
			0, 0, 0, 25, 1, 1, 'a', 1, 'y', 0, 2, 0, 0, 0, 0, 0, 0, 0, 0, 0, 0, 0, 0, 0, 0, 0, 0, 0b10000000, 0b10000000}},
	} {
		if b, e := Encode(c.l); !bytes.Equal(b, c.want) || e != api.OK {
			t.Errorf("Encode(%s) = % x, %d", brief(c.l), b, int(e))
		}
	}
}

func TestP12_1EncodeOfWhatMayBe(t *testing.T) {
	r := rand.New(rand.NewSource(121))
	lists := rightLists()
	for range 500 {
		lists = append(lists, someSeries(r, 8))
	}
	for _, l := range lists {
		if b, e := Encode(l); !bytes.Equal(b, plainStream(l)) || e != api.OK {
			t.Fatalf("Encode(%s) = %.80x, %d", brief(l), b, int(e))
		}
	}
}

func TestP12_1EncodeOfWhatMayNotBe(t *testing.T) {
	for _, l := range wrongLists() {
		if b, e := Encode(l); len(b) != 0 || e != api.ErrArg {
			t.Errorf("Encode(%s) = %.80x, %d", brief(l), b, int(e))
		}
	}
}

func TestP12_2CursorOverStreams(t *testing.T) {
	r := rand.New(rand.NewSource(122))
	lists := rightLists()
	for range 300 {
		lists = append(lists, someSeries(r, 8))
	}
	for _, l := range lists {
		from := r.Intn(1000)
		c := Open(plainStream(l), from)
		place := from
		for _, s := range l {
			for part := range slices.Chunk(s.Samples, 20) {
				size := len(chunkOf(series(s.Labels, part...)))
				entry, samples, ok := c.Next()
				if !ok || !slices.Equal(entry.Labels, s.Labels) || !slices.Equal(samples, part) {
					t.Fatalf("Next of %s = %s, %s, %v", brief(l), brief(entry), brief(samples), ok)
				}
				if entry.At != place || entry.Size != size || entry.Min != part[0].T || entry.Max != part[len(part)-1].T || c.Err() != api.OK {
					t.Fatalf("Next of %s = %s, %d", brief(l), brief(entry), int(c.Err()))
				}
				place += size
			}
		}
		wantEnd(t, c, api.OK)
	}
}

// wantEnd asks a cursor several times, since its end is for ever.
func wantEnd(t *testing.T, c *Cursor, want api.Errno) {
	t.Helper()
	for range 3 {
		if entry, samples, ok := c.Next(); ok || !isNoEntry(entry) || len(samples) != 0 || c.Err() != want {
			t.Fatalf("at the end: %s, %s, %v, %d, not %d", brief(entry), brief(samples), ok, int(c.Err()), int(want))
		}
	}
}

func TestP12_2CursorOverNothing(t *testing.T) {
	for _, b := range [][]byte{nil, {}} {
		c := Open(b, 5)
		if c == nil || c.Err() != api.OK {
			t.Fatal("no cursor")
		}
		wantEnd(t, c, api.OK)
	}
}

func TestP12_2WhereACursorBegins(t *testing.T) {
	b := plainStream([]api.Series{series(of("a", "x"), even(21)...)})
	first := len(chunkOf(series(of("a", "x"), even(20)...)))
	for from, want := range map[int]int{0: 0, 1: 1, 5: 5, -1: 0, math.MinInt: 0, 1<<31 - 2: 1<<31 - 2, 1<<31 - 1: 1<<31 - 1, 1 << 31: 1<<31 - 1, math.MaxInt: 1<<31 - 1} {
		x := readAll(Open(b, from))
		if len(x.entries) != 2 || x.entries[0].At != want || x.entries[1].At != want+first {
			t.Errorf("Open at %d: %s", from, brief(x))
		}
	}
}

// Chunks need not be a stream's: whether labels rise, or a chunk is full, nobody asks here.
func TestP12_2CursorOverChunksOfAnyOrder(t *testing.T) {
	l := []api.Series{series(of("b", "x"), even(3)...), series(of("a", "x"), at(1, 9)...), series(of("a", "x"), at(2, 4)...), series(of("b", "x"), even(20)...)}
	var b []byte
	for _, s := range l {
		b = append(b, chunkOf(s)...)
	}
	c := Open(b, 0)
	if x := readAll(c); !sameSeries(x.series(), l) {
		t.Errorf("told: %s", brief(x))
	}
	wantEnd(t, c, api.OK)
}

// noChunks is bytes that begin with no chunk.
func noChunks() map[string][]byte {
	names, _ := labels.Encode(of("a", "x"))
	samples, _ := codec.Encode(even(3))
	coded := func(n int) []byte { b, _ := codec.Encode(even(n)); return b }
	right := plainChunk(names, samples)
	longer, shorter := bytes.Clone(right), bytes.Clone(right)
	longer[3]++
	shorter[3]--
	turned := bytes.Clone(samples)
	turned[len(turned)-1] ^= 1
	return map[string][]byte{
		"a byte": {0}, "two bytes": {0, 0}, "three bytes": {0, 0, 0}, "no length": {0, 0, 0, 0}, "noughts": make([]byte, 100), "the greatest length": {255, 255, 255, 255}, "a length alone": {0, 0, 0, 1},
		"a great length": slices.Concat([]byte{0x80, 0, 0, 0}, right[4:]), "a length one too great": longer, "a length one too great, with a byte there": append(bytes.Clone(longer), 0), "a length one too small": shorter,
		"no labels": plainChunk([]byte{0}, samples), "nine labels": plainChunk(append([]byte{9}, bytes.Repeat([]byte{1, 'a', 1, 'x'}, 9)...), samples), "labels that do not rise": plainChunk([]byte{2, 1, 'a', 1, 'x', 1, 'a', 1, 'x'}, samples), "a value that may not be": plainChunk([]byte{1, 1, 'a', 1, 0xff}, samples),
		"labels alone": plainChunk(names, nil), "labels that end": plainChunk(names[:4], nil), "no samples": plainChunk(names, coded(0)), "21 samples": plainChunk(names, coded(21)), "65535 samples": plainChunk(names, coded(65535)),
		"samples that end": plainChunk(names, samples[:len(samples)-1]), "samples and more": plainChunk(names, append(bytes.Clone(samples), 0)), "samples of another form": plainChunk(names, turned), "samples alone": plainChunk(nil, samples),
	}
}

func TestP12_2CursorAtWhatIsNoChunk(t *testing.T) {
	right := chunkOf(series(of("a", "x"), even(20)...))
	wrongs := noChunks()
	for _, why := range slices.Sorted(maps.Keys(wrongs)) {
		for ahead := range 3 {
			for _, behind := range [][]byte{nil, right} {
				c := Open(slices.Concat(bytes.Repeat(right, ahead), wrongs[why], behind), 0)
				for i := range ahead {
					if entry, samples, ok := c.Next(); !ok || entry.At != i*len(right) || len(samples) != 20 || c.Err() != api.OK {
						t.Fatalf("%s: chunk %d: %s, %v, %d", why, i, brief(entry), ok, int(c.Err()))
					}
				}
				wantEnd(t, c, api.ErrForm)
			}
		}
	}
}

func TestP12_2CursorOverWhatIsCut(t *testing.T) {
	b := plainStream([]api.Series{series(of("a", "x"), even(21)...), series(of("b", "x"), greatestSamples(30)...)})
	whole := readAll(Open(b, 0))
	for n := range len(b) {
		c := Open(b[:n], 0)
		full, end := 0, 0
		for full < len(whole.entries) && end+whole.entries[full].Size <= n {
			end += whole.entries[full].Size
			full++
		}
		want := api.OK
		if end < n {
			want = api.ErrForm
		}
		if x := readAll(c); !sameSeries(x.series(), whole.series()[:full]) || c.Err() != want {
			t.Fatalf("cut to %d: %s, %d", n, brief(x), int(c.Err()))
		}
		wantEnd(t, c, want)
	}
}

// What a cursor takes is the chunk's bytes, whatever bit is turned.
func TestP12_2CursorOverTurnedBytes(t *testing.T) {
	r := rand.New(rand.NewSource(1222))
	for range 4000 {
		b := plainStream(someSeries(r, 4))
		for range min(len(b), 3) {
			b[r.Intn(len(b))] ^= 1 << r.Intn(8)
		}
		c := Open(b, 0)
		var again []byte
		for _, s := range readAll(c).series() {
			if !Can([]api.Series{s}) || len(s.Samples) > 20 {
				t.Fatalf("a chunk of %s", brief(s))
			}
			again = append(again, chunkOf(s)...)
		}
		if !bytes.HasPrefix(b, again) || (len(again) == len(b)) != (c.Err() == api.OK) {
			t.Fatalf("of %x told %x, %d", b, again, int(c.Err()))
		}
	}
}

func TestP12_2CursorThatNoCallMade(t *testing.T) {
	for _, c := range []*Cursor{nil, {}, new(Cursor)} {
		if c.Err() != api.ErrNil {
			t.Errorf("Err = %d", int(c.Err()))
		}
		wantEnd(t, c, api.ErrNil)
	}
}

func TestP12_2CursorsStandAlone(t *testing.T) {
	b := plainStream([]api.Series{series(of("a", "x"), even(60)...)})
	c, d := Open(b, 0), Open(b, 7)
	c.Next()
	c.Next()
	entry, _, ok := d.Next()
	if other, _, more := c.Next(); !ok || entry.At != 7 || entry.Min != 0 || !more || other.Min != 40 {
		t.Errorf("%s, %s", brief(entry), brief(other))
	}
}

// The bytes are long, so that copying the rest for each chunk would be told by the time it takes.
func TestP12_2CursorOverALongStream(t *testing.T) {
	b := bytes.Repeat(chunkOf(series(of("a", "x"), api.Sample{})), 200000)
	c := Open(b, 0)
	count := 0
	for {
		entry, _, ok := c.Next()
		if !ok {
			break
		}
		if entry.At != count*entry.Size {
			t.Fatalf("chunk %d at %d", count, entry.At)
		}
		count++
	}
	if count != 200000 || c.Err() != api.OK {
		t.Errorf("%d chunks, %d", count, int(c.Err()))
	}
}

func TestP12_3JoinKnown(t *testing.T) {
	x, y := of("a", "x"), of("a", "y")
	for _, c := range []struct {
		why     string
		l, want []api.Series
	}{
		{"none", nil, nil},
		{"empty", []api.Series{}, nil},
		{"one", []api.Series{series(x, at(1, 1, 2)...)}, []api.Series{series(x, at(1, 1, 2)...)}},
		{"without a sample", []api.Series{series(x), {Labels: y, Samples: []api.Sample{}}, {}}, nil},
		{"one without a sample among others", []api.Series{series(x, at(1, 1)...), series(y), series(x)}, []api.Series{series(x, at(1, 1)...)}},
		{"out of order", []api.Series{series(y, at(1, 1)...), series(x, at(2, 2)...)}, []api.Series{series(x, at(2, 2)...), series(y, at(1, 1)...)}},
		{"a beginning comes first", []api.Series{series(of("a", "x", "b", "x"), at(1, 1)...), series(x, at(2, 2)...)}, []api.Series{series(x, at(2, 2)...), series(of("a", "x", "b", "x"), at(1, 1)...)}},
		{"behind one another", []api.Series{series(x, at(1, 1, 2)...), series(x, at(2, 3, 4)...)}, []api.Series{series(x, slices.Concat(at(1, 1, 2), at(2, 3, 4))...)}},
		{"between one another", []api.Series{series(x, at(1, 1, 5)...), series(y, at(3, 1)...), series(x, at(2, -3, 4)...)}, []api.Series{series(x, api.Sample{T: -3, V: 2}, api.Sample{T: 1, V: 1}, api.Sample{T: 4, V: 2}, api.Sample{T: 5, V: 1}), series(y, at(3, 1)...)}},
		{"a later one over an earlier one", []api.Series{series(x, at(1, 3)...), series(x, at(2, 3, 1)...)}, []api.Series{series(x, at(2, 1, 3)...)}},
		{"the last of three", []api.Series{series(x, at(9, 3)...), series(x, at(8, 3)...), series(x, at(1, 3)...)}, []api.Series{series(x, at(1, 3)...)}},
		{"within one", []api.Series{series(x, slices.Concat(at(5, 7, 3, 7), at(4, 3), at(6, 1, 7))...)}, []api.Series{series(x, api.Sample{T: 1, V: 6}, api.Sample{T: 3, V: 4}, api.Sample{T: 7, V: 6})}},
		{"an empty one takes nothing away", []api.Series{series(x, at(1, 3)...), series(x)}, []api.Series{series(x, at(1, 3)...)}},
		{"labels that may not be", []api.Series{series(of("", "\xff"), at(1, 1)...), series(nil, at(2, 2)...), series([]api.Label{}, at(3, 3)...), series(of("b", "x", "a", "x"), at(4, 4)...), series(of("", "\xff"), at(5, 1)...)}, []api.Series{series(nil, slices.Concat(at(2, 2), at(3, 3))...), series(of("", "\xff"), at(5, 1)...), series(of("b", "x", "a", "x"), at(4, 4)...)}},
		{"far times", []api.Series{series(x, at(1, math.MaxInt, math.MinInt)...), series(x, at(2, 0)...)}, []api.Series{series(x, api.Sample{T: math.MinInt, V: 1}, api.Sample{V: 2}, api.Sample{T: math.MaxInt, V: 1})}},
	} {
		if l := Join(c.l); !sameSeries(l, c.want) {
			t.Errorf("%s: %s, not %s", c.why, brief(l), brief(c.want))
		}
	}
}

// plainJoin tells the same by maps: later samples are simply laid over earlier ones.
func plainJoin(l []api.Series) []api.Series {
	keys := map[string][]api.Label{}
	all := map[string]map[int]uint64{}
	for _, s := range l {
		key := fmt.Sprintf("%q", s.Labels)
		if all[key] == nil {
			keys[key], all[key] = s.Labels, map[int]uint64{}
		}
		for _, x := range s.Samples {
			all[key][x.T] = x.V
		}
	}
	var joined []api.Series
	for key, samples := range all {
		s := series(keys[key])
		for _, t := range slices.Sorted(maps.Keys(samples)) {
			s.Samples = append(s.Samples, api.Sample{T: t, V: samples[t]})
		}
		if len(s.Samples) > 0 {
			joined = append(joined, s)
		}
	}
	slices.SortFunc(joined, func(a, b api.Series) int { return labels.Compare(a.Labels, b.Labels) })
	return joined
}

func TestP12_3JoinOfAnyLists(t *testing.T) {
	r := rand.New(rand.NewSource(123))
	for range 3000 {
		var l []api.Series
		for range r.Intn(40) {
			s := series(of([]string{"a", "b", ""}[r.Intn(3)], []string{"x", "y", "\xff"}[r.Intn(3)], "b", "x")[r.Intn(3):])
			for range r.Intn(1 + r.Intn(60)) {
				s.Samples = append(s.Samples, api.Sample{T: r.Intn(50) - 25, V: r.Uint64()})
			}
			l = append(l, s)
		}
		if got, want := Join(l), plainJoin(l); !sameSeries(got, want) {
			t.Fatalf("Join(%v) = %v, not %v", l, got, want)
		}
	}
}

func TestP12_3JoinOfMany(t *testing.T) {
	var l []api.Series
	for i := range 100000 {
		l = append(l, series(of("a", fmt.Sprint(i%5000)), api.Sample{T: -i, V: uint64(i)}))
	}
	l = append(l, series(of("b", "x"), even(300000)...), series(of("b", "x"), even(300001)...))
	joined := Join(l)
	if len(joined) != 5001 || len(joined[5000].Samples) != 300001 {
		t.Fatalf("%d series", len(joined))
	}
	for _, s := range joined[:5000] {
		if len(s.Samples) != 20 || !codec.Can(s.Samples) {
			t.Fatalf("joined: %v", s)
		}
	}
}

func TestP12_4JoinOfWhatACursorTells(t *testing.T) {
	r := rand.New(rand.NewSource(124))
	lists := rightLists()
	for range 500 {
		lists = append(lists, someSeries(r, 10))
	}
	for _, l := range lists {
		b, e := Encode(l)
		c := Open(b, r.Intn(100))
		if joined := Join(readAll(c).series()); e != api.OK || c.Err() != api.OK || !sameSeries(joined, l) {
			t.Fatalf("of %s: %s, %d, %d", brief(l), brief(joined), int(e), int(c.Err()))
		}
	}
}

func TestArgumentsAreLeftAsTheyAre(t *testing.T) {
	given := func() []api.Series {
		samples := slices.Concat(at(5, 7, 3, 7), at(4, 3), even(40))
		return []api.Series{
			{Labels: of("b", "x", "c", "x", "d", "x")[:1], Samples: samples[:6]}, {Labels: of("a", "x"), Samples: even(40)[:25]}, series(of("b", "x"), even(2)...), series(of("a", "x"), even(2)...),
		}
	}
	l, twin := given(), given()
	Can(l[1:3])
	Encode(l[1:3])
	Join(l[:3])
	for i := range l {
		room, same := l[i].Labels, twin[i].Labels
		if !sameSeries(l, twin) || !slices.Equal(room[:cap(room)], same[:cap(same)]) || !slices.Equal(l[i].Samples[:cap(l[i].Samples)], twin[i].Samples[:cap(twin[i].Samples)]) {
			t.Fatalf("changed: %v", l)
		}
	}
	b := append(plainStream(l[1:3]), 7, 8, 9)
	whole := bytes.Clone(b)
	for n := range len(b) + 1 {
		readAll(Open(b[:n], 0))
	}
	if !bytes.Equal(b, whole) {
		t.Errorf("changed: % x", b)
	}
}

func TestArgumentsAreNotKept(t *testing.T) {
	l := []api.Series{series(of("a", "x"), even(41)...)}
	b := plainStream(l)
	c := Open(b, 0)
	c.Next()
	clear(b)
	if rest := readAll(c); len(rest.entries) != 2 || c.Err() != api.OK {
		t.Errorf("a cursor keeps its bytes: %s", brief(rest))
	}
	joined := Join(l)
	clear(l[0].Labels)
	clear(l[0].Samples)
	if !sameSeries(joined, []api.Series{series(of("a", "x"), even(41)...)}) {
		t.Errorf("Join keeps its series: %s", brief(joined))
	}
}

// spoil writes over all that an answer has, the room behind its lists too.
func spoil(l []api.Series) {
	for _, s := range l {
		clear(s.Labels[:cap(s.Labels)])
		clear(s.Samples[:cap(s.Samples)])
	}
}

func TestAnswersAreNewMemory(t *testing.T) {
	l := []api.Series{series(of("a", "x"), even(41)...), series(of("a", "x", "b", "x"), even(3)...)}
	b, _ := Encode(l)
	stream := bytes.Clone(b)
	c := Open(b, 0)
	for i := range 4 {
		want := readAll(Open(stream, 0)).series()[i]
		entry, samples, _ := c.Next()
		if !slices.Equal(entry.Labels, want.Labels) || !slices.Equal(samples, want.Samples) {
			t.Errorf("two chunks share memory: %s, %s", brief(entry), brief(samples))
		}
		spoil([]api.Series{{Labels: entry.Labels, Samples: samples}})
	}
	clear(b[:cap(b)])
	if again, _ := Encode(l); !bytes.Equal(again, stream) {
		t.Error("two streams share memory")
	}
	for i := range l {
		joined := Join(l)
		spoil(joined[i : i+1])
		if other := 1 - i; !sameSeries(joined[other:other+1], l[other:other+1]) || !sameSeries(Join(l), l) {
			t.Errorf("what Join answers shares memory: %s", brief(joined))
		}
	}
}
