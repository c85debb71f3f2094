package tomb

import (
	"bytes"
	"encoding/binary"
	"fmt"
	"math"
	"math/rand"
	"slices"
	"strings"
	"testing"

	"dryrot/api"
	"dryrot/match"
)

// of is labels by name, value, name, value ..
func of(words ...string) []api.Label {
	var l []api.Label
	for i := 0; i < len(words); i += 2 {
		l = append(l, api.Label{Name: words[i], Value: words[i+1]})
	}
	return l
}

func one(kind int, name, value string) api.Matcher {
	return api.Matcher{Kind: kind, Name: name, Value: value}
}

func deleteOf(from, to, upto int, l ...api.Matcher) api.Delete {
	return api.Delete{Matchers: l, From: from, To: to, Upto: upto}
}

// greatestMatchers is matchers of as many bytes as may be.
func greatestMatchers() []api.Matcher {
	return slices.Repeat([]api.Matcher{one(api.NotLike, strings.Repeat("n", 24), strings.Repeat("p", 60))}, 6)
}

func deletes(n int) []api.Delete {
	l := make([]api.Delete, n)
	for i := range l {
		l[i] = deleteOf(-i, i, i, one(api.Is, "a", "x"))
	}
	return l
}

func spots(n int) []api.Spot {
	l := make([]api.Spot, n)
	for i := range l {
		l[i] = api.Spot{Name: fmt.Sprintf("c%d.%d", i, i%3), Index: i}
	}
	return l
}

// both is deletes and a ledger.
type both struct {
	l      []api.Delete
	ledger []api.Spot
}

// numbers is edges of what 64 bits hold.
var numbers = []int{0, 1, -1, 7, -7, 255, 256, -256, 1<<62 - 1, 1 << 62, 1<<62 + 1, -1 << 62, math.MaxInt, math.MinInt}

// rightDeletes is deletes that may be, the edges among them.
func rightDeletes() [][]api.Delete {
	l := [][]api.Delete{
		nil, {}, {{}}, {deleteOf(5, -5, 0)}, {deleteOf(1, 2, 1<<62, greatestMatchers()...)}, {deleteOf(1, 2, 1<<62-1), deleteOf(1, 2, 1<<62-1), deleteOf(0, 0, 0)},
		{deleteOf(3, 4, 5, one(api.Is, "a", ""), one(api.Like, "b", "y.*")), deleteOf(3, 4, 1, one(api.Not, "_", "日"))},
		deletes(9999), deletes(10000),
	}
	for _, n := range numbers {
		l = append(l, []api.Delete{deleteOf(n, -n, 3), deleteOf(-n, n, 3, one(api.Is, "a", "x"))})
	}
	return l
}

// wrongDeletes is deletes that may not be.
func wrongDeletes() [][]api.Delete {
	l := [][]api.Delete{deletes(10001), make([]api.Delete, 20000)}
	for _, wrong := range []api.Delete{
		deleteOf(0, 1, -1), deleteOf(0, 1, 1<<62+1), deleteOf(0, 1, math.MinInt), deleteOf(0, 1, math.MaxInt),
		deleteOf(0, 1, 2, api.Matcher{}), deleteOf(0, 1, 2, one(5, "a", "x")), deleteOf(0, 1, 2, one(257, "a", "x")), deleteOf(0, 1, 2, one(api.Is, "1", "x")), deleteOf(0, 1, 2, one(api.Like, "a", "(")), deleteOf(0, 1, 2, one(api.Is, "a", "\xff")), deleteOf(0, 1, 2, one(api.Is, "a", strings.Repeat("v", 41))), deleteOf(0, 1, 2, append(greatestMatchers(), one(api.Is, "a", "x"))...),
	} {
		l = append(l, []api.Delete{wrong}, []api.Delete{{}, wrong}, []api.Delete{wrong, {}})
	}
	return l
}

// rightLedgers is ledgers that may be, the edges among them.
func rightLedgers() [][]api.Spot {
	return [][]api.Spot{
		nil, {}, {{Name: "a"}}, {{Name: strings.Repeat("n", 24), Index: 1<<31 - 1}}, {{Name: "c1.0", Index: 2}, {Name: "c1.0", Index: 2}, {Name: "b", Index: 258}}, {{Name: "A b\x00\xff", Index: 1}}, spots(9999), spots(10000),
	}
}

// wrongLedgers is ledgers that may not be.
func wrongLedgers() [][]api.Spot {
	l := [][]api.Spot{spots(10001), make([]api.Spot, 20000)}
	for _, wrong := range []api.Spot{
		{}, {Index: 1}, {Name: strings.Repeat("n", 25)}, {Name: strings.Repeat("n", 255)}, {Name: strings.Repeat("n", 257)}, {Name: "a", Index: -1}, {Name: "a", Index: 1 << 31}, {Name: "a", Index: 1<<32 + 1}, {Name: "a", Index: math.MaxInt}, {Name: "a", Index: math.MinInt},
	} {
		l = append(l, []api.Spot{wrong}, []api.Spot{{Name: "a"}, wrong}, []api.Spot{wrong, {Name: "a"}})
	}
	return l
}

// rightBoth is each of the right deletes and each of the right ledgers with a short other one, and the greatest.
func rightBoth() []both {
	l := []both{{deletes(10000), spots(10000)}}
	for _, x := range rightDeletes() {
		l = append(l, both{x, nil}, both{x, spots(2)})
	}
	for _, x := range rightLedgers() {
		l = append(l, both{nil, x}, both{deletes(2), x})
	}
	return l
}

func wrongBoth() []both {
	l := []both{{wrongDeletes()[2], wrongLedgers()[2]}}
	for _, x := range wrongDeletes() {
		l = append(l, both{x, nil}, both{x, spots(2)})
	}
	for _, x := range wrongLedgers() {
		l = append(l, both{nil, x}, both{deletes(2), x})
	}
	return l
}

func someBoth(r *rand.Rand) both {
	number := func() int {
		if r.Intn(2) == 0 {
			return numbers[r.Intn(len(numbers))]
		}
		return int(r.Uint64())
	}
	var x both
	for range r.Intn(6) {
		var m []api.Matcher
		for range r.Intn(7) {
			m = append(m, one(1+r.Intn(4), []string{"a", "b_9", "__"}[r.Intn(3)], []string{"", "x", "y.*", "[a-c]", "日"}[r.Intn(5)]))
		}
		x.l = append(x.l, deleteOf(number(), number(), int(r.Uint64()>>(2+r.Intn(62))), m...))
	}
	for range r.Intn(6) {
		x.ledger = append(x.ledger, api.Spot{Name: strings.Repeat("c", 1+r.Intn(24)), Index: r.Intn(1 << r.Intn(32))})
	}
	return x
}

// brief is the beginning of a thing's words, since some are long.
func brief(x any) string { return fmt.Sprintf("%.200s", fmt.Sprintf("%+v", x)) }

func sameDelete(a, b api.Delete) bool {
	return a.From == b.From && a.To == b.To && a.Upto == b.Upto && slices.Equal(a.Matchers, b.Matchers)
}

func sameDeletes(a, b []api.Delete) bool { return slices.EqualFunc(a, b, sameDelete) }

// plainBytes is deletes and a ledger as bytes, whether they may be or not.
func plainBytes(x both) []byte {
	number, word := binary.BigEndian.AppendUint32, binary.BigEndian.AppendUint64
	text := func(b []byte, s string) []byte { return append(append(b, byte(len(s))), s...) }
	b := number(nil, uint32(len(x.l)))
	for _, d := range x.l {
		b = append(b, byte(len(d.Matchers)))
		for _, m := range d.Matchers {
			b = text(text(append(b, byte(m.Kind)), m.Name), m.Value)
		}
		b = word(word(word(b, uint64(d.From)), uint64(d.To)), uint64(d.Upto))
	}
	b = number(b, uint32(len(x.ledger)))
	for _, s := range x.ledger {
		b = number(text(b, s.Name), uint32(s.Index))
	}
	return b
}

func TestP14_1Can(t *testing.T) {
	for _, l := range rightDeletes() {
		if !Can(l) {
			t.Errorf("Can(%s) = false", brief(l))
		}
	}
	for _, l := range wrongDeletes() {
		if Can(l) {
			t.Errorf("Can(%s) = true", brief(l))
		}
	}
}

func TestP14_1HitsByTimeAndRank(t *testing.T) {
	x := of("a", "x")
	for _, c := range []struct {
		from, to, upto, t, rank int
		want                    bool
	}{
		{1, 5, 3, 1, 3, true}, {1, 5, 3, 5, 3, true}, {1, 5, 3, 3, 3, true}, {1, 5, 3, 0, 3, false}, {1, 5, 3, 6, 3, false}, {1, 5, 3, 5, 4, false}, {1, 5, 3, 5, 2, true}, {1, 5, 3, 5, math.MinInt, true}, {1, 5, 3, 5, math.MaxInt, false},
		{5, 5, 0, 5, 0, true}, {5, 4, 3, 5, 3, false}, {5, 4, 3, 4, 3, false}, {math.MinInt, math.MaxInt, 3, math.MinInt, 3, true}, {math.MinInt, math.MaxInt, 3, math.MaxInt, 3, true}, {math.MaxInt, math.MinInt, 3, 0, 3, false},
		{1, 5, math.MaxInt, 1, math.MaxInt, true}, {1, 5, -1, 1, -1, true}, {1, 5, -1, 1, 0, false},
	} {
		for _, m := range [][]api.Matcher{nil, {one(api.Is, "a", "x")}} {
			if Hits([]api.Delete{deleteOf(c.from, c.to, c.upto, m...)}, x, c.t, c.rank) != c.want {
				t.Errorf("%+v with %v: %v", c, m, !c.want)
			}
		}
	}
}

func TestP14_1HitsByLabels(t *testing.T) {
	for _, c := range []struct {
		m    []api.Matcher
		l    []api.Label
		want bool
	}{
		{nil, nil, true}, {nil, of("a", "x"), true}, {[]api.Matcher{one(api.Is, "a", "x")}, of("a", "x"), true}, {[]api.Matcher{one(api.Is, "a", "x")}, of("a", "y"), false}, {[]api.Matcher{one(api.Is, "a", "x")}, nil, false}, {[]api.Matcher{one(api.Not, "a", "x")}, nil, true},
		{[]api.Matcher{one(api.Like, "a", "x.*")}, of("a", "xy"), true}, {[]api.Matcher{one(api.NotLike, "a", "x.*")}, of("a", "xy"), false}, {[]api.Matcher{one(api.Is, "a", "x"), one(api.Is, "b", "y")}, of("a", "x", "b", "y"), true}, {[]api.Matcher{one(api.Is, "a", "x"), one(api.Is, "b", "y")}, of("a", "x", "b", "z"), false},
		{[]api.Matcher{{}}, of("a", "x"), false}, {[]api.Matcher{one(api.Like, "a", "(")}, of("a", "x"), false}, {[]api.Matcher{one(api.NotLike, "a", "(")}, of("a", "x"), true}, {slices.Repeat([]api.Matcher{one(api.Is, "a", "x")}, 20), of("a", "x"), true},
	} {
		if Hits([]api.Delete{deleteOf(0, 9, 3, c.m...)}, c.l, 5, 3) != c.want {
			t.Errorf("%v of %v: %v", c.m, c.l, !c.want)
		}
	}
}

func TestP14_1HitsOfSeveral(t *testing.T) {
	if Hits(nil, of("a", "x"), 0, 0) || Hits([]api.Delete{}, nil, 0, 0) {
		t.Error("none hit")
	}
	l := []api.Delete{deleteOf(0, 9, 3, one(api.Is, "a", "x")), deleteOf(20, 29, 5), deleteOf(0, 9, 7, one(api.Is, "a", "y"))}
	r := rand.New(rand.NewSource(141))
	for range 5000 {
		labels, at, rank := of("a", []string{"x", "y", "z"}[r.Intn(3)]), r.Intn(40)-5, r.Intn(10)-1
		want := false
		for _, d := range l {
			want = want || d.Upto >= rank && at >= d.From && at <= d.To && match.All(d.Matchers, labels)
		}
		if Hits(l, labels, at, rank) != want {
			t.Fatalf("Hits of %v at %d, rank %d = %v", labels, at, rank, !want)
		}
	}
}

func TestP14_2ExampleOfTheChapter(t *testing.T) {
	for _, x := range []both{{}, {[]api.Delete{}, []api.Spot{}}} {
		if b, e := Encode(x.l, x.ledger); !bytes.Equal(b, make([]byte, 8)) || e != api.OK {
			t.Errorf("Encode = % x, %d", b, int(e))
		}
	}
	if l, ledger, e := Decode(make([]byte, 8)); len(l) != 0 || len(ledger) != 0 || e != api.OK {
		t.Errorf("Decode = %v, %v, %d", l, ledger, int(e))
	}
}

func TestP14_2BytesWrittenOut(t *testing.T) {
	for _, c := range []struct {
		x    both
		want []byte
	}{
		{both{[]api.Delete{deleteOf(-2, 3, 258)}, nil}, []byte{0, 0, 0, 1, 0, 255, 255, 255, 255, 255, 255, 255, 254, 0, 0, 0, 0, 0, 0, 0, 3, 0, 0, 0, 0, 0, 0, 1, 2, 0, 0, 0, 0}},
		{both{nil, []api.Spot{{Name: "c1.0", Index: 2}, {Name: "x", Index: 1<<31 - 1}}}, []byte{0, 0, 0, 0, 0, 0, 0, 2, 4, 'c', '1', '.', '0', 0, 0, 0, 2, 1, 'x', 127, 255, 255, 255}},
		{both{[]api.Delete{deleteOf(1, -1, 1<<62, one(api.NotLike, "a", "."))}, []api.Spot{{Name: "y"}}}, []byte{0, 0, 0, 1, 1, 4, 1, 'a', 1, '.', 0, 0, 0, 0, 0, 0, 0, 1, 255, 255, 255, 255, 255, 255, 255, 255, 64, 0, 0, 0, 0, 0, 0, 0, 0, 0, 0, 1, 1, 'y', 0, 0, 0, 0}},
	} {
		if b, e := Encode(c.x.l, c.x.ledger); !bytes.Equal(b, c.want) || e != api.OK {
			t.Errorf("Encode(%s) = % x, %d", brief(c.x), b, int(e))
		}
	}
}

func TestP14_2EncodeOfWhatMayBe(t *testing.T) {
	for _, x := range rightBoth() {
		if b, e := Encode(x.l, x.ledger); !bytes.Equal(b, plainBytes(x)) || e != api.OK {
			t.Errorf("Encode(%s) = %.80x, %d", brief(x), b, int(e))
		}
	}
}

func TestP14_2EncodeOfWhatMayNotBe(t *testing.T) {
	for _, x := range wrongBoth() {
		if b, e := Encode(x.l, x.ledger); len(b) != 0 || e != api.ErrArg {
			t.Errorf("Encode(%s) = %.80x, %d", brief(x), b, int(e))
		}
	}
}

func wantNone(t *testing.T, b []byte) {
	t.Helper()
	if l, ledger, e := Decode(b); len(l) != 0 || len(ledger) != 0 || e != api.ErrForm {
		t.Errorf("Decode(%.80x) = %s, %s, %d", b, brief(l), brief(ledger), int(e))
	}
}

func TestP14_2DecodeOfTooFewAndTooMany(t *testing.T) {
	wantNone(t, nil)
	wantNone(t, []byte{})
	for _, x := range rightBoth() {
		b := plainBytes(x)
		for n := 0; n < len(b); n += 1 + len(b)/100 {
			wantNone(t, b[:n])
		}
		wantNone(t, b[:len(b)-1])
		for _, more := range [][]byte{{0}, {255}, make([]byte, 4), make([]byte, 8), make([]byte, 600)} {
			wantNone(t, slices.Concat(b, more))
		}
	}
}

// Bytes can't say numbers that have more of them: those are left out.
func TestP14_2DecodeOfWhatMayNotBe(t *testing.T) {
	tooWide := func(x both) bool {
		wideKind := func(m api.Matcher) bool { return m.Kind > 255 }
		wideDelete := func(d api.Delete) bool { return slices.ContainsFunc(d.Matchers, wideKind) }
		wideSpot := func(s api.Spot) bool {
			return s.Index < -1 || s.Index >= 1<<32 || len(s.Name) > 255
		}
		return slices.ContainsFunc(x.l, wideDelete) || slices.ContainsFunc(x.ledger, wideSpot)
	}
	for _, x := range wrongBoth() {
		if !tooWide(x) {
			wantNone(t, plainBytes(x))
		}
	}
	wantNone(t, []byte{0, 0, 0, 1, 255, 0, 0, 0, 0, 0, 0, 0, 0, 0, 0, 0, 0, 0, 0, 0, 0, 0, 0, 0, 0, 0, 0, 0, 0, 0, 0, 0, 0})
	wantNone(t, []byte{255, 255, 255, 255, 0, 0, 0, 0})
	wantNone(t, []byte{0, 0, 0, 0, 255, 255, 255, 255})
	wantNone(t, []byte{0, 0, 0, 0, 0, 0, 0, 1, 0, 0, 0, 0, 0})
}

// Long bytes are read without copying the rest again for each delete.
func TestP14_2DecodeOfLongBytes(t *testing.T) {
	for _, c := range []byte{0, 1, 255} {
		long := bytes.Repeat([]byte{c}, 1<<24)
		wantNone(t, long)
		wantNone(t, append([]byte{0, 0, 0x27, 0x10}, long...))
		wantNone(t, append([]byte{0, 0, 0x27, 0x11}, long...))
		wantNone(t, append([]byte{0, 0, 0, 0, 0, 0, 0x27, 0x10}, long...))
		wantNone(t, append([]byte{0, 0, 0, 0, 0, 0, 0x27, 0x11}, long...))
	}
	x := both{slices.Repeat([]api.Delete{deleteOf(1, 2, 3, greatestMatchers()...)}, 10000), nil}
	if l, _, e := Decode(plainBytes(x)); e != api.OK || !sameDeletes(l, x.l) {
		t.Errorf("Decode = %s, %d", brief(l), int(e))
	}
}

// What Decode takes is the bytes of what it answers, whatever byte is turned, missing or doubled.
func TestP14_2DecodeOfTurnedBytes(t *testing.T) {
	r := rand.New(rand.NewSource(142))
	for range 1500 {
		b := plainBytes(someBoth(r))
		for range 50 {
			at, twin := r.Intn(len(b)), bytes.Clone(b)
			switch r.Intn(3) {
			case 0:
				twin[at] = byte(r.Intn(256))
			case 1:
				twin = slices.Delete(twin, at, at+1)
			case 2:
				twin = slices.Insert(twin, at, byte(r.Intn(4)))
			}
			l, ledger, e := Decode(twin)
			if e == api.ErrForm && len(l) == 0 && len(ledger) == 0 {
				continue
			}
			if again, f := Encode(l, ledger); e != api.OK || f != api.OK || !bytes.Equal(again, twin) {
				t.Fatalf("Decode(%.200x) = %s, %s, %d", twin, brief(l), brief(ledger), int(e))
			}
		}
	}
}

func TestP14_3Prune(t *testing.T) {
	l := []api.Delete{deleteOf(0, 9, 3, one(api.Is, "a", "x")), deleteOf(0, 9, 7), deleteOf(5, 4, 0), deleteOf(1, 1, 3), deleteOf(0, 9, 5, greatestMatchers()...)}
	for _, c := range []struct {
		ranks, want []int
	}{
		{nil, nil}, {[]int{}, nil}, {[]int{8}, nil}, {[]int{8, 9, math.MaxInt}, nil}, {[]int{7}, []int{1}}, {[]int{9, 7, 8}, []int{1}}, {[]int{6, 7}, []int{1}}, {[]int{5}, []int{1, 4}}, {[]int{4}, []int{1, 4}}, {[]int{3}, []int{0, 1, 3, 4}}, {[]int{9, 3}, []int{0, 1, 3, 4}}, {[]int{3, 9}, []int{0, 1, 3, 4}}, {[]int{1}, []int{0, 1, 3, 4}}, {[]int{0}, []int{0, 1, 2, 3, 4}}, {[]int{-1}, []int{0, 1, 2, 3, 4}}, {[]int{9, math.MinInt, 9}, []int{0, 1, 2, 3, 4}},
	} {
		var want []api.Delete
		for _, i := range c.want {
			want = append(want, l[i])
		}
		if got := Prune(l, c.ranks); !sameDeletes(got, want) {
			t.Errorf("Prune by %v = %v", c.ranks, got)
		}
	}
	if got := Prune(nil, []int{1}); len(got) != 0 {
		t.Errorf("Prune of none = %v", got)
	}
}

func TestP14_3PruneOfWhatMayNotBe(t *testing.T) {
	l := []api.Delete{deleteOf(0, 1, -5, api.Matcher{}), deleteOf(0, 1, math.MaxInt, slices.Repeat(greatestMatchers(), 3)...), deleteOf(0, 1, math.MinInt)}
	if got := Prune(l, []int{-5}); !sameDeletes(got, l[:2]) {
		t.Errorf("Prune = %v", got)
	}
	if got := Prune(l, []int{math.MinInt}); !sameDeletes(got, l) {
		t.Errorf("Prune = %v", got)
	}
	if got := Prune(make([]api.Delete, 20000), []int{0}); len(got) != 20000 {
		t.Errorf("Prune of 20000 = %d", len(got))
	}
}

func TestP14_4WhatIsPrunedHitsNothing(t *testing.T) {
	r := rand.New(rand.NewSource(144))
	for range 3000 {
		var l []api.Delete
		for range r.Intn(6) {
			from := r.Intn(10)
			l = append(l, deleteOf(from, from+r.Intn(6)-1, r.Intn(12), one(1+r.Intn(2), "a", []string{"x", "y", ""}[r.Intn(3)])))
		}
		var ranks []int
		for range r.Intn(4) {
			ranks = append(ranks, r.Intn(12))
		}
		left := Prune(l, ranks)
		for _, rank := range ranks {
			for at := range 15 {
				for _, labels := range [][]api.Label{nil, of("a", "x"), of("a", "y")} {
					if Hits(l, labels, at, rank) != Hits(left, labels, at, rank) {
						t.Fatalf("Prune(%v, %v) = %v: %v at %d of rank %d", l, ranks, left, labels, at, rank)
					}
				}
			}
		}
	}
}

func TestP14_5ThereAndBack(t *testing.T) {
	r := rand.New(rand.NewSource(145))
	all := rightBoth()
	for range 2000 {
		all = append(all, someBoth(r))
	}
	for _, x := range all {
		b, e := Encode(x.l, x.ledger)
		if l, ledger, f := Decode(b); e != api.OK || f != api.OK || !sameDeletes(l, x.l) || !slices.Equal(ledger, x.ledger) {
			t.Fatalf("Decode(%.80x) = %s, %s, %d, not %s", b, brief(l), brief(ledger), int(f), brief(x))
		}
	}
}

func TestArgumentsAreLeftAsTheyAre(t *testing.T) {
	given := func() both {
		x := both{deletes(6), spots(6)}
		x.l[2].Matchers = greatestMatchers()[:3]
		return x
	}
	x, twin := given(), given()
	ranks, labels := []int{5, 3, 4, 0}, of("a", "x", "b", "y")
	for n := range 7 {
		Can(x.l[:n])
		Hits(x.l[:n], labels[:1], 0, 3)
		Encode(x.l[:n], x.ledger[:n])
		Prune(x.l[:n], ranks[:min(n, 3)])
	}
	room := x.l[2].Matchers
	if !sameDeletes(x.l, twin.l) || !slices.Equal(x.ledger, twin.ledger) || !slices.Equal(room[:cap(room)], greatestMatchers()) || !slices.Equal(ranks, []int{5, 3, 4, 0}) || !slices.Equal(labels, of("a", "x", "b", "y")) {
		t.Errorf("changed: %v", x)
	}
	b := append(plainBytes(x), 7, 8, 9)
	whole := bytes.Clone(b)
	for n := range len(b) + 1 {
		Decode(b[:n])
	}
	if !bytes.Equal(b, whole) {
		t.Errorf("changed: % x", b)
	}
}

// wantApart writes over each list of an answer, the room behind it too, and looks whether the others have changed.
func wantApart(t *testing.T, l, twin []api.Delete) {
	t.Helper()
	for i := range l {
		if !sameDelete(l[i], twin[i]) {
			t.Errorf("two deletes share their matchers: %v", l[i])
		}
		clear(l[i].Matchers[:cap(l[i].Matchers)])
	}
	clear(l[:cap(l)])
}

func TestAnswersAreNewMemory(t *testing.T) {
	given := func() both {
		x := both{deletes(4), spots(4)}
		x.l[1].Matchers = greatestMatchers()
		x.l[2].Matchers = nil
		return x
	}
	x, twin := given(), given()
	b, _ := Encode(x.l, x.ledger)
	l, ledger, _ := Decode(b)
	clear(b[:cap(b)])
	if !slices.Equal(ledger, twin.ledger) {
		t.Error("Decode keeps its bytes")
	}
	clear(ledger[:cap(ledger)])
	wantApart(t, l, twin.l)
	wantApart(t, Prune(x.l, []int{0}), twin.l)
	if again, _ := Encode(x.l, x.ledger); !bytes.Equal(again, plainBytes(twin)) {
		t.Errorf("an answer shares memory: %v", x)
	}
}
