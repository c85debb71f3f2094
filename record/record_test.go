package record

import (
	"bytes"
	"encoding/binary"
	"fmt"
	"math"
	"math/rand"
	"reflect"
	"slices"
	"strings"
	"testing"

	"dryrot/api"
)

// of is labels by name, value, name, value ..
func of(words ...string) []api.Label {
	var l []api.Label
	for i := 0; i < len(words); i += 2 {
		l = append(l, api.Label{Name: words[i], Value: words[i+1]})
	}
	return l
}

func row(t int, v uint64, words ...string) api.Row { return api.Row{Labels: of(words...), T: t, V: v} }

func appendOf(rows ...api.Row) api.Op { return api.Op{Kind: api.OpAppend, Rows: rows} }

func deleteOf(from, to int, l ...api.Matcher) api.Op {
	return api.Op{Kind: api.OpDelete, Matchers: l, From: from, To: to}
}

func keepOf(n int) api.Op { return api.Op{Kind: api.OpKeep, Keep: n} }

func rows(n int) []api.Row {
	var l []api.Row
	for i := range n {
		l = append(l, row(-i, uint64(i), "a", fmt.Sprint(i)))
	}
	return l
}

// greatestLabels is labels of as many bytes as may be.
func greatestLabels() []api.Label {
	var l []api.Label
	for i := range 8 {
		l = append(l, api.Label{Name: strings.Repeat("n", 23) + fmt.Sprint(i), Value: strings.Repeat("v", 40)})
	}
	return l
}

// greatestMatchers is matchers of as many bytes as may be.
func greatestMatchers() []api.Matcher {
	return slices.Repeat([]api.Matcher{{Kind: api.NotLike, Name: strings.Repeat("n", 24), Value: strings.Repeat("p", 60)}}, 6)
}

func greatestAppend() api.Op {
	return appendOf(slices.Repeat([]api.Row{{Labels: greatestLabels(), T: math.MinInt, V: math.MaxUint64}}, 200)...)
}

// numbers is edges of what 64 bits hold.
var numbers = []int{0, 1, -1, 7, -7, 255, 256, -256, 1<<62 - 1, 1 << 62, 1<<62 + 1, -1 << 62, math.MaxInt, math.MinInt}

// rightOps is operations that may be, the edges among them.
func rightOps() []api.Op {
	l := []api.Op{
		appendOf(row(0, 0, "a", "x")), appendOf(row(-1, 5, "a", "x"), row(-1, 5, "a", "x")), appendOf(rows(200)...), greatestAppend(),
		deleteOf(0, 0), deleteOf(5, -5), deleteOf(1, 2, greatestMatchers()...), deleteOf(3, 4, api.Matcher{Kind: api.Is, Name: "a"}, api.Matcher{Kind: api.Like, Name: "b", Value: "y.*"}),
		keepOf(0), keepOf(1), keepOf(7), keepOf(1<<62 - 1), keepOf(1 << 62),
	}
	for _, n := range numbers {
		l = append(l, appendOf(row(n, uint64(n), "a", "日", "b", `"`)), deleteOf(n, -n), deleteOf(-n, n, api.Matcher{Kind: api.Not, Name: "a", Value: "x"}))
	}
	return l
}

// wrongOps is operations that may not be.
func wrongOps() []api.Op {
	l := []api.Op{
		{}, appendOf(), {Kind: api.OpAppend, Rows: []api.Row{}}, appendOf(rows(201)...), appendOf(rows(256)...), appendOf(rows(1<<16 + 1)...), appendOf(api.Row{}), appendOf(make([]api.Row, 300)...),
		appendOf(row(0, 0, "b", "x", "a", "x")), appendOf(row(0, 0, "a", "")), appendOf(row(0, 0, "1", "x")), appendOf(row(0, 0, "a", "\xff")), appendOf(row(0, 0, "a", strings.Repeat("v", 41))), appendOf(row(1, 2, "a", "x"), row(3, 4)), appendOf(row(1, 2), row(3, 4, "a", "x")), appendOf(append(rows(199), api.Row{})...),
		deleteOf(0, 1, api.Matcher{}), deleteOf(0, 1, api.Matcher{Kind: api.Like, Name: "a", Value: "("}), deleteOf(0, 1, api.Matcher{Kind: 5, Name: "a", Value: "x"}), deleteOf(0, 1, append(greatestMatchers(), greatestMatchers()...)...), deleteOf(0, 1, slices.Repeat([]api.Matcher{{Kind: api.Is, Name: "a"}}, 7)...),
		keepOf(-1), keepOf(1<<62 + 1), keepOf(math.MinInt), keepOf(math.MaxInt), keepOf(-7),
	}
	whole := api.Op{Rows: rows(2), Matchers: greatestMatchers(), From: 1, To: 2, Keep: 3}
	for _, kind := range []int{0, -1, 4, 5, 255, 256, 257, 258, 259, math.MaxInt, math.MinInt, 1<<32 + 1} {
		whole.Kind = kind
		l = append(l, whole)
	}
	return l
}

// brief is the beginning of an operation's words, since some have thousands of rows.
func brief(o api.Op) string { return fmt.Sprintf("%.120s", fmt.Sprintf("%+v", o)) }

// same holds operations against one another; nil and empty lists mean the same.
func same(a, b api.Op) bool {
	sameRow := func(x, y api.Row) bool { return x.T == y.T && x.V == y.V && slices.Equal(x.Labels, y.Labels) }
	return a.Kind == b.Kind && a.From == b.From && a.To == b.To && a.Keep == b.Keep && slices.Equal(a.Matchers, b.Matchers) && slices.EqualFunc(a.Rows, b.Rows, sameRow)
}

// plainBytes is an operation as bytes, whether it may be or not.
func plainBytes(o api.Op) []byte {
	word := binary.BigEndian.AppendUint64
	text := func(b []byte, s string) []byte { return append(append(b, byte(len(s))), s...) }
	b := []byte{byte(o.Kind)}
	switch o.Kind {
	case api.OpAppend:
		b = binary.BigEndian.AppendUint16(b, uint16(len(o.Rows)))
		for _, r := range o.Rows {
			b = append(b, byte(len(r.Labels)))
			for _, l := range r.Labels {
				b = text(text(b, l.Name), l.Value)
			}
			b = word(word(b, uint64(r.T)), r.V)
		}
	case api.OpDelete:
		b = append(b, byte(len(o.Matchers)))
		for _, m := range o.Matchers {
			b = text(text(append(b, byte(m.Kind)), m.Name), m.Value)
		}
		b = word(word(b, uint64(o.From)), uint64(o.To))
	case api.OpKeep:
		b = word(b, uint64(o.Keep))
	}
	return b
}

func TestP10_1Can(t *testing.T) {
	for _, o := range rightOps() {
		if !Can(o) {
			t.Errorf("Can(%s) = false", brief(o))
		}
	}
	for _, o := range wrongOps() {
		if Can(o) {
			t.Errorf("Can(%s) = true", brief(o))
		}
	}
}

func TestP10_1CanOfEachNumberOfRows(t *testing.T) {
	for n := range 300 {
		if Can(appendOf(rows(n)...)) != (n >= 1 && n <= 200) {
			t.Errorf("Can of %d rows = %v", n, n < 1 || n > 200)
		}
	}
}

func TestP10_1ExampleOfTheChapter(t *testing.T) {
	if b, e := Encode(keepOf(7)); !bytes.Equal(b, []byte{3, 0, 0, 0, 0, 0, 0, 0, 7}) || e != api.OK {
		t.Errorf("Encode = % x, %d", b, int(e))
	}
}

func TestP10_1BytesWrittenOut(t *testing.T) {
	for _, c := range []struct {
		o    api.Op
		want []byte
	}{
		{appendOf(row(-1, 5, "a", "x"), row(258, math.MaxUint64, "b", "日")), []byte{1, 0, 2, 1, 1, 'a', 1, 'x', 255, 255, 255, 255, 255, 255, 255, 255, 0, 0, 0, 0, 0, 0, 0, 5, 1, 1, 'b', 3, 0xe6, 0x97, 0xa5, 0, 0, 0, 0, 0, 0, 1, 2, 255, 255, 255, 255, 255, 255, 255, 255}},
		{deleteOf(-2, 3), []byte{2, 0, 255, 255, 255, 255, 255, 255, 255, 254, 0, 0, 0, 0, 0, 0, 0, 3}},
		{deleteOf(1, -1, api.Matcher{Kind: api.NotLike, Name: "a", Value: "."}), []byte{2, 1, 4, 1, 'a', 1, '.', 0, 0, 0, 0, 0, 0, 0, 1, 255, 255, 255, 255, 255, 255, 255, 255}},
		{keepOf(1 << 62), []byte{3, 64, 0, 0, 0, 0, 0, 0, 0}},
		{keepOf(0), []byte{3, 0, 0, 0, 0, 0, 0, 0, 0}},
	} {
		if b, e := Encode(c.o); !bytes.Equal(b, c.want) || e != api.OK {
			t.Errorf("Encode(%s) = % x, %d", brief(c.o), b, int(e))
		}
	}
}

func TestP10_1EncodeOfWhatMayBe(t *testing.T) {
	for _, o := range rightOps() {
		if b, e := Encode(o); !bytes.Equal(b, plainBytes(o)) || e != api.OK {
			t.Errorf("Encode(%s) = %.80x, %d", brief(o), b, int(e))
		}
	}
	if b, _ := Encode(greatestAppend()); len(b) != 3+200*(1+8*66+16) {
		t.Errorf("the greatest has %d bytes", len(b))
	}
}

func TestP10_1EncodeOfWhatMayNotBe(t *testing.T) {
	for _, o := range wrongOps() {
		if b, e := Encode(o); len(b) != 0 || e != api.ErrArg {
			t.Errorf("Encode(%s) = %.80x, %d", brief(o), b, int(e))
		}
	}
}

// withOthers is an operation with other fields of any kind, which play no part.
func withOthers(o api.Op, wrong bool) api.Op {
	other := api.Op{Kind: o.Kind, Rows: rows(3), Matchers: greatestMatchers(), From: -4, To: 5, Keep: 6}
	if wrong {
		other = api.Op{Kind: o.Kind, Rows: make([]api.Row, 300), Matchers: make([]api.Matcher, 9), From: 5, To: -4, Keep: -6}
	}
	switch o.Kind {
	case api.OpAppend:
		other.Rows = o.Rows
	case api.OpDelete:
		other.Matchers, other.From, other.To = o.Matchers, o.From, o.To
	case api.OpKeep:
		other.Keep = o.Keep
	}
	return other
}

func TestP10_1OtherFieldsPlayNoPart(t *testing.T) {
	for _, o := range rightOps() {
		for _, wrong := range []bool{false, true} {
			other := withOthers(o, wrong)
			b, e := Encode(other)
			if !Can(other) || e != api.OK || !bytes.Equal(b, plainBytes(o)) {
				t.Errorf("Encode(%s) = %.80x, %d", brief(other), b, int(e))
			}
		}
	}
	for _, o := range wrongOps() {
		if Can(withOthers(o, false)) {
			t.Errorf("Can(%s) = true", brief(withOthers(o, false)))
		}
	}
}

func wantNoOp(t *testing.T, b []byte) {
	t.Helper()
	if o, e := Decode(b); !reflect.DeepEqual(o, api.Op{}) || e != api.ErrForm {
		t.Errorf("Decode(%.80x) = %s, %d", b, brief(o), int(e))
	}
}

func TestP10_2DecodeOfTooFew(t *testing.T) {
	wantNoOp(t, nil)
	wantNoOp(t, []byte{})
	for _, o := range rightOps() {
		b := plainBytes(o)
		for n := 0; n < len(b); n += 1 + len(b)/1000 {
			wantNoOp(t, b[:n])
		}
		wantNoOp(t, b[:len(b)-1])
	}
}

func TestP10_2DecodeOfTooMany(t *testing.T) {
	for _, o := range rightOps() {
		b := plainBytes(o)
		for _, more := range [][]byte{{0}, {255}, b, make([]byte, 600), make([]byte, 8)} {
			wantNoOp(t, slices.Concat(b, more))
		}
	}
}

func TestP10_2DecodeOfWhatMayNotBe(t *testing.T) {
	for _, o := range wrongOps() {
		if o.Kind >= 0 && o.Kind < 256 && len(o.Rows) < 1<<16 {
			wantNoOp(t, plainBytes(o))
		}
	}
	for kind := range 256 {
		if kind == 0 || kind > 3 {
			wantNoOp(t, []byte{byte(kind)})
			wantNoOp(t, []byte{byte(kind), 0, 0, 0, 0, 0, 0, 0, 7})
		}
	}
	wrong := greatestMatchers()
	wrong[5].Kind = 9
	wantNoOp(t, plainBytes(deleteOf(1, 2, wrong...)))
	wantNoOp(t, []byte{1, 0, 0})
	wantNoOp(t, []byte{1, 255, 255})
	wantNoOp(t, append([]byte{2, 255}, make([]byte, 16)...))
	wantNoOp(t, []byte{3, 128, 0, 0, 0, 0, 0, 0, 0})
	wantNoOp(t, []byte{3, 64, 0, 0, 0, 0, 0, 0, 1})
	wantNoOp(t, []byte{3, 255, 255, 255, 255, 255, 255, 255, 255})
}

// Bytes that are long beyond measure are refused without copying them again for each row.
func TestP10_2DecodeOfLongBytes(t *testing.T) {
	b := append(plainBytes(appendOf(rows(200)...)), make([]byte, 1<<26)...)
	wantNoOp(t, b)
	for kind := range 5 {
		b[0] = byte(kind)
		wantNoOp(t, b)
	}
	b = slices.Repeat(plainBytes(appendOf(row(1, 2, "a", "x")))[3:], 1<<16)
	wantNoOp(t, append([]byte{1, 255, 255}, b...))
}

// What Decode takes is the bytes of what it answers, whatever byte is turned, missing or doubled.
func TestP10_2DecodeOfTurnedBytes(t *testing.T) {
	r := rand.New(rand.NewSource(102))
	for range 2000 {
		b := plainBytes(someOp(r))
		for range 50 {
			at, twin := r.Intn(min(len(b), 40+r.Intn(len(b)))), bytes.Clone(b)
			switch r.Intn(3) {
			case 0:
				twin[at] = byte(r.Intn(256))
			case 1:
				twin = slices.Delete(twin, at, at+1)
			case 2:
				twin = slices.Insert(twin, at, byte(r.Intn(4)))
			}
			o, e := Decode(twin)
			if e == api.ErrForm && reflect.DeepEqual(o, api.Op{}) {
				continue
			}
			if again, f := Encode(o); e != api.OK || f != api.OK || !bytes.Equal(again, twin) {
				t.Fatalf("Decode(%.200x) = %s, %d", twin, brief(o), int(e))
			}
		}
	}
}

// someOp is an operation that may be, with nothing in its other fields.
func someOp(r *rand.Rand) api.Op {
	number := func() int {
		if r.Intn(2) == 0 {
			return numbers[r.Intn(len(numbers))]
		}
		return int(r.Uint64())
	}
	switch r.Intn(3) {
	case 0:
		var l []api.Row
		for range 1 + r.Intn(1+r.Intn(200)) {
			labels := greatestLabels()[r.Intn(8):]
			labels[0].Value = []string{"x", "日", `"`, "\u0080"}[r.Intn(4)]
			l = append(l, api.Row{Labels: labels, T: number(), V: r.Uint64()})
		}
		return appendOf(l...)
	case 1:
		var l []api.Matcher
		for range r.Intn(7) {
			l = append(l, api.Matcher{Kind: 1 + r.Intn(4), Name: []string{"a", "b_9", "__"}[r.Intn(3)], Value: []string{"", "x", "y.*", "[a-c]", "日"}[r.Intn(5)]})
		}
		return deleteOf(number(), number(), l...)
	}
	return keepOf(int(r.Uint64() >> (2 + r.Intn(62))))
}

func TestP10_3ThereAndBack(t *testing.T) {
	r := rand.New(rand.NewSource(103))
	ops := rightOps()
	for range 2000 {
		ops = append(ops, someOp(r))
	}
	for _, o := range ops {
		for _, given := range []api.Op{o, withOthers(o, true)} {
			b, e := Encode(given)
			if back, f := Decode(b); e != api.OK || f != api.OK || !same(back, o) {
				t.Fatalf("Decode(%.80x) = %s, %d, not %s", b, brief(back), int(f), brief(o))
			}
		}
	}
}

func TestArgumentsAreLeftAsTheyAre(t *testing.T) {
	room, matchers := rows(5), greatestMatchers()
	o := api.Op{Kind: api.OpAppend, Rows: room[:2], Matchers: matchers[:3]}
	for _, o.Kind = range []int{1, 2, 3} {
		Can(o)
		Encode(o)
	}
	if !reflect.DeepEqual(room, rows(5)) || !slices.Equal(matchers, greatestMatchers()) {
		t.Errorf("changed: %v, %v", room, matchers)
	}
	for _, o := range rightOps() {
		b := append(plainBytes(o), 7, 8, 9)
		whole := bytes.Clone(b)
		Decode(b[:len(b)-3])
		Decode(b[:len(b)/2])
		Decode(b)
		if !bytes.Equal(b, whole) {
			t.Errorf("changed: %.80x", b)
		}
	}
}

func TestAnswersAreNewMemory(t *testing.T) {
	for _, o := range []api.Op{appendOf(row(1, 2, "a", "x", "b", "y"), row(3, 4, "a", "x")), deleteOf(1, 2, greatestMatchers()...), keepOf(7)} {
		b, _ := Encode(o)
		back, _ := Decode(b)
		clear(b[:cap(b)])
		if !same(back, o) {
			t.Errorf("Decode keeps its bytes: %s", brief(back))
		}
		for i := range back.Rows {
			l := back.Rows[i].Labels
			clear(l[:cap(l)])
			if i+1 < len(back.Rows) && !slices.Equal(back.Rows[i+1].Labels, o.Rows[i+1].Labels) {
				t.Error("two rows share their labels")
			}
		}
		clear(back.Matchers[:cap(back.Matchers)])
		again, _ := Encode(o)
		if !bytes.Equal(again, plainBytes(o)) {
			t.Errorf("two answers share memory: %.80x", again)
		}
	}
}
