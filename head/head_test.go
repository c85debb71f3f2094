package head

import (
	"cmp"
	"fmt"
	"maps"
	"math"
	"math/rand"
	"slices"
	"strings"
	"testing"

	"dryrot/api"
	"dryrot/labels"
	"dryrot/match"
)

// of is labels by name, value, name, value ..
func of(words ...string) []api.Label {
	var l []api.Label
	for i := 0; i < len(words); i += 2 {
		l = append(l, api.Label{Name: words[i], Value: words[i+1]})
	}
	return l
}

func one(kind int, name, value string) api.Matcher {
	return api.Matcher{Kind: kind, Name: name, Value: value}
}

func row(l []api.Label, t int, v uint64) api.Row { return api.Row{Labels: l, T: t, V: v} }

// series is labels with samples by time, value, time, value ..
func series(l []api.Label, numbers ...int) api.Series {
	s := api.Series{Labels: l}
	for i := 0; i < len(numbers); i += 2 {
		s.Samples = append(s.Samples, api.Sample{T: numbers[i], V: uint64(numbers[i+1])})
	}
	return s
}

func list(l ...api.Series) []api.Series { return l }

func sameSeries(a, b api.Series) bool {
	return slices.Equal(a.Labels, b.Labels) && slices.Equal(a.Samples, b.Samples)
}

func same(a, b []api.Series) bool { return slices.EqualFunc(a, b, sameSeries) }

// deep is a twin of series that shares no memory with them.
func deep(l []api.Series) []api.Series {
	var twin []api.Series
	for _, s := range l {
		twin = append(twin, api.Series{Labels: slices.Clone(s.Labels), Samples: slices.Clone(s.Samples)})
	}
	return twin
}

// brief is the beginning of a thing's words, since some are long.
func brief(x any) string { return fmt.Sprintf("%.300s", fmt.Sprintf("%+v", x)) }

// filled is a head with rows.
func filled(t *testing.T, l ...api.Row) *Head {
	t.Helper()
	h := New()
	if e := h.Append(l); e != api.OK {
		t.Fatalf("Append(%s) = %d", brief(l), int(e))
	}
	return h
}

func wantAll(t *testing.T, h *Head, want []api.Series) {
	t.Helper()
	if l := h.All(); !same(l, want) {
		t.Fatalf("All = %s, not %s", brief(l), brief(want))
	}
	count := 0
	for _, s := range want {
		count += len(s.Samples)
	}
	if h.Samples() != count {
		t.Fatalf("Samples = %d, not %d", h.Samples(), count)
	}
}

// times is edges of what 64 bits hold, rising.
var times = []int{math.MinInt, math.MinInt + 1, -7, -1, 0, 1, 7, math.MaxInt - 1, math.MaxInt}

// wrongLabels is labels that may not be.
func wrongLabels() [][]api.Label {
	nine := make([]string, 0, 18)
	for i := range 9 {
		nine = append(nine, fmt.Sprintf("n%d", i), "v")
	}
	return [][]api.Label{nil, {}, {{}}, of("a", ""), of("", "x"), of("1", "x"), of("b", "x", "a", "x"), of("a", "x", "a", "x"), of("a", "\xff"), of("a", "\n"), of("a", strings.Repeat("v", 41)), of(strings.Repeat("n", 25), "x"), of(nine...)}
}

// wrongMatchers is matchers that may not be.
func wrongMatchers() [][]api.Matcher {
	return [][]api.Matcher{{{}}, {one(0, "a", "x")}, {one(5, "a", "x")}, {one(api.Is, "", "x")}, {one(api.Is, "1", "x")}, {one(api.Not, "a", "\n")}, {one(api.Like, "a", "(")}, {one(api.NotLike, "a", "[")}, {one(api.Is, "a", "x"), one(api.NotLike, "a", "(")}, slices.Repeat([]api.Matcher{one(api.Is, "a", "x")}, 7)}
}

// plain is a head as the chapter says it, without thought of time or room.
type plain struct{ rows []api.Row }

func (p *plain) append(l []api.Row) {
	for _, x := range l {
		p.drop(func(y api.Row) bool { return labels.Compare(x.Labels, y.Labels) == 0 && x.T == y.T })
		p.rows = append(p.rows, x)
	}
}

func (p *plain) drop(gone func(api.Row) bool) { p.rows = slices.DeleteFunc(p.rows, gone) }

func (p *plain) choose(m []api.Matcher, from, to int) []api.Series {
	byText := map[string]api.Series{}
	for _, x := range p.rows {
		if x.T < from || x.T > to || !match.All(m, x.Labels) {
			continue
		}
		s := byText[fmt.Sprintf("%q", x.Labels)]
		s.Labels, s.Samples = x.Labels, append(s.Samples, api.Sample{T: x.T, V: x.V})
		byText[fmt.Sprintf("%q", x.Labels)] = s
	}
	chosen := slices.Collect(maps.Values(byText))
	for _, s := range chosen {
		slices.SortFunc(s.Samples, func(a, b api.Sample) int { return cmp.Compare(a.T, b.T) })
	}
	slices.SortFunc(chosen, func(a, b api.Series) int { return labels.Compare(a.Labels, b.Labels) })
	return chosen
}

func (p *plain) all() []api.Series { return p.choose(nil, math.MinInt, math.MaxInt) }

func someLabels(r *rand.Rand) []api.Label {
	var l []api.Label
	for _, name := range []string{"a", "b", "c_9"} {
		if r.Intn(2) == 0 {
			l = append(l, api.Label{Name: name, Value: []string{"x", "y", "xy", "日"}[r.Intn(4)]})
		}
	}
	if len(l) == 0 {
		return of("a", "x")
	}
	return l
}

func someTime(r *rand.Rand) int {
	if r.Intn(5) == 0 {
		return times[r.Intn(len(times))]
	}
	return r.Intn(40) - 20
}

func someRows(r *rand.Rand) []api.Row {
	var l []api.Row
	for range r.Intn(12) {
		l = append(l, row(someLabels(r), someTime(r), uint64(r.Intn(1000))))
	}
	return l
}

func someMatchers(r *rand.Rand) []api.Matcher {
	var m []api.Matcher
	for range r.Intn(3) {
		m = append(m, one(1+r.Intn(4), []string{"a", "b", "c_9", "d"}[r.Intn(4)], []string{"", "x", "y", "x.*", "x|y", "日"}[r.Intn(6)]))
	}
	return m
}

func TestP15_1ANewHeadIsEmpty(t *testing.T) {
	wantAll(t, New(), nil)
}

func TestP15_1ExampleOfTheChapter(t *testing.T) {
	x := of("a", "x")
	wantAll(t, filled(t, row(x, 5, 1), row(x, 5, 2)), list(series(x, 5, 2)))
}

func TestP15_1AppendInOrder(t *testing.T) {
	x, y := of("a", "x"), of("a", "y")
	h := filled(t, row(y, 5, 1), row(x, 7, 2), row(y, 5, 3), row(y, 2, 4), row(x, 7, 2))
	wantAll(t, h, list(series(x, 7, 2), series(y, 2, 4, 5, 3)))
	h.Append([]api.Row{row(x, 8, 5), row(y, 2, 6), row(y, 3, 7), row(y, 9, 8), row(y, 2, 9)})
	wantAll(t, h, list(series(x, 7, 2, 8, 5), series(y, 2, 9, 3, 7, 5, 3, 9, 8)))
	h.Append([]api.Row{row(y, 4, 1), row(y, 1, 1), row(y, 9, 0)})
	wantAll(t, h, list(series(x, 7, 2, 8, 5), series(y, 1, 1, 2, 9, 3, 7, 4, 1, 5, 3, 9, 0)))
}

func TestP15_1AppendOfNothing(t *testing.T) {
	h := filled(t, row(of("a", "x"), 5, 1))
	if h.Append(nil) != api.OK || h.Append([]api.Row{}) != api.OK {
		t.Error("Append of nothing")
	}
	wantAll(t, h, list(series(of("a", "x"), 5, 1)))
}

func TestP15_1AppendOfAllTimesAndValues(t *testing.T) {
	x := of("a", "x")
	h, want := New(), api.Series{Labels: x}
	for i := range times {
		at := times[len(times)-1-i]
		h.Append([]api.Row{row(x, at, 1), row(x, at, math.MaxUint64-uint64(i))})
		want.Samples = slices.Insert(want.Samples, 0, api.Sample{T: at, V: math.MaxUint64 - uint64(i)})
		wantAll(t, h, list(want))
	}
}

// Labels that are the same but for where one ends and the next begins are others.
func TestP15_1SeriesAreLabelByLabel(t *testing.T) {
	lists := [][]api.Label{of("a", "x"), of("a", "x", "b", "y"), of("a", `x",b="y`), of("a", "x", "by", "y"), of("a", "xb", "y", "y"), of("a", "x=b"), of("ab", "x"), of("a", "bx"), of("b", "x")}
	var l []api.Row
	for i, key := range lists {
		l = append(l, row(key, 5, uint64(i)))
	}
	h := filled(t, l...)
	if len(h.All()) != len(lists) || h.Samples() != len(lists) {
		t.Fatalf("All = %s", brief(h.All()))
	}
	for i, key := range lists {
		for _, s := range h.All() {
			if slices.Equal(s.Labels, key) && s.Samples[0].V != uint64(i) {
				t.Errorf("%v has %v", key, s.Samples)
			}
		}
	}
}

func TestP15_1AppendOfWhatMayNotBe(t *testing.T) {
	x := of("a", "x")
	for _, wrong := range wrongLabels() {
		for _, l := range [][]api.Row{{row(wrong, 1, 1)}, {row(x, 5, 9), row(wrong, 1, 1)}, {row(wrong, 1, 1), row(x, 5, 9)}, {row(x, 6, 9), row(wrong, 1, 1), row(of("b", "y"), 5, 9)}} {
			h := filled(t, row(x, 5, 1))
			if e := h.Append(l); e != api.ErrArg {
				t.Errorf("Append(%s) = %d", brief(l), int(e))
			}
			wantAll(t, h, list(series(x, 5, 1)))
		}
	}
}

func TestP15_1AppendOfTheGreatestLabels(t *testing.T) {
	var greatest []api.Label
	for i := range 8 {
		greatest = append(greatest, api.Label{Name: strings.Repeat("n", 23) + fmt.Sprint(i), Value: strings.Repeat("v", 40)})
	}
	wantAll(t, filled(t, row(greatest, 1, 1)), list(series(greatest, 1, 1)))
}

func TestP15_1DeleteByTimes(t *testing.T) {
	x := of("a", "x")
	for _, from := range times {
		for _, to := range times {
			h, want := New(), api.Series{Labels: x}
			for _, at := range times {
				h.Append([]api.Row{row(x, at, 3)})
				if at < from || at > to {
					want.Samples = append(want.Samples, api.Sample{T: at, V: 3})
				}
			}
			if e := h.Delete(nil, from, to); e != api.OK {
				t.Fatalf("Delete from %d to %d = %d", from, to, int(e))
			}
			if len(want.Samples) == 0 {
				wantAll(t, h, nil)
			} else {
				wantAll(t, h, list(want))
			}
		}
	}
}

func TestP15_1DeleteByMatchers(t *testing.T) {
	x, y, xy := of("a", "x"), of("a", "y"), of("a", "x", "b", "y")
	for _, c := range []struct {
		m    []api.Matcher
		left []api.Series
	}{
		{nil, list(series(x, 9, 2), series(xy, 9, 6), series(y, 9, 4))},
		{[]api.Matcher{one(api.Is, "a", "x")}, list(series(x, 9, 2), series(xy, 9, 6), series(y, 5, 3, 9, 4))},
		{[]api.Matcher{one(api.Not, "a", "x")}, list(series(x, 5, 1, 9, 2), series(xy, 5, 5, 9, 6), series(y, 9, 4))},
		{[]api.Matcher{one(api.Like, "b", "y|z")}, list(series(x, 5, 1, 9, 2), series(xy, 9, 6), series(y, 5, 3, 9, 4))},
		{[]api.Matcher{one(api.NotLike, "b", ".+")}, list(series(x, 9, 2), series(xy, 5, 5, 9, 6), series(y, 9, 4))},
		{[]api.Matcher{one(api.Is, "a", "x"), one(api.Is, "b", "")}, list(series(x, 9, 2), series(xy, 5, 5, 9, 6), series(y, 5, 3, 9, 4))},
		{[]api.Matcher{one(api.Is, "a", "x"), one(api.Is, "a", "y")}, list(series(x, 5, 1, 9, 2), series(xy, 5, 5, 9, 6), series(y, 5, 3, 9, 4))},
		{[]api.Matcher{one(api.Is, "c", "x")}, list(series(x, 5, 1, 9, 2), series(xy, 5, 5, 9, 6), series(y, 5, 3, 9, 4))},
	} {
		h := filled(t, row(x, 5, 1), row(x, 9, 2), row(y, 5, 3), row(y, 9, 4), row(xy, 5, 5), row(xy, 9, 6))
		if e := h.Delete(c.m, 0, 8); e != api.OK {
			t.Errorf("Delete(%v) = %d", c.m, int(e))
		}
		wantAll(t, h, c.left)
	}
}

func TestP15_1DeleteOfWhatMayNotBe(t *testing.T) {
	x := of("a", "x")
	h := filled(t, row(x, 5, 1))
	for _, m := range wrongMatchers() {
		if e := h.Delete(m, math.MinInt, math.MaxInt); e != api.ErrArg {
			t.Errorf("Delete(%v) = %d", m, int(e))
		}
		if e := h.Delete(m, 5, 4); e != api.ErrArg {
			t.Errorf("Delete(%v) of no times = %d", m, int(e))
		}
		if e := New().Delete(m, 0, 9); e != api.ErrArg {
			t.Errorf("Delete(%v) of an empty head = %d", m, int(e))
		}
	}
	wantAll(t, h, list(series(x, 5, 1)))
}

func TestP15_1RowsBehindADeleteStay(t *testing.T) {
	x := of("a", "x")
	h := filled(t, row(x, 5, 1), row(x, 6, 1))
	h.Delete(nil, 0, 9)
	wantAll(t, h, nil)
	h.Append([]api.Row{row(x, 5, 2)})
	wantAll(t, h, list(series(x, 5, 2)))
}

func TestP15_1Raise(t *testing.T) {
	x, y := of("a", "x"), of("a", "y")
	for _, floor := range times {
		h, left := New(), api.Series{Labels: x}
		for _, at := range times {
			h.Append([]api.Row{row(x, at, 3)})
			if at >= floor {
				left.Samples = append(left.Samples, api.Sample{T: at, V: 3})
			}
		}
		h.Append([]api.Row{row(y, math.MaxInt, 4)})
		if e := h.Raise(floor); e != api.OK {
			t.Fatalf("Raise(%d) = %d", floor, int(e))
		}
		wantAll(t, h, list(left, series(y, math.MaxInt, 4)))
	}
}

func TestP15_1WhatComesLaterMayStandBelowTheFloor(t *testing.T) {
	x := of("a", "x")
	h := filled(t, row(x, 5, 1), row(x, 20, 1))
	h.Raise(10)
	h.Append([]api.Row{row(x, 5, 2), row(x, 9, 3)})
	wantAll(t, h, list(series(x, 5, 2, 9, 3, 20, 1)))
	h.Raise(6)
	wantAll(t, h, list(series(x, 9, 3, 20, 1)))
	h.Raise(-6)
	wantAll(t, h, list(series(x, 9, 3, 20, 1)))
	h.Raise(21)
	wantAll(t, h, nil)
}

func wantSelect(t *testing.T, h *Head, m []api.Matcher, from, to int, want []api.Series) {
	t.Helper()
	if l := h.Select(m, from, to); !same(l, want) {
		t.Errorf("Select(%v, %d, %d) = %s, not %s", m, from, to, brief(l), brief(want))
	}
}

func TestP15_2SelectByTimes(t *testing.T) {
	x := of("a", "x")
	h := New()
	for _, at := range times {
		h.Append([]api.Row{row(x, at, 3)})
	}
	for _, from := range times {
		for _, to := range times {
			s := api.Series{Labels: x}
			for _, at := range times {
				if at >= from && at <= to {
					s.Samples = append(s.Samples, api.Sample{T: at, V: 3})
				}
			}
			if len(s.Samples) == 0 {
				wantSelect(t, h, nil, from, to, nil)
			} else {
				wantSelect(t, h, nil, from, to, list(s))
			}
		}
	}
}

func TestP15_2SelectByMatchers(t *testing.T) {
	x, y, xy, b := of("a", "x"), of("a", "y"), of("a", "x", "b", "y"), of("b", "y")
	h := filled(t, row(b, 5, 1), row(y, 5, 2), row(xy, 5, 3), row(x, 5, 4), row(x, 50, 5))
	sx, sy, sxy, sb := series(x, 5, 4), series(y, 5, 2), series(xy, 5, 3), series(b, 5, 1)
	for _, c := range []struct {
		m    []api.Matcher
		want []api.Series
	}{
		{nil, list(sx, sxy, sy, sb)}, {[]api.Matcher{}, list(sx, sxy, sy, sb)}, {[]api.Matcher{one(api.Is, "a", "x")}, list(sx, sxy)}, {[]api.Matcher{one(api.Is, "a", "")}, list(sb)}, {[]api.Matcher{one(api.Not, "a", "x")}, list(sy, sb)}, {[]api.Matcher{one(api.Not, "b", "")}, list(sxy, sb)},
		{[]api.Matcher{one(api.Like, "a", "x|y")}, list(sx, sxy, sy)}, {[]api.Matcher{one(api.NotLike, "a", "x?")}, list(sy)}, {[]api.Matcher{one(api.Like, "c", "")}, list(sx, sxy, sy, sb)}, {[]api.Matcher{one(api.Is, "a", "x"), one(api.Is, "b", "y")}, list(sxy)}, {[]api.Matcher{one(api.Is, "a", "z")}, nil}, {slices.Repeat([]api.Matcher{one(api.Is, "a", "y")}, 6), list(sy)},
	} {
		wantSelect(t, h, c.m, 0, 9, c.want)
	}
}

func TestP15_2SelectTellsNoneWithoutASample(t *testing.T) {
	x, y := of("a", "x"), of("a", "y")
	h := filled(t, row(x, 5, 1), row(y, 9, 2), row(y, 20, 3))
	wantSelect(t, h, nil, 6, 8, nil)
	wantSelect(t, h, nil, 6, 9, list(series(y, 9, 2)))
	wantSelect(t, h, nil, 10, 19, nil)
	wantSelect(t, h, nil, 9, 5, nil)
	h.Delete([]api.Matcher{one(api.Is, "a", "x")}, 5, 5)
	wantAll(t, h, list(series(y, 9, 2, 20, 3)))
	wantSelect(t, New(), nil, math.MinInt, math.MaxInt, nil)
}

func TestP15_2SelectOfWhatMayNotBe(t *testing.T) {
	h := filled(t, row(of("a", "x"), 5, 1))
	for _, m := range wrongMatchers() {
		wantSelect(t, h, m, math.MinInt, math.MaxInt, nil)
	}
}

func TestP15_2SamplesCountsEachOnce(t *testing.T) {
	x, y := of("a", "x"), of("a", "y")
	h := New()
	for i, c := range []struct {
		do   func() api.Errno
		want int
	}{
		{func() api.Errno { return h.Append(nil) }, 0},
		{func() api.Errno { return h.Append([]api.Row{row(x, 1, 1), row(x, 1, 2), row(y, 1, 1), row(x, 2, 1)}) }, 3},
		{func() api.Errno { return h.Append([]api.Row{row(x, 1, 9)}) }, 3},
		{func() api.Errno { return h.Append([]api.Row{row(x, 0, 9), row(nil, 0, 0)}) }, 3},
		{func() api.Errno { return h.Append([]api.Row{row(x, 0, 9)}) }, 4},
		{func() api.Errno { return h.Raise(1) }, 3},
		{func() api.Errno { return h.Delete([]api.Matcher{one(api.Is, "a", "x")}, 1, 1) }, 2},
		{func() api.Errno { return h.Delete(nil, 0, 9) }, 0},
	} {
		if c.do(); h.Samples() != c.want {
			t.Errorf("step %d: Samples = %d, not %d", i, h.Samples(), c.want)
		}
	}
}

// Many calls, in any order, come to what the chapter says.
func TestP15_2ManyCallsAsTheChapterSays(t *testing.T) {
	r := rand.New(rand.NewSource(152))
	for range 150 {
		h, p := New(), &plain{}
		for range 40 {
			m, from, to := someMatchers(r), someTime(r), someTime(r)
			switch r.Intn(8) {
			default:
				l := someRows(r)
				h.Append(l)
				p.append(l)
			case 0:
				h.Delete(m, from, to)
				if match.Can(m) {
					p.drop(func(x api.Row) bool { return x.T >= from && x.T <= to && match.All(m, x.Labels) })
				}
			case 1:
				if r.Intn(3) == 0 {
					h.Raise(from)
					p.drop(func(x api.Row) bool { return x.T < from })
				}
			}
			wantAll(t, h, p.all())
			wantSelect(t, h, m, from, to, p.choose(m, from, to))
		}
	}
}

func TestP15_3MergeKnown(t *testing.T) {
	x, y, xy := of("a", "x"), of("a", "y"), of("a", "x", "b", "y")
	for _, c := range []struct{ a, b, want []api.Series }{
		{nil, nil, nil},
		{list(), list(), nil},
		{list(series(x, 1, 1)), nil, list(series(x, 1, 1))},
		{nil, list(series(x, 1, 1)), list(series(x, 1, 1))},
		{list(series(x, 5, 1)), list(series(x, 5, 2)), list(series(x, 5, 2))},
		{list(series(x, 5, 2)), list(series(x, 5, 1)), list(series(x, 5, 1))},
		{list(series(y, 1, 1)), list(series(x, 2, 2)), list(series(x, 2, 2), series(y, 1, 1))},
		{list(series(y, 1, 1), series(x, 2, 2)), nil, list(series(x, 2, 2), series(y, 1, 1))},
		{list(series(x, 1, 1, 3, 3)), list(series(x, 2, 2, 3, 4, 5, 5)), list(series(x, 1, 1, 2, 2, 3, 4, 5, 5))},
		{list(series(x, 7, 7)), list(series(x, 1, 1)), list(series(x, 1, 1, 7, 7))},
		{list(series(x, 3, 1, 1, 2, 3, 3, 2, 4, 1, 5)), nil, list(series(x, 1, 5, 2, 4, 3, 3))},
		{nil, list(series(x, 3, 1, 3, 2, 3, 3)), list(series(x, 3, 3))},
		{list(series(x, 1, 1), series(y, 1, 2), series(x, 1, 3, 0, 4)), list(series(x, 0, 5)), list(series(x, 0, 5, 1, 3), series(y, 1, 2))},
		{list(series(x)), list(series(y), series(xy)), nil},
		{list(series(x), series(x, 1, 1), series(x)), list(series(x)), list(series(x, 1, 1))},
		{list(series(xy, 1, 1)), list(series(x, 1, 2)), list(series(x, 1, 2), series(xy, 1, 1))},
		{list(series(x, math.MaxInt, 1)), list(series(x, math.MinInt, 2)), list(series(x, math.MinInt, 2, math.MaxInt, 1))},
	} {
		if l := Merge(c.a, c.b); !same(l, c.want) {
			t.Errorf("Merge(%v, %v) = %v, not %v", c.a, c.b, l, c.want)
		}
	}
}

// Labels that may not be, too, are the same label by label alone.
func TestP15_3MergeOfAnyLabels(t *testing.T) {
	ordered := [][]api.Label{nil, of("", ""), of("", "", "", ""), of("", "z"), of("A", "x"), of("a", ""), of("a", "", "a", ""), of("a", "", "b", ""), of("a", "x"), of("a", "x", "b", "y"), of("a", "x", "b", "y", "a", "x"), of("a", "xb", "y", ""), of("a", "\xff"), of("aa", ""), of("b", "x", "a", "x")}
	var a, b, want []api.Series
	for i, key := range ordered {
		a = append(a, series(key, 1, i, 3, i))
		b = append(b, series(slices.Clone(key), 1, -i-1, 2, i))
		want = append(want, series(key, 1, -i-1, 2, i, 3, i))
	}
	slices.Reverse(a)
	if l := Merge(a, b); !same(l, want) {
		t.Errorf("Merge = %v, not %v", l, want)
	}
	if l := Merge(list(series(nil, 1, 1)), list(series([]api.Label{}, 1, 2))); !same(l, list(series(nil, 1, 2))) {
		t.Errorf("Merge of no labels = %v", l)
	}
}

func someSeries(r *rand.Rand) []api.Series {
	var l []api.Series
	for range r.Intn(9) {
		s := api.Series{Labels: someLabels(r)}
		if r.Intn(6) == 0 {
			slices.Reverse(s.Labels)
		}
		for range r.Intn(9) {
			s.Samples = append(s.Samples, api.Sample{T: someTime(r) / 3, V: r.Uint64()})
		}
		l = append(l, s)
	}
	return l
}

func TestP15_3MergeOfAnyLists(t *testing.T) {
	r := rand.New(rand.NewSource(153))
	for range 5000 {
		a, b, p := someSeries(r), someSeries(r), &plain{}
		for _, s := range slices.Concat(a, b) {
			for _, x := range s.Samples {
				p.append([]api.Row{row(s.Labels, x.T, x.V)})
			}
		}
		if l := Merge(a, b); !same(l, p.all()) {
			t.Fatalf("Merge(%v, %v) = %v, not %v", a, b, l, p.all())
		}
	}
}

func TestP15_4MergeOfTwoHeadsIsAHeadOfBoth(t *testing.T) {
	r := rand.New(rand.NewSource(154))
	for range 2000 {
		x, y := slices.Concat(someRows(r), someRows(r)), slices.Concat(someRows(r), someRows(r))
		a, b, both := filled(t, x...), filled(t, y...), filled(t, slices.Concat(x, y)...)
		if l := Merge(a.All(), b.All()); !same(l, both.All()) {
			t.Fatalf("Merge(%v, %v) = %v, not %v", a.All(), b.All(), l, both.All())
		}
	}
}

func TestP15_5SelectOfAllIsAll(t *testing.T) {
	r := rand.New(rand.NewSource(155))
	for range 500 {
		h := filled(t, slices.Concat(someRows(r), someRows(r))...)
		wantSelect(t, h, nil, math.MinInt, math.MaxInt, h.All())
		wantSelect(t, h, []api.Matcher{}, math.MinInt, math.MaxInt, h.All())
	}
}

// Rows that fall, rows that rise, and many series, are not put in one by one at the cost of all others.
func TestP15_1AppendOfMany(t *testing.T) {
	const many = 200000
	x := of("a", "x")
	var falling, apart []api.Row
	want := api.Series{Labels: x}
	for i := range many {
		falling = append(falling, row(x, many-1-i, uint64(i)))
		want.Samples = append(want.Samples, api.Sample{T: i, V: uint64(many - 1 - i)})
		apart = append(apart, row(of("a", fmt.Sprintf("%06d", many-i)), 1, uint64(i)))
	}
	wantAll(t, filled(t, falling...), list(want))
	rising := New()
	for i := range many {
		rising.Append(falling[many-1-i : many-i])
	}
	wantAll(t, rising, list(want))
	l := filled(t, apart...).All()
	if len(l) != many || !slices.IsSortedFunc(l, func(a, b api.Series) int { return labels.Compare(a.Labels, b.Labels) }) {
		t.Errorf("%d series", len(l))
	}
}

func TestP15_3MergeOfMany(t *testing.T) {
	const many = 200000
	x := of("a", "x")
	var pieces []api.Series
	for i := range many {
		pieces = append(pieces, series(x, many/2-i/2, i))
	}
	l := Merge(pieces[:many/3], pieces[many/3:])
	if len(l) != 1 || len(l[0].Samples) != many/2 || l[0].Samples[0] != (api.Sample{T: 1, V: many - 1}) {
		t.Errorf("Merge = %s", brief(l))
	}
}

func TestNoCallMadeIt(t *testing.T) {
	x := []api.Row{row(of("a", "x"), 5, 1)}
	for _, h := range []*Head{nil, {}} {
		for _, e := range []api.Errno{h.Append(x), h.Append(nil), h.Append([]api.Row{{}}), h.Delete(nil, 0, 9), h.Delete(wrongMatchers()[0], 0, 9), h.Raise(5), h.Raise(math.MinInt)} {
			if e != api.ErrNil {
				t.Errorf("an error of %d", int(e))
			}
		}
		if len(h.Select(nil, 0, 9)) != 0 || len(h.All()) != 0 || h.Samples() != 0 {
			t.Error("one that no call made has something")
		}
	}
}

func TestHeadsStandAlone(t *testing.T) {
	x := of("a", "x")
	a, b := filled(t, row(x, 5, 1)), filled(t, row(x, 5, 2))
	a.Append([]api.Row{row(x, 6, 1)})
	b.Delete(nil, 5, 5)
	wantAll(t, a, list(series(x, 5, 1, 6, 1)))
	wantAll(t, b, nil)
}

// roomy is series whose lists all have spare room behind their ends, of things that must stay.
func roomy(l []api.Series) []api.Series {
	for i, s := range l {
		l[i].Labels = append(slices.Clone(s.Labels), of("z", "room", "z", "room")...)[:len(s.Labels)]
		l[i].Samples = append(slices.Clone(s.Samples), api.Sample{T: 99, V: 99}, api.Sample{T: 98, V: 98})[:len(s.Samples)]
	}
	return append(l, series(of("z", "room"), 99, 99))[:len(l)]
}

// whole is series with what stands behind the ends of their lists.
func whole(l []api.Series) []api.Series {
	var all []api.Series
	for _, s := range l[:cap(l)] {
		all = append(all, api.Series{Labels: s.Labels[:cap(s.Labels)], Samples: s.Samples[:cap(s.Samples)]})
	}
	return all
}

func TestArgumentsAreLeftAsTheyAre(t *testing.T) {
	r := rand.New(rand.NewSource(15))
	for range 300 {
		a, b := roomy(someSeries(r)), roomy(someSeries(r))
		twinA, twinB := deep(whole(a)), deep(whole(b))
		Merge(a, b)
		Merge(b, a)
		if !same(whole(a), twinA) || !same(whole(b), twinB) {
			t.Fatalf("Merge changed %v, %v", a, b)
		}
	}
	x, y := of("a", "x", "b", "y", "c", "z"), of("a", "y")
	rows := []api.Row{row(x[:2], 9, 1), row(y, 5, 2), row(x[:1], 9, 3), row(nil, 4, 4)}
	m := []api.Matcher{one(api.Not, "b", "x"), one(api.Is, "a", "x"), one(api.Is, "c", "z")}
	h := New()
	h.Append(rows[:3])
	h.Append(rows)
	h.Select(m[:2], 0, 9)
	h.Delete(m[:2], 0, 9)
	h.Select(m[:1], 0, 9)
	if !slices.Equal(x, of("a", "x", "b", "y", "c", "z")) || !slices.Equal(y, of("a", "y")) || !slices.Equal(m, []api.Matcher{one(api.Not, "b", "x"), one(api.Is, "a", "x"), one(api.Is, "c", "z")}) {
		t.Error("labels or matchers have changed")
	}
	for i, want := range []api.Row{row(x[:2], 9, 1), row(y, 5, 2), row(x[:1], 9, 3), row(nil, 4, 4)} {
		if rows[i].T != want.T || rows[i].V != want.V || !slices.Equal(rows[i].Labels, want.Labels) {
			t.Errorf("row %d is %v", i, rows[i])
		}
	}
}

func TestArgumentsAreNotKept(t *testing.T) {
	x := of("a", "x")
	rows := []api.Row{row(x, 5, 1), row(x, 6, 2)}
	h := filled(t, rows...)
	x[0].Value = "turned"
	clear(rows)
	wantAll(t, h, list(series(of("a", "x"), 5, 1, 6, 2)))
}

// scribble turns everything that series have, and what stands behind their ends.
func scribble(l []api.Series) {
	for _, s := range l {
		for i := range s.Labels[:cap(s.Labels)] {
			s.Labels[:cap(s.Labels)][i] = api.Label{Name: "scribble"}
		}
		for i := range s.Samples[:cap(s.Samples)] {
			s.Samples[:cap(s.Samples)][i] = api.Sample{T: 1234, V: 1234}
		}
	}
	clear(l[:cap(l)])
}

// wantApart scribbles on each series of an answer, and asks that the others stay.
func wantApart(t *testing.T, l []api.Series) {
	t.Helper()
	twin := deep(l)
	for i := range l {
		scribble([]api.Series{{Labels: l[i].Labels}})
		if !slices.Equal(l[i].Samples, twin[i].Samples) {
			t.Fatalf("labels and samples of %v share memory", twin[i])
		}
		scribble([]api.Series{{Samples: l[i].Samples}})
		if !same(l[i+1:], twin[i+1:]) {
			t.Fatalf("%v shares memory with what follows", twin[i])
		}
	}
}

func TestAnswersAreNewMemory(t *testing.T) {
	r := rand.New(rand.NewSource(16))
	for range 300 {
		h := filled(t, slices.Concat(someRows(r), someRows(r))...)
		want := deep(h.All())
		first, second, third := h.All(), h.Select(nil, -10, 10), h.All()
		scribble(first)
		scribble(second)
		if !same(third, want) {
			t.Fatal("two answers share memory")
		}
		wantAll(t, h, want)
		wantApart(t, third)
		h.Append(someRows(r))
		kept, twin := h.All(), deep(h.All())
		h.Append(someRows(r))
		h.Delete(nil, -5, 5)
		h.Raise(-8)
		if !same(kept, twin) {
			t.Fatal("an answer shares memory with the head")
		}
	}
	for range 1000 {
		a, b := someSeries(r), someSeries(r)
		twinA, twinB, l := deep(a), deep(b), Merge(a, b)
		wantApart(t, l)
		scribble(l)
		if !same(a, twinA) || !same(b, twinB) {
			t.Fatal("Merge shares memory with its arguments")
		}
	}
}

// What series lose does not stay in a head: one that is empty again is as a new one.
func TestNothingIsKeptOfWhatIsGone(t *testing.T) {
	h := New()
	for i := range 1000 {
		h.Append([]api.Row{row(of("a", fmt.Sprint(i)), i, 1)})
		h.Raise(i - 3)
		if len(h.series) > 5 {
			t.Fatalf("%d series are kept", len(h.series))
		}
	}
	h.Delete(nil, math.MinInt, math.MaxInt)
	if len(h.series) != 0 {
		t.Errorf("%d series are kept", len(h.series))
	}
}
