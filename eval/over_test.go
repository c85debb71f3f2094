package eval

import (
	"fmt"
	"math"
	"slices"
	"strings"
	"testing"
	"time"

	"dryrot/api"
)

// resultText is points, each with its time, and holes.
func resultText(r api.Result) string {
	var texts []string
	for _, p := range r.Points {
		texts = append(texts, fmt.Sprintf("%d: %s", p.T, pointText(p)))
	}
	for _, hole := range r.Holes {
		texts = append(texts, fmt.Sprintf("%d: hole", hole))
	}
	return strings.Join(texts, "; ")
}

func isZeroResult(r api.Result) bool { return len(r.Points) == 0 && len(r.Holes) == 0 }

func wantOver(t *testing.T, text string, a api.Answer, from, to, step int, want ...string) {
	t.Helper()
	r, e := Over(parsed(t, text), a, from, to, step)
	if got := resultText(r); e != api.OK || got != strings.Join(want, "; ") {
		t.Errorf("%s from %d to %d by %d of %s is %s, %v; want %s", text, from, to, step, brief(a), got, e, strings.Join(want, "; "))
	}
}

func wantNoOver(t *testing.T, text string, a api.Answer, from, to, step int, want api.Errno) {
	t.Helper()
	if r, e := Over(parsed(t, text), a, from, to, step); e != want || !isZeroResult(r) {
		t.Errorf("%s from %d to %d by %d of %s is %s, %v; want %v", text, from, to, step, brief(a), brief(r), e, want)
	}
}

func TestP29_2Times(t *testing.T) {
	a := few()
	wantOver(t, "sum (x)", a, 4, 9, 1, "5: {} 3", "6: {} 12", "7: {} 12", "8: {} 12", "9: {} 16")
	wantOver(t, "sum (x)", a, 4, 9, 2, "6: {} 12", "8: {} 12")
	wantOver(t, "sum (x)", a, 4, 10, 2, "6: {} 12", "8: {} 12", "10: {} 16")
	wantOver(t, "sum (x)", a, 5, 5, 1, "5: {} 3")
	wantOver(t, "sum (x)", a, 5, 5, math.MaxInt, "5: {} 3")
	wantOver(t, "sum (x)", a, 5, math.MaxInt, math.MaxInt, "5: {} 3")
	wantOver(t, "sum (x)", a, 0, 100, 101)
	wantOver(t, "x", a, 5, 6, 1, `5: {__name__="x",a="1"} 3`, `6: {__name__="x",a="1"} 3`, `6: {__name__="x",a="2"} 4`, `6: {__name__="x",a="3",b="1"} 5`)
	wantOver(t, "7", a, -1, 1, 1, "-1: {} 7", "0: {} 7", "1: {} 7")
	wantOver(t, "7", api.Answer{}, math.MinInt, math.MaxInt, math.MaxInt, fmt.Sprint(math.MinInt, ": {} 7"), "-1: {} 7", fmt.Sprint(math.MaxInt-1, ": {} 7"))
	wantOver(t, "7", api.Answer{}, math.MaxInt, math.MaxInt, 1, fmt.Sprint(math.MaxInt, ": {} 7"))
	wantOver(t, "7", api.Answer{}, math.MinInt, math.MinInt+1, 1, fmt.Sprint(math.MinInt, ": {} 7"), fmt.Sprint(math.MinInt+1, ": {} 7"))
	wantOver(t, "w", a, 0, 100, 1)
}

func TestP29_2Holes(t *testing.T) {
	a := withGaps(few(), 7, 7)
	wantOver(t, "sum_over(y[1])", a, 5, 9, 1, "7: hole")
	wantOver(t, "sum_over(x[2])", a, 5, 9, 1, `5: {a="1"} 3`, `6: {a="1"} 3`, `6: {a="2"} 4`, `6: {a="3",b="1"} 5`, `9: {a="1"} 10`, `9: {a="3",b="1"} 7`, "7: hole", "8: hole")
	wantOver(t, "sum_over(x[2])", a, 7, 8, 1, "7: hole", "8: hole")
	wantOver(t, "1 + sum_over(w[2])", a, 6, 12, 2, "8: hole")
	wantOver(t, "1", withGaps(few(), math.MinInt, math.MaxInt), 1, 2, 1, "1: {} 1", "2: {} 1")
	wantOver(t, "x", withGaps(few(), math.MinInt, math.MaxInt), 1, 3, 1, "1: hole", "2: hole", "3: hole")
}

func TestP29_2TwoPointsOfTheSameLabels(t *testing.T) {
	a := few()
	wantNoOver(t, "{} + 1", a, 3, 7, 1, api.ErrTwice)
	wantNoOver(t, "{} + 1", a, 5, 5, 1, api.ErrTwice)
	wantOver(t, "{} + 1", a, 2, 4, 1, `3: {a="1"} 101`, `4: {a="1"} 101`)
	wantOver(t, "{} + 1", a, 4, 5, 2, `4: {a="1"} 101`)
	wantOver(t, "sum_over({}[1])", a, 4, 8, 1, `5: {a="1"} 3`, `6: {a="2"} 4`, `6: {a="3",b="1"} 5`, `7: {a="1"} 2`, `7: {a="4"} 9`, `8: {a="3",b="1"} 5`)
	wantNoOver(t, "sum_over({}[3])", a, 4, 8, 1, api.ErrTwice)
	gapped := withGaps(a, 6, 6)
	wantOver(t, "sum_over({}[2])", gapped, 3, 7, 1, `3: {a="1"} 100`, `4: {a="1"} 100`, `5: {a="1"} 3`, "6: hole", "7: hole")
	wantNoOver(t, "sum_over({}[3])", gapped, 3, 5, 1, api.ErrTwice)
	wantNoOver(t, "sum_over({}[3])", gapped, 3, 8, 1, api.ErrTwice)
	wantOver(t, "sum_over({}[3])", gapped, 6, 8, 1, "6: hole", "7: hole", "8: hole")
}

func TestP29_2AsManyTimesAsMayBe(t *testing.T) {
	for _, c := range []struct {
		from, to, step int
		want           int // how many times
	}{
		{0, 199, 1, 200}, {0, 200, 1, 201}, {0, 1990, 10, 200}, {0, 1999, 10, 200}, {0, 2000, 10, 201}, {-100, 99, 1, 200}, {-100, 100, 1, 201},
		{math.MaxInt - 199, math.MaxInt, 1, 200}, {math.MaxInt - 200, math.MaxInt, 1, 201}, {math.MinInt, math.MinInt + 199, 1, 200}, {math.MinInt, math.MinInt + 200, 1, 201},
		{math.MinInt, math.MaxInt, 1 << 57, 128}, {math.MinInt, math.MaxInt, 1 << 56, 256}, {math.MinInt, math.MaxInt, 1, 1000}, {math.MinInt, math.MaxInt, math.MaxInt, 3}, {math.MinInt, 0, 1 << 56, 129}, {0, math.MaxInt, 1, 1000},
	} {
		r, e := Over(parsed(t, "5"), api.Answer{}, c.from, c.to, c.step)
		if c.want > 200 {
			wantNoOver(t, "5", api.Answer{}, c.from, c.to, c.step, api.ErrMany)
			wantNoOver(t, "{} + 1", few(), c.from, c.to, c.step, api.ErrMany)
			continue
		}
		if e != api.OK || len(r.Points) != c.want || len(r.Holes) > 0 {
			t.Errorf("from %d to %d by %d there are %d points, %v; want %d", c.from, c.to, c.step, len(r.Points), e, c.want)
			continue
		}
		for i, p := range r.Points {
			if p.T != c.from+i*c.step || p.T < c.from || p.T > c.to || i > 0 && r.Points[i-1].T >= p.T {
				t.Errorf("from %d to %d by %d point %d is at %d", c.from, c.to, c.step, i, p.T)
			}
		}
	}
}

// manySeries is n series of one sample each, at that time.
func manySeries(n, at int) []api.Series {
	var l []api.Series
	for i := range n {
		l = append(l, series(fmt.Sprintf(`{__name__="x",a="%05d"}`, i), samples(at, i)...))
	}
	return l
}

func TestP29_2AsManyPointsAsMayBe(t *testing.T) {
	for _, c := range []struct{ series, times int }{{10000, 1}, {5000, 2}, {50, 200}, {3333, 3}, {9999, 1}} {
		a := answer(manySeries(c.series, 0)...)
		r, e := Over(parsed(t, "x"), a, 0, c.times-1, 1)
		if e != api.OK || len(r.Points) != c.series*c.times {
			t.Errorf("%d series, %d times: %d points, %v", c.series, c.times, len(r.Points), e)
		}
	}
	for _, c := range []struct{ series, times int }{{10001, 1}, {5001, 2}, {51, 200}, {3334, 3}, {20000, 1}, {10000, 2}} {
		a := answer(manySeries(c.series, 0)...)
		wantNoOver(t, "x", a, 0, c.times-1, 1, api.ErrMany)
		if r, e := Over(parsed(t, "count (x)"), a, 0, c.times-1, 1); e != api.OK || len(r.Points) != c.times || r.Points[0].V != uint64(c.series) {
			t.Errorf("%d series counted: %s, %v", c.series, brief(r), e)
		}
	}
	if l, hole, e := At(parsed(t, "x"), answer(manySeries(20000, 0)...), 5); e != api.OK || hole || len(l) != 20000 {
		t.Errorf("At of 20000 series: %d points, %v, %v", len(l), hole, e)
	}
}

// TestP29_2WhichErrorComesFirst: the times are gone through one by one, so what an earlier one tells comes first.
func TestP29_2WhichErrorComesFirst(t *testing.T) {
	many := manySeries(6000, 0)
	late := series(`{__name__="y",a="00007"}`, samples(5, 1)...)
	a := answer(append(many, late)...)
	const text = "sum_over({}[3] offset 1)"
	wantNoOver(t, text, a, 1, 6, 1, api.ErrMany)                                         // twice 6000 points at 2
	if r, e := Over(parsed(t, text), a, 1, 6, 5); e != api.OK || len(r.Points) != 6001 { // 6000 points at 1, one at 6
		t.Errorf("%d points, %v", len(r.Points), e)
	}
	early := answer(append(manySeries(6000, 5), series(`{__name__="y",a="00007"}`, samples(5, 1)...))...)
	wantNoOver(t, text, early, 1, 7, 1, api.ErrTwice) // 6001 points at 6, two of them of the same labels
	both := answer(append(manySeries(11000, 5), series(`{__name__="y",a="00007"}`, samples(5, 1)...))...)
	wantNoOver(t, text, both, 1, 7, 1, api.ErrTwice) // at one time
	holes := withGaps(answer(append(manySeries(11000, 5), series(`{__name__="y",a="00007"}`, samples(5, 1)...))...), 0, 10)
	wantOver(t, text, holes, 1, 3, 1, "1: hole", "2: hole", "3: hole")
}

func TestP29_2WhatMayNotBe(t *testing.T) {
	a := few()
	for _, c := range [][3]int{{0, 5, 0}, {0, 5, -1}, {0, 5, math.MinInt}, {0, 500, 0}, {5, 4, 1}, {math.MaxInt, math.MinInt, 1}, {1, -1000, 1}, {0, -1, math.MaxInt}, {5, 4, 0}} {
		for _, text := range []string{"x", "5", "{} + 1"} {
			wantNoOver(t, text, a, c[0], c[1], c[2], api.ErrArg)
			wantNoOver(t, text, withGaps(a, math.MinInt, math.MaxInt), c[0], c[1], c[2], api.ErrArg)
		}
	}
	for what, a := range wrongAnswers() {
		for _, to := range []int{5, 500} {
			if r, e := Over(parsed(t, "5"), a, 0, to, 1); e != api.ErrArg || !isZeroResult(r) {
				t.Errorf("%s: %s, %v", what, brief(r), e)
			}
		}
	}
	for what, q := range wrongQueries() {
		for _, to := range []int{5, 500} {
			if r, e := Over(q, a, 0, to, 1); e != api.ErrArg || !isZeroResult(r) {
				t.Errorf("%s: %s, %v", what, brief(r), e)
			}
		}
	}
}

func TestP29_2Needs(t *testing.T) {
	const least = math.MinInt
	for _, c := range []struct {
		text           string
		from, to, want int
	}{
		{"5", 10, 20, 10}, {"1 + 2", least, 20, least}, {"1 + 2", 10, 5, 10}, {"x", 1000, 2000, 701}, {"x", 0, 0, -299}, {"x offset 7", 1000, 2000, 694}, {"sum_over(x[1])", 1000, 2000, 1000}, {"sum_over(x[1] offset 3)", 1000, 2000, 997}, {"sum_over(x[2])", 1000, 2000, 999}, {"x or sum_over(y[500])", 1000, 2000, 501}, {"sum (x) + 5", 1000, 900, 701},
		{"x", least, 0, least}, {"x", least + 298, 0, least}, {"x", least + 299, 0, least}, {"x", least + 300, 0, least + 1}, {"x", math.MaxInt, math.MaxInt, math.MaxInt - 299}, {"sum_over(x[1])", least, least, least}, {"sum_over(x[2])", least, least, least}, {"sum_over(x[2])", least + 1, least, least},
		{"sum_over(x[999999999] offset 999999999)", least + 1999999997, 5, least}, {"sum_over(x[999999999] offset 999999999)", least + 1999999998, 5, least + 1}, {"sum_over(x[999999999] offset 999999999)", 0, 5, -1999999997},
	} {
		if from, to := Needs(parsed(t, c.text), c.from, c.to); from != c.want || to != c.to {
			t.Errorf("Needs(%s, %d, %d) is %d, %d; want %d", c.text, c.from, c.to, from, to, c.want)
		}
	}
	for what, q := range wrongQueries() {
		if from, to := Needs(q, 1000, 2000); from != 1000 || to != 2000 {
			t.Errorf("Needs of %s is %d, %d", what, from, to)
		}
	}
}

func TestP29_2OfManySamples(t *testing.T) {
	began := time.Now()
	var l []api.Sample
	for i := range 200000 {
		l = append(l, api.Sample{T: 3 * i, V: uint64(i)})
	}
	a := answer(series(`{__name__="x"}`, l...))
	wantOver(t, "x", a, 599997, 600297, 300, `599997: {__name__="x"} 199999`)
	wantOver(t, "x", a, 599997, 600296, 299, `599997: {__name__="x"} 199999`, `600296: {__name__="x"} 199999`)
	r, e := Over(parsed(t, "sum_over(x[999999999]) + count_over(x[999999999])"), a, 600000, 600199, 1)
	if e != api.OK || len(r.Points) != 200 || r.Points[199].V != 199999*100000+200000 {
		t.Errorf("of many samples: %s, %v", brief(r), e)
	}
	if spent := time.Since(began); spent > 20*time.Second {
		t.Errorf("it took %v", spent)
	}
}

func TestP29_2OverIsAtOfEachTime(t *testing.T) {
	a := withGaps(few(), 600, 601)
	for _, text := range []string{"x", "{}", "sum by (a) (x offset 5)", "sum_over(y[2]) or x", "x unless y", "delta_over(x[4])", "3"} {
		for from := -5; from < 15; from++ {
			var want api.Result
			for at := from; at <= from+700; at += 7 {
				l, hole, e := At(parsed(t, text), a, at)
				if e != api.OK {
					t.Fatalf("%s at %d: %v", text, at, e)
				}
				want.Points = append(want.Points, l...)
				if hole {
					want.Holes = append(want.Holes, at)
				}
			}
			r, e := Over(parsed(t, text), a, from, from+700, 7)
			if e != api.OK || resultText(r) != resultText(want) || !slices.IsSorted(r.Holes) {
				t.Errorf("%s from %d on is %s, %v; want %s", text, from, brief(resultText(r)), e, brief(resultText(want)))
			}
		}
	}
}
