package eval

import (
	"math/big"
	"math/rand"
	"slices"
	"testing"

	"dryrot/api"
	"dryrot/labels"
	"dryrot/match"
	"dryrot/query"
)

// What follows is the chapter told once more, as plainly as it goes: numbers without a bound, and all points held against all.

// plainWindow is the first and the last time of a selector's window; the last one may lie below all times.
func plainWindow(s api.Query, t int) (*big.Int, *big.Int) {
	wide := s.Range
	if wide == 0 {
		wide = api.Look
	}
	last := new(big.Int).Sub(big.NewInt(int64(t)), big.NewInt(int64(s.Offset)))
	return new(big.Int).Add(new(big.Int).Sub(last, big.NewInt(int64(wide))), big.NewInt(1)), last
}

func isIn(t int, first, last *big.Int) bool {
	at := big.NewInt(int64(t))
	return first.Cmp(at) <= 0 && at.Cmp(last) <= 0
}

// plainTouches tells whether a window and a gap have a time in both.
func plainTouches(s api.Query, t int, g api.Gap) bool {
	first, last := plainWindow(s, t)
	from, to := big.NewInt(int64(g.From)), big.NewInt(int64(g.To))
	if first.Cmp(from) < 0 {
		first = from
	}
	if last.Cmp(to) > 0 {
		last = to
	}
	return first.Cmp(last) <= 0
}

// plainHole tells whether a gap is in the way of one of the selectors within a tree.
func plainHole(q api.Query, a api.Answer, t int) bool {
	if q.Kind == api.QuerySelect {
		return slices.ContainsFunc(a.Gaps, func(g api.Gap) bool { return plainTouches(q, t, g) })
	}
	return slices.ContainsFunc(q.Kids, func(kid api.Query) bool { return plainHole(kid, a, t) })
}

// plainLabels is those labels whose names are heeded.
func plainLabels(l []api.Label, heeds func(name string) bool) []api.Label {
	var some []api.Label
	for _, one := range l {
		if heeds(one.Name) {
			some = append(some, one)
		}
	}
	return some
}

func plainBare(l []api.Label) []api.Label {
	return plainLabels(l, func(name string) bool { return name != "__name__" })
}

func sameBare(p, o api.Point) bool { return slices.Equal(plainBare(p.Labels), plainBare(o.Labels)) }

func hasBare(l []api.Point, p api.Point) bool {
	return slices.ContainsFunc(l, func(o api.Point) bool { return sameBare(o, p) })
}

// isTwice tells whether two points have the same bare labels.
func isTwice(l []api.Point) bool {
	for i := range l {
		if hasBare(l[:i], l[i]) {
			return true
		}
	}
	return false
}

// plainInWindow is each series that fits a selector, with its samples in the window, if it has some.
func plainInWindow(s api.Query, a api.Answer, t int) []api.Series {
	first, last := plainWindow(s, t)
	var l []api.Series
	for _, one := range a.Series {
		hasName := s.Name == "" || slices.Contains(one.Labels, api.Label{Name: "__name__", Value: s.Name})
		fits := !slices.ContainsFunc(s.Matchers, func(m api.Matcher) bool { return !match.One(m, one.Labels) })
		in := slices.DeleteFunc(slices.Clone(one.Samples), func(x api.Sample) bool { return !isIn(x.T, first, last) })
		if hasName && fits && len(in) > 0 {
			l = append(l, api.Series{Labels: one.Labels, Samples: in})
		}
	}
	return l
}

// plainPoints is a query's points, in any order; false, if there are two of the same labels.
func plainPoints(q api.Query, a api.Answer, t int) ([]api.Point, bool) {
	var kids [][]api.Point
	if q.Kind != api.QueryCall {
		for _, kid := range q.Kids {
			l, ok := plainPoints(kid, a, t)
			if !ok {
				return nil, false
			}
			kids = append(kids, l)
		}
	}
	var l []api.Point
	switch q.Kind {
	case api.QueryNumber:
		return []api.Point{{V: q.Number}}, true
	case api.QuerySelect:
		for _, s := range plainInWindow(q, a, t) {
			l = append(l, api.Point{Labels: s.Labels, V: s.Samples[len(s.Samples)-1].V})
		}
	case api.QueryCall:
		for _, s := range plainInWindow(q.Kids[0], a, t) {
			var values []uint64
			for _, x := range s.Samples {
				values = append(values, x.V)
			}
			l = append(l, api.Point{Labels: plainBare(s.Labels), V: plainMade(q.Name, values)})
		}
		return l, !isTwice(l)
	case api.QueryFold:
		return plainFold(q, kids[0]), true
	case api.QueryJoin:
		return plainJoin(q, kids[0], kids[1])
	}
	return l, true
}

func plainFold(q api.Query, kid []api.Point) []api.Point {
	heeds := func(name string) bool {
		if q.Without {
			return name != "__name__" && !slices.Contains(q.Labels, name)
		}
		return slices.Contains(q.Labels, name)
	}
	var l []api.Point
	for i, p := range kid {
		of := plainLabels(p.Labels, heeds)
		same := func(o api.Point) bool { return slices.Equal(plainLabels(o.Labels, heeds), of) }
		if slices.ContainsFunc(kid[:i], same) {
			continue
		}
		var values []uint64
		for _, o := range kid {
			if same(o) {
				values = append(values, o.V)
			}
		}
		l = append(l, api.Point{Labels: of, V: plainMade(q.Name, values)})
	}
	return l
}

func plainJoin(q api.Query, left, right []api.Point) ([]api.Point, bool) {
	isSet := q.Name == "and" || q.Name == "unless" || q.Name == "or"
	if !isSet && (isTwice(left) || isTwice(right)) {
		return nil, false
	}
	isLeftNumber, isRightNumber := q.Kids[0].Kind == api.QueryNumber, q.Kids[1].Kind == api.QueryNumber
	var l []api.Point
	for _, p := range left {
		if q.Name == "or" || isSet && hasBare(right, p) == (q.Name == "and") {
			l = append(l, p)
		}
		for _, o := range right {
			if isSet || !sameBare(p, o) && !isLeftNumber && !isRightNumber {
				continue
			}
			v := map[string]uint64{"+": p.V + o.V, "-": p.V - o.V, "*": p.V * o.V}[q.Name]
			if isLeftNumber {
				l = append(l, api.Point{Labels: plainBare(o.Labels), V: v})
			} else {
				l = append(l, api.Point{Labels: plainBare(p.Labels), V: v})
			}
		}
	}
	for _, o := range right {
		if q.Name == "or" && !hasBare(left, o) {
			l = append(l, o)
		}
	}
	for i := range l {
		for j := range i {
			if slices.Equal(l[i].Labels, l[j].Labels) {
				return nil, false
			}
		}
	}
	return l, true
}

// plainAt is At told once more, of what may be asked.
func plainAt(q api.Query, a api.Answer, t int) ([]api.Point, bool, api.Errno) {
	if plainHole(q, a, t) {
		return nil, true, api.OK
	}
	l, ok := plainPoints(q, a, t)
	if !ok {
		return nil, false, api.ErrTwice
	}
	slices.SortFunc(l, func(p, o api.Point) int { return labels.Compare(p.Labels, o.Labels) })
	for i := range l {
		l[i].T = t
	}
	return l, false, api.OK
}

// someTree is a tree that may be.
func someTree(r *rand.Rand, deep int) api.Query {
	kind := r.Intn(9)
	if deep <= 1 {
		kind = r.Intn(4)
	}
	switch {
	case kind == 0 && r.Intn(2) == 0:
		return api.Query{Kind: api.QueryNumber, Number: someValue(r)}
	case kind < 2:
		return someSelector(r)
	case kind < 4:
		s := someSelector(r)
		s.Range = []int{1, 2, 3, 5, 300, 999999999}[r.Intn(6)]
		return api.Query{Kind: api.QueryCall, Name: calls[r.Intn(len(calls))], Kids: []api.Query{s}}
	case kind == 4:
		q := api.Query{Kind: api.QueryFold, Name: folds[r.Intn(len(folds))], Without: r.Intn(2) == 0, Kids: []api.Query{someTree(r, deep-1)}}
		for range r.Intn(3) {
			q.Labels = append(q.Labels, []string{"a", "b", "__name__", "A"}[r.Intn(4)])
		}
		return q
	}
	return api.Query{Kind: api.QueryJoin, Name: []string{"+", "-", "*", "and", "unless", "or"}[r.Intn(6)], Kids: []api.Query{someTree(r, deep-1), someTree(r, deep-1)}}
}

func someSelector(r *rand.Rand) api.Query {
	q := api.Query{Kind: api.QuerySelect, Name: []string{"x", "y", "x", "y", "w"}[r.Intn(5)]}
	if r.Intn(3) == 0 {
		q.Offset = []int{1, 2, 4, 299, 300, 999999999}[r.Intn(6)]
	}
	if r.Intn(3) == 0 {
		q.Name = ""
	}
	for range r.Intn(3) / 2 * (1 + r.Intn(2)) {
		q.Matchers = append(q.Matchers, api.Matcher{Kind: 1 + r.Intn(4), Name: []string{"a", "b", "__name__"}[r.Intn(3)], Value: []string{"", "1", "2", "x"}[r.Intn(4)]})
	}
	if q.Name == "" && r.Intn(4) > 0 {
		q.Matchers = append(q.Matchers, api.Matcher{Kind: api.Is, Name: "a", Value: []string{"1", "2"}[r.Intn(2)]})
	}
	return q
}

// someMiddle is where all times of an answer lie: about a time, or one of the ends.
func someMiddle(r *rand.Rand) int {
	return []int{0, 0, 1000, -1 << 63, 1<<63 - 1}[r.Intn(5)]
}

// someTime is about a middle, 300 times behind it, and no time at all beyond the ends.
func someTime(r *rand.Rand, middle int) int {
	by := []int{r.Intn(9), r.Intn(9), 300 + r.Intn(9), 600 - r.Intn(9)}[r.Intn(4)]
	if middle > 1<<62 {
		return middle - by
	}
	return middle + by
}

// someAnswer is one that may be asked, of few labels, with few gaps.
func someAnswer(r *rand.Rand, middle int) api.Answer {
	var a api.Answer
	for _, name := range []string{"", "x", "y"} {
		for _, text := range []string{`{}`, `{a="1"}`, `{a="2"}`, `{a="1",b="1"}`, `{A="2"}`} {
			if name+text == "{}" || r.Intn(3) > 0 {
				continue
			}
			one, _ := labels.Parse(text)
			if name != "" {
				one = append(one, api.Label{Name: "__name__", Value: name})
				slices.SortFunc(one, func(x, y api.Label) int { return labels.Compare([]api.Label{x}, []api.Label{y}) })
			}
			a.Series = append(a.Series, api.Series{Labels: one, Samples: someSamples(r, middle)})
		}
	}
	slices.SortFunc(a.Series, func(x, y api.Series) int { return labels.Compare(x.Labels, y.Labels) })
	for range r.Intn(4) / 3 * (1 + r.Intn(3)) {
		a.Gaps = append(a.Gaps, api.Gap{From: someTime(r, middle), To: someTime(r, middle)})
	}
	return a
}

func someSamples(r *rand.Rand, middle int) []api.Sample {
	var l []api.Sample
	for range r.Intn(12) {
		l = append(l, api.Sample{T: someTime(r, middle), V: someValue(r)})
	}
	slices.SortFunc(l, func(x, y api.Sample) int { return compareTimes(x.T, y.T) })
	return slices.CompactFunc(l, func(x, y api.Sample) bool { return x.T == y.T })
}

func compareTimes(a, b int) int {
	if a < b {
		return -1
	}
	if a > b {
		return 1
	}
	return 0
}

// someQuestion is a tree, an answer and a time, all of them such as may be.
func someQuestion(t *testing.T, r *rand.Rand) (api.Query, api.Answer, int) {
	t.Helper()
	for {
		q, middle := someTree(r, 1+r.Intn(4)), someMiddle(r)
		if query.Can(q) {
			return q, someAnswer(r, middle), someTime(r, middle)
		}
	}
}

func sameAt(l []api.Point, hole bool, e api.Errno, m []api.Point, other bool, f api.Errno) bool {
	return hole == other && e == f && slices.EqualFunc(l, m, func(p, o api.Point) bool {
		return p.T == o.T && p.V == o.V && slices.Equal(p.Labels, o.Labels)
	})
}

func treeText(q api.Query) string {
	s, _ := query.Print(q)
	return s
}

func TestP29_1OfAny(t *testing.T) {
	r := rand.New(rand.NewSource(1))
	var holes, twice, some, none int
	for range 150000 {
		q, a, at := someQuestion(t, r)
		l, hole, e := At(q, a, at)
		m, isHole, f := plainAt(q, a, at)
		if !sameAt(l, hole, e, m, isHole, f) {
			t.Fatalf("%s at %d of %+v is %s, %v, %v; want %s, %v, %v", treeText(q), at, a, pointTexts(l), hole, e, pointTexts(m), isHole, f)
		}
		switch {
		case hole:
			holes++
		case e == api.ErrTwice:
			twice++
		case len(l) > 0:
			some++
		default:
			none++
		}
	}
	t.Logf("%d holes, %d twice, %d with points, %d without", holes, twice, some, none)
	if min(holes, twice, some, none) < 5000 {
		t.Errorf("%d holes, %d twice, %d with points, %d without: too few of one", holes, twice, some, none)
	}
}

func TestP29_2OfAny(t *testing.T) {
	r := rand.New(rand.NewSource(2))
	twice := 0
	for range 20000 {
		q, a, from := someQuestion(t, r)
		step, steps := 1+r.Intn(3)*r.Intn(150), r.Intn(12)
		if from > 0 && from+step*steps < 0 {
			continue
		}
		var want api.Result
		wantE := api.OK
		for i := 0; i <= steps && wantE == api.OK; i++ {
			l, hole, e := plainAt(q, a, from+i*step)
			want.Points, wantE = append(want.Points, l...), e
			if hole {
				want.Holes = append(want.Holes, from+i*step)
			}
		}
		if wantE != api.OK {
			want = api.Result{}
			twice++
		}
		got, e := Over(q, a, from, from+step*steps, step)
		if e != wantE || !sameAt(got.Points, false, e, want.Points, false, e) || !slices.Equal(got.Holes, want.Holes) {
			t.Fatalf("%s from %d by %d of %+v is %s, %v; want %s, %v", treeText(q), from, step, a, resultText(got), e, resultText(want), wantE)
		}
	}
	if twice < 500 {
		t.Errorf("only %d with two points of the same labels", twice)
	}
}

// TestP29_4WhatLiesOutsidePlaysNoPart: samples and gaps outside of what Needs tells are taken away, others are put there.
func TestP29_4WhatLiesOutsidePlaysNoPart(t *testing.T) {
	r := rand.New(rand.NewSource(3))
	dropped := 0
	for range 60000 {
		q, a, at := someQuestion(t, r)
		from, to := Needs(q, at, at)
		inside, other := api.Answer{}, api.Answer{}
		for _, s := range a.Series {
			in := slices.DeleteFunc(slices.Clone(s.Samples), func(x api.Sample) bool { return x.T < from || x.T > to })
			dropped += len(s.Samples) - len(in)
			inside.Series = append(inside.Series, api.Series{Labels: s.Labels, Samples: in})
			var ahead, behind []api.Sample
			if from > -1<<63 {
				ahead = []api.Sample{{T: from - 1, V: r.Uint64()}}
			}
			if to < 1<<63-1 {
				behind = []api.Sample{{T: to + 1, V: r.Uint64()}}
			}
			other.Series = append(other.Series, api.Series{Labels: s.Labels, Samples: slices.Concat(ahead, in, behind)})
		}
		for _, g := range a.Gaps {
			g.From, g.To = max(g.From, from), min(g.To, to)
			if g.From <= g.To {
				inside.Gaps = append(inside.Gaps, g)
			}
		}
		other.Gaps = slices.Clone(inside.Gaps)
		if from > -1<<63 {
			other.Gaps = append(other.Gaps, api.Gap{From: -1 << 63, To: from - 1})
		}
		if to < 1<<63-1 {
			other.Gaps = append(other.Gaps, api.Gap{From: to + 1, To: 1<<63 - 1})
		}
		l, hole, e := At(q, a, at)
		for _, b := range []api.Answer{inside, other} {
			if m, isHole, f := At(q, b, at); !sameAt(l, hole, e, m, isHole, f) {
				t.Fatalf("%s at %d of %+v is %s, %v, %v; of %+v %s, %v, %v", treeText(q), at, a, pointTexts(l), hole, e, b, pointTexts(m), isHole, f)
			}
		}
	}
	if dropped < 10000 {
		t.Errorf("only %d samples lay outside", dropped)
	}
}

// TestP29_4TheFirstTimeNeededPlaysAPart: the first time that it tells plays a part.
func TestP29_4TheFirstTimeNeededPlaysAPart(t *testing.T) {
	for _, text := range []string{"x", "x offset 7", "sum_over(x[1])", "sum_over(x[90] offset 40)", "w + sum (sum_over(x[500]))"} {
		from, _ := Needs(parsed(t, text), 10000, 10000)
		wantHole(t, text, api.Answer{Gaps: []api.Gap{{From: from, To: from}}}, 10000)
		if _, hole, e := At(parsed(t, text), api.Answer{Gaps: []api.Gap{{From: from - 1, To: from - 1}}}, 10000); hole || e != api.OK {
			t.Errorf("%s hangs on %d: %v, %v", text, from-1, hole, e)
		}
	}
}

func TestP29_5WhatFollows(t *testing.T) {
	r := rand.New(rand.NewSource(4))
	both := 0
	for range 25000 {
		a, answered, at := someQuestion(t, r)
		b := someTree(r, 1+r.Intn(3))
		join := func(name string) api.Query {
			return api.Query{Kind: api.QueryJoin, Name: name, Kids: []api.Query{a, b}}
		}
		if !query.Can(join("unless")) {
			continue
		}
		answered.Gaps = nil
		of, _, e := At(a, answered, at)
		_, _, f := At(b, answered, at)
		either, _, g := At(join("or"), answered, at)
		and, _, h := At(join("and"), answered, at)
		unless, _, i := At(join("unless"), answered, at)
		if e != api.OK || f != api.OK {
			if g != api.ErrTwice || h != api.ErrTwice || i != api.ErrTwice {
				t.Fatalf("%s of %+v: %v, %v, %v, %v, %v", treeText(join("or")), answered, e, f, g, h, i)
			}
			continue
		}
		together := slices.Concat(and, unless)
		slices.SortFunc(together, func(p, o api.Point) int { return labels.Compare(p.Labels, o.Labels) })
		if g != api.OK || h != api.OK || i != api.OK || !sameAt(of, false, e, together, false, e) {
			t.Fatalf("%s of %+v: %s; and %s, unless %s", treeText(join("and")), answered, pointTexts(of), pointTexts(and), pointTexts(unless))
		}
		for _, p := range of {
			if !slices.ContainsFunc(either, func(o api.Point) bool { return pointText(o) == pointText(p) }) {
				t.Fatalf("%s of %+v lacks %s", treeText(join("or")), answered, pointText(p))
			}
		}
		if len(and) > 0 && len(unless) > 0 {
			both++
		}
	}
	if both < 500 {
		t.Errorf("only %d have points of both kinds", both)
	}
}
