package eval

import (
	"math/rand"
	"slices"
	"testing"

	"dryrot/api"
)

// copied is an answer in memory of its own, with no room to spare.
func copied(a api.Answer) api.Answer {
	b := api.Answer{Gaps: slices.Clone(a.Gaps)}
	for _, s := range a.Series {
		b.Series = append(b.Series, api.Series{Labels: slices.Clone(s.Labels), Samples: slices.Clone(s.Samples)})
	}
	return b
}

func sameAnswer(a, b api.Answer) bool {
	return slices.Equal(a.Gaps, b.Gaps) && slices.EqualFunc(a.Series, b.Series, func(s, o api.Series) bool {
		return slices.Equal(s.Labels, o.Labels) && slices.Equal(s.Samples, o.Samples)
	})
}

func copiedTree(q api.Query) api.Query {
	q.Matchers, q.Labels, q.Kids = slices.Clone(q.Matchers), slices.Clone(q.Labels), slices.Clone(q.Kids)
	for i := range q.Kids {
		q.Kids[i] = copiedTree(q.Kids[i])
	}
	return q
}

func sameTree(a, b api.Query) bool {
	return a.Kind == b.Kind && a.Name == b.Name && slices.Equal(a.Matchers, b.Matchers) && a.Range == b.Range && a.Offset == b.Offset &&
		slices.Equal(a.Labels, b.Labels) && a.Without == b.Without && a.Number == b.Number && slices.EqualFunc(a.Kids, b.Kids, sameTree)
}

// roomy is a list with room behind its end, in which something stands.
func roomy[T any](l []T, behind T) []T {
	return append(slices.Concat(l, []T{behind}), behind)[:len(l)]
}

// withRoom is an answer all of whose lists have room behind their ends.
func withRoom(a api.Answer) api.Answer {
	b := api.Answer{Gaps: roomy(a.Gaps, api.Gap{From: 1, To: 77})}
	for _, s := range a.Series {
		b.Series = append(b.Series, api.Series{Labels: roomy(s.Labels, api.Label{Name: "q", Value: "q"}), Samples: roomy(s.Samples, api.Sample{T: 77, V: 77})})
	}
	b.Series = roomy(b.Series, api.Series{Labels: []api.Label{{Name: "q", Value: "q"}}})
	return b
}

// whole is an answer with the room behind its lists.
func whole(a api.Answer) api.Answer {
	a.Gaps, a.Series = a.Gaps[:cap(a.Gaps)], slices.Clone(a.Series[:cap(a.Series)])
	for i, s := range a.Series {
		a.Series[i] = api.Series{Labels: s.Labels[:cap(s.Labels)], Samples: s.Samples[:cap(s.Samples)]}
	}
	return a
}

func TestArgumentsAreLeftAsTheyAre(t *testing.T) {
	r := rand.New(rand.NewSource(5))
	for range 5000 {
		q, few, at := someQuestion(t, r)
		a, tree := withRoom(few), copiedTree(q)
		before := copied(whole(a))
		first, _, _ := At(q, a, at)
		Over(q, a, at/2, at/2+20, 3)
		Needs(q, at, at)
		if !sameAnswer(whole(a), before) || !sameTree(q, tree) {
			t.Fatalf("%s at %d changed %+v to %+v", treeText(tree), at, before, whole(a))
		}
		second, _, _ := At(tree, few, at)
		if pointTexts(first) != pointTexts(second) {
			t.Fatalf("%s at %d of %+v hangs on the room behind lists: %s, %s", treeText(tree), at, few, pointTexts(first), pointTexts(second))
		}
	}
	l, values := roomy(samples(1, 5, 2, 3), api.Sample{T: 9, V: 9}), roomy([]uint64{5, 3}, 9)
	for _, name := range slices.Concat(calls, folds) {
		Call(name, l)
		Fold(name, values)
	}
	if !slices.Equal(l[:3], samples(1, 5, 2, 3, 9, 9)) || !slices.Equal(values[:3], []uint64{5, 3, 9}) {
		t.Errorf("Call and Fold made %v, %v", l[:3], values[:3])
	}
}

// scribble writes over all that points hold, the room behind their labels too, and looks whether others change by that.
func scribble(t *testing.T, l []api.Point) {
	t.Helper()
	scribbled := api.Label{Name: "w", Value: "w"}
	for i, p := range l {
		if slices.Contains(p.Labels[:cap(p.Labels)], scribbled) {
			t.Errorf("two points share their labels: %s", pointText(p))
		}
		for j := range p.Labels[:cap(p.Labels)] {
			p.Labels[:cap(p.Labels)][j] = scribbled
		}
		l[i].V, l[i].T = 99, 99
	}
}

func TestAnswersAreNewMemory(t *testing.T) {
	a := withGaps(few(), 1000, 1000)
	for _, text := range []string{"x", "{}", "x or y", "x and y", "x unless y", "x + y", "x - 1", "1 - x", "sum by (a,__name__) ({})", "sum without () (x)", "last_over(x[100])", "7", "x * x or y", "(x or y) and x"} {
		q := parsed(t, text)
		tree, before := copiedTree(q), copied(a)
		want, _, e := At(q, a, 20)
		r, f := Over(q, a, 20, 22, 1)
		if e != api.OK || f != api.OK || len(want) == 0 {
			t.Fatalf("%s: %v, %v", text, e, f)
		}
		wantText, wantResult := pointTexts(want), resultText(r)
		scribble(t, want)
		scribble(t, r.Points)
		if !sameAnswer(a, before) || !sameTree(q, tree) {
			t.Errorf("%s: the points share memory with what was handed in", text)
		}
		again, _, _ := At(q, a, 20)
		other, _ := Over(q, a, 20, 22, 1)
		if pointTexts(again) != wantText || resultText(other) != wantResult {
			t.Errorf("%s: then it was %s, now it is %s", text, wantText, pointTexts(again))
		}
	}
	q := parsed(t, "x")
	r, _ := Over(q, a, 1000, 1010, 1)
	for i := range r.Holes[:cap(r.Holes)] {
		r.Holes[:cap(r.Holes)][i] = 5
	}
	if !slices.Equal(a.Gaps, []api.Gap{{From: 1000, To: 1000}}) {
		t.Errorf("the holes share memory with the gaps: %v", a.Gaps)
	}
}

// TestArgumentsAreNotKept: what is changed behind a call plays no part in what it answered.
func TestArgumentsAreNotKept(t *testing.T) {
	for _, text := range []string{"x", "{}", "x or y", "sum by (a) (x)", "x unless y", "x + y", "last_over(x[100])", "7 * x"} {
		q, a := parsed(t, text), few()
		l, _, _ := At(q, a, 20)
		r, _ := Over(q, a, 18, 20, 1)
		wantPoints, wantResult := pointTexts(l), resultText(r)
		for i, s := range a.Series {
			for j := range s.Labels {
				s.Labels[j] = api.Label{Name: "u", Value: "u"}
			}
			for j := range s.Samples {
				s.Samples[j] = api.Sample{T: 1, V: 1}
			}
			a.Series[i] = api.Series{}
		}
		q.Kids, q.Matchers = nil, nil
		if pointTexts(l) != wantPoints || resultText(r) != wantResult {
			t.Errorf("%s: it was %s, and is %s", text, wantPoints, pointTexts(l))
		}
	}
}
