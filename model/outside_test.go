package model

import (
	"fmt"
	"slices"
	"testing"

	"dryrot/api"
)

func TestP23_3Outside(t *testing.T) {
	x, y := of("a", "x"), of("a", "y")
	l := []api.Series{series(x, 1, 10, 5, 50, 9, 90), series(y, 5, 51)}
	for what, c := range map[string]struct {
		gaps []api.Gap
		left []api.Series
	}{
		"nil":                 {nil, l},
		"empty":               {[]api.Gap{}, l},
		"all":                 {[]api.Gap{{From: least, To: greatest}}, nil},
		"between":             {[]api.Gap{{From: 2, To: 4}, {From: 6, To: 8}, {From: 10, To: 20}, {From: least, To: 0}}, l},
		"one time":            {[]api.Gap{{From: 5, To: 5}}, []api.Series{series(x, 1, 10, 9, 90)}},
		"begins there":        {[]api.Gap{{From: 5, To: 8}}, []api.Series{series(x, 1, 10, 9, 90)}},
		"ends there":          {[]api.Gap{{From: 2, To: 5}}, []api.Series{series(x, 1, 10, 9, 90)}},
		"the first two":       {[]api.Gap{{From: least, To: 5}}, []api.Series{series(x, 9, 90)}},
		"the last two":        {[]api.Gap{{From: 5, To: greatest}}, []api.Series{series(x, 1, 10)}},
		"apart":               {[]api.Gap{{From: 0, To: 1}, {From: 9, To: 9}}, []api.Series{series(x, 5, 50), series(y, 5, 51)}},
		"in no order":         {[]api.Gap{{From: 9, To: 9}, {From: 0, To: 1}}, []api.Series{series(x, 5, 50), series(y, 5, 51)}},
		"over one another":    {[]api.Gap{{From: 0, To: 9}, {From: 1, To: 2}, {From: 3, To: 4}}, nil},
		"a long one, a short": {[]api.Gap{{From: 2, To: 3}, {From: 1, To: 6}, {From: 4, To: 4}}, []api.Series{series(x, 9, 90)}},
		"of one beginning":    {[]api.Gap{{From: 5, To: 5}, {From: 5, To: 9}, {From: 5, To: 6}}, []api.Series{series(x, 1, 10)}},
		"from above to":       {[]api.Gap{{From: 9, To: 1}, {From: 5, To: 4}, {From: greatest, To: least}}, l},
		"turned, and right":   {[]api.Gap{{From: 9, To: 1}, {From: 2, To: 6}}, []api.Series{series(x, 1, 10, 9, 90)}},
	} {
		if got := Outside(l, c.gaps); !same(got, c.left) {
			t.Errorf("%s: %s, not %s", what, brief(got), brief(c.left))
		}
	}
}

// Series made by hand come as they are: in their order, with their labels, also twice, and samples that do not rise.
func TestP23_3OutsideOfAnySeries(t *testing.T) {
	if got := Outside(nil, []api.Gap{{From: 0, To: 9}}); got != nil {
		t.Errorf("of none: %s", brief(got))
	}
	if got := Outside([]api.Series{{}, {Labels: of("a", "x")}, {Labels: of("a", "y"), Samples: []api.Sample{}}}, nil); got != nil {
		t.Errorf("without samples: %s", brief(got))
	}
	l := []api.Series{series(of("b", "", "", "a"), 9, 1, 3, 2, 9, 3, 5, 4), series(nil, least, 5, greatest, 6), series(of("b", "", "", "a"), 3, 7)}
	left := []api.Series{series(of("b", "", "", "a"), 9, 1, 9, 3, 5, 4), series(nil, greatest, 6)}
	if got := Outside(l, []api.Gap{{From: 3, To: 4}, {From: least, To: least}}); !same(got, left) {
		t.Errorf("%s, not %s", brief(got), brief(left))
	}
}

func TestP23_3OutsideAsItIsSaid(t *testing.T) {
	for seed := range int64(400) {
		c, p := newChance(seed), newPlain()
		for range 6 {
			p.do(c.op())
		}
		var gaps []api.Gap
		for range c.Intn(6) {
			from, to := c.span()
			gaps = append(gaps, api.Gap{From: from, To: to})
			if c.Intn(2) == 0 {
				gaps[len(gaps)-1].To = from + c.Intn(4)
			}
		}
		l := p.tell(nil, least, greatest)
		if got, left := Outside(l, gaps), p.tell(nil, least, greatest, gaps...); !same(got, left) {
			t.Fatalf("seed %d: Outside(%s, %v) = %s, not %s", seed, brief(l), gaps, brief(got), brief(left))
		}
	}
}

// Many samples and many gaps come to an end.
func TestP23_3OutsideOfMany(t *testing.T) {
	const n = 300000
	s := api.Series{Labels: of("a", "x")}
	var gaps []api.Gap
	for i := range n {
		s.Samples = append(s.Samples, api.Sample{T: i})
		gaps = append(gaps, api.Gap{From: 2 * (n - i), To: 2 * (n - i)})
	}
	got := Outside([]api.Series{s}, gaps)
	if len(got) != 1 || len(got[0].Samples) != n/2+1 || got[0].Samples[1].T != 1 {
		t.Error(brief(got))
	}
}

// roomy is series whose lists have room behind their ends, filled with what nobody may touch.
func roomy(l []api.Series) []api.Series {
	var twin []api.Series
	for _, s := range l {
		labels := append(slices.Clone(s.Labels), of("room", "behind")...)
		samples := append(slices.Clone(s.Samples), api.Sample{T: 77, V: 88})
		twin = append(twin, api.Series{Labels: labels[:len(s.Labels)], Samples: samples[:len(s.Samples)]})
	}
	twin = append(twin, series(of("room", "behind"), 7, 8))
	return twin[:len(l)]
}

// whole is all that series have in memory, room and all.
func whole(l []api.Series) string {
	words := ""
	for _, s := range l[:cap(l)] {
		words += fmt.Sprint(s.Labels[:cap(s.Labels)], s.Samples[:cap(s.Samples)])
	}
	return words
}

func scribble(l []api.Series) {
	for _, s := range l {
		for i := range s.Labels[:cap(s.Labels)] {
			s.Labels[:cap(s.Labels)][i] = api.Label{Name: "scribbled", Value: "over"}
		}
		for i := range s.Samples[:cap(s.Samples)] {
			s.Samples[:cap(s.Samples)][i] = api.Sample{T: -1, V: 999}
		}
	}
	for i := range l[:cap(l)] {
		l[:cap(l)][i] = api.Series{}
	}
}

func TestOutsideLeavesWhatItIsHanded(t *testing.T) {
	l := roomy([]api.Series{series(of("a", "x"), 5, 1, 6, 2, 7, 3), series(of("b", "x"), 6, 2), series(of("a", "x"), 5, 1)})
	gaps := []api.Gap{{From: 6, To: 6}, {From: 1, To: 2}, {From: 7, To: 3}, {From: 40, To: 50}}[:3]
	before, spans := whole(l), slices.Clone(gaps[:4])
	first, second := Outside(l, gaps), Outside(l, gaps)
	if whole(l) != before || !slices.Equal(gaps[:4], spans) {
		t.Error("it has changed what it was handed")
	}
	scribble(first)
	if whole(l) != before {
		t.Error("an answer is shared with what was handed in")
	}
	scribble(l)
	if !same(second, []api.Series{series(of("a", "x"), 5, 1, 7, 3), series(of("a", "x"), 5, 1)}) {
		t.Error(brief(second))
	}
	third := Outside([]api.Series{series(of("a", "x"), 5, 1), series(of("a", "x"), 5, 1)}, nil)
	scribble(third[:1:1])
	if !same(third[1:], []api.Series{series(of("a", "x"), 5, 1)}) {
		t.Error("two lists of an answer are shared")
	}
}

func TestAModelKeepsNothingThatIsHandedIn(t *testing.T) {
	rows := append(times(5, 6), row(5, 7, "a", "y", "b", "z"), row(40, 41, "room", "behind"))[:3]
	matchers := append(one(api.Is, "a", "y"), one(api.Is, "room", "behind")...)[:1]
	before, asked := fmt.Sprint(rows[:4]), fmt.Sprint(matchers[:2])
	m := did(t, opAppend(rows...), api.Op{Kind: api.OpDelete, Matchers: matchers, From: 90, To: 99})
	m.Select(matchers, 0, 9)
	if fmt.Sprint(rows[:4]) != before || fmt.Sprint(matchers[:2]) != asked {
		t.Error("it has changed what it was handed")
	}
	for i := range rows {
		for j := range rows[i].Labels {
			rows[i].Labels[j] = api.Label{Name: "scribbled", Value: "over"}
		}
		rows[i] = api.Row{T: 999}
	}
	matchers[0] = api.Matcher{}
	wantAll(t, m, series(of("a", "x"), 5, 15, 6, 18), series(of("a", "y", "b", "z"), 5, 7))
}

func TestAModelsAnswersAreNewMemory(t *testing.T) {
	m := did(t, opAppend(append(times(5, 6), row(5, 7, "a", "y", "b", "z"))...))
	c := m.Copy()
	for _, one := range []*Model{m, c} {
		l, _ := one.Select(nil, least, greatest)
		other, _ := one.Select(nil, least, greatest)
		scribble(l)
		names, values := one.Names(), one.Values("a")
		for _, words := range [][]string{names, values} {
			for i := range words[:cap(words)] {
				words[:cap(words)][i] = "scribbled"
			}
		}
		wantWords(t, "Names", one.Names(), "a", "b")
		wantWords(t, "Values", one.Values("a"), "x", "y")
		if !same(other, []api.Series{series(of("a", "x"), 5, 15, 6, 18), series(of("a", "y", "b", "z"), 5, 7)}) {
			t.Error(brief(other))
		}
	}
	wantAll(t, m, series(of("a", "x"), 5, 15, 6, 18), series(of("a", "y", "b", "z"), 5, 7))
	wantStateOf(t, "a copy", c, m)
}
