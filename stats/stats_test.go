package stats

import (
	"fmt"
	"math"
	"slices"
	"strings"
	"testing"
	"time"

	"dryrot/api"
)

// labelled is labels, names and values one behind the other; any ones, also such as may not be.
func labelled(texts ...string) []api.Label {
	var l []api.Label
	for i := 0; i < len(texts); i += 2 {
		l = append(l, api.Label{Name: texts[i], Value: texts[i+1]})
	}
	return l
}

// series is n samples of labels.
func series(n int, texts ...string) api.Series {
	s := api.Series{Labels: labelled(texts...)}
	for i := range n {
		s.Samples = append(s.Samples, api.Sample{T: i, V: 7})
	}
	return s
}

// counts is counts written as "name n, name n".
func counts(text string) []api.Count {
	var l []api.Count
	for _, one := range strings.Split(text, ", ") {
		if one != "" {
			var c api.Count
			at := strings.LastIndex(one, " ")
			fmt.Sscan(one[at+1:], &c.N)
			c.Name = one[:at]
			l = append(l, c)
		}
	}
	return l
}

func countTexts(l []api.Count) string {
	var texts []string
	for _, c := range l {
		texts = append(texts, fmt.Sprint(c.Name, " ", c.N))
	}
	return strings.Join(texts, ", ")
}

// whole is stats of counts as texts.
func whole(series, samples, values int, names, pairs string) api.Stats {
	return api.Stats{Series: series, Samples: samples, Values: values, Names: counts(names), Pairs: counts(pairs)}
}

func same(a, b api.Stats) bool {
	return a.Series == b.Series && a.Samples == b.Samples && a.Values == b.Values && slices.Equal(a.Names, b.Names) && slices.Equal(a.Pairs, b.Pairs)
}

func wantOf(t *testing.T, l []api.Series, most int, want api.Stats) {
	t.Helper()
	if s := Of(l, most); !same(s, want) {
		t.Errorf("Of(%.300v, %d) is %+v; want %+v", fmt.Sprint(l), most, s, want)
	}
}

func wantCounts(t *testing.T, what string, l []api.Count, want string) {
	t.Helper()
	if got := countTexts(l); got != want {
		t.Errorf("%s is %s; want %s", what, got, want)
	}
}

func TestExampleOfTheChapter(t *testing.T) {
	l := []api.Series{series(1, "a", "x"), series(1, "a", "y")}
	wantOf(t, l, 9, whole(2, 2, 2, "a 2", `a="x" 1, a="y" 1`))
}

func TestP30_1Top(t *testing.T) {
	for _, c := range []struct {
		l    string
		most int
		want string
	}{
		{"a 1, b 2, c 3", 3, "c 3, b 2, a 1"}, {"c 3, b 2, a 1", 3, "c 3, b 2, a 1"}, {"b 2, c 3, a 1", 2, "c 3, b 2"}, {"b 2, c 3, a 1", 1, "c 3"}, {"b 2, c 3, a 1", 0, ""}, {"b 2, c 3, a 1", -1, ""}, {"b 2, c 3, a 1", math.MinInt, ""}, {"b 2, c 3, a 1", 4, "c 3, b 2, a 1"}, {"b 2, c 3, a 1", math.MaxInt, "c 3, b 2, a 1"},
		{"b 2, a 2, c 2", 9, "a 2, b 2, c 2"}, {"b 2, a 2, c 2", 2, "a 2, b 2"}, {"b 2, a 1, c 2, B 2,  2, ba 2, é 2, \xff 2, z 2", 9, " 2, B 2, b 2, ba 2, c 2, z 2, é 2, \xff 2, a 1"},
		{"a 2, a 2, a 3, a 2", 9, "a 3, a 2, a 2, a 2"}, {"a -5, b 0, c 5, d -6", 9, "c 5, b 0, a -5, d -6"},
		{fmt.Sprint("a ", math.MinInt, ", b ", math.MaxInt, ", c 0"), 9, fmt.Sprint("b ", math.MaxInt, ", c 0, a ", math.MinInt)},
		{fmt.Sprint("a ", math.MinInt, ", b 1"), 1, "b 1"}, {fmt.Sprint("a ", math.MaxInt, ", b -1"), 1, fmt.Sprint("a ", math.MaxInt)},
		{"", 5, ""}, {"", 0, ""}, {"", -5, ""}, {"a 1", 1, "a 1"},
	} {
		wantCounts(t, fmt.Sprintf("Top(%s, %d)", c.l, c.most), Top(counts(c.l), c.most), c.want)
	}
	if l := Top([]api.Count{}, 1); len(l) != 0 {
		t.Errorf("Top of an empty list is %v", l)
	}
}

func TestP30_2SeriesAndSamples(t *testing.T) {
	wantOf(t, nil, 9, api.Stats{})
	wantOf(t, []api.Series{}, -1, api.Stats{})
	wantOf(t, []api.Series{series(0, "a", "x")}, 9, api.Stats{})
	wantOf(t, []api.Series{{Labels: labelled("a", "x"), Samples: make([]api.Sample, 0, 5)}}, 9, api.Stats{})
	wantOf(t, []api.Series{series(3, "a", "x")}, 9, whole(1, 3, 1, "a 1", `a="x" 1`))
	wantOf(t, []api.Series{series(3, "a", "x"), series(0, "b", "x"), series(2, "a", "x", "c", "z")}, 9, whole(2, 5, 2, "a 2, c 1", `a="x" 2, c="z" 1`))
	wantOf(t, []api.Series{series(0, "a", "x"), series(4, "b", "x"), series(0, "b", "x", "c", "z")}, 9, whole(1, 4, 1, "b 1", `b="x" 1`))
	wantOf(t, []api.Series{series(1), series(2)}, 9, api.Stats{Series: 2, Samples: 3})
	same := series(2, "a", "x", "b", "y")
	wantOf(t, []api.Series{same, same, same}, 9, whole(3, 6, 2, "a 3, b 3", `a="x" 3, b="y" 3`))
}

func TestP30_2NamesAndPairs(t *testing.T) {
	l := []api.Series{
		series(1, "__name__", "up", "a", "x"), series(1, "__name__", "up", "a", "y"), series(1, "__name__", "down", "b", "x"), series(1, "a", "x"), series(1, "a", "z", "b", "z"),
	}
	const names, pairs = "a 4, __name__ 3, b 2", `__name__="up" 2, a="x" 2, __name__="down" 1, a="y" 1, a="z" 1, b="x" 1, b="z" 1`
	wantOf(t, l, 7, whole(5, 5, 7, names, pairs))
	wantOf(t, l, math.MaxInt, whole(5, 5, 7, names, pairs))
	wantOf(t, l, 3, whole(5, 5, 7, names, `__name__="up" 2, a="x" 2, __name__="down" 1`))
	wantOf(t, l, 2, whole(5, 5, 7, "a 4, __name__ 3", `__name__="up" 2, a="x" 2`))
	for _, most := range []int{0, -1, math.MinInt} {
		wantOf(t, l, most, whole(5, 5, 7, "", ""))
	}
	slices.Reverse(l)
	wantOf(t, l, 9, whole(5, 5, 7, names, pairs))
	wantOf(t, []api.Series{series(1, "a", "\"\\é=,{"), series(1, "a", `\`)}, 9, whole(2, 2, 2, "a 2", `a="\"\\é=,{" 1, a="\\" 1`))
}

// TestP30_2LabelsMadeByHand: nothing says that the labels of the series may be.
func TestP30_2LabelsMadeByHand(t *testing.T) {
	wantOf(t, []api.Series{series(1, "a", "x", "a", "x"), series(1, "a", "x")}, 9, whole(2, 2, 1, "a 2", `a="x" 2`))
	wantOf(t, []api.Series{series(1, "a", "x", "a", "y", "a", "x")}, 9, whole(1, 1, 2, "a 1", `a="x" 1, a="y" 1`))
	wantOf(t, []api.Series{series(1, "b", "x", "a", "y"), series(1, "a", "y", "b", "x")}, 9, whole(2, 2, 2, "a 2, b 2", `a="y" 2, b="x" 2`))
	wantOf(t, []api.Series{series(1, "", ""), series(1, "a", "")}, 9, api.Stats{Series: 2, Samples: 2, Values: 2, Names: []api.Count{{Name: "", N: 1}, {Name: "a", N: 1}}, Pairs: []api.Count{{Name: `=""`, N: 1}, {Name: `a=""`, N: 1}}})
	wantOf(t, []api.Series{series(1, "a", "\xff"), series(1, "a", "\xfe"), series(1, "a", "\n")}, 9, api.Stats{Series: 3, Samples: 3, Values: 3, Names: []api.Count{{Name: "a", N: 3}}, Pairs: []api.Count{{Name: "a=\"\n\"", N: 1}, {Name: "a=\"\xfe\"", N: 1}, {Name: "a=\"\xff\"", N: 1}}})
	// Texts that look like one another, of labels that are others.
	wantOf(t, []api.Series{series(1, "a", `b="c`), series(1, `a="b`, "c"), series(1, "a=", "b"), series(1, "a", `\"`), series(1, "a", `"`)}, 9,
		api.Stats{Series: 5, Samples: 5, Values: 5, Names: []api.Count{{Name: "a", N: 3}, {Name: "a=", N: 1}, {Name: `a="b`, N: 1}},
			Pairs: []api.Count{{Name: `a="\""`, N: 1}, {Name: `a="\\\""`, N: 1}, {Name: `a="b="c"`, N: 1}, {Name: `a="b=\"c"`, N: 1}, {Name: `a=="b"`, N: 1}}})
}

func TestP30_4Heavy(t *testing.T) {
	l := []api.Series{
		series(1, "a", "x", "b", "1"), series(1, "a", "x", "b", "2"), series(2, "a", "y", "b", "3"), series(1, "c", "x"), series(1, "a", "x", "c", "y"), series(0, "a", "z", "d", "1"), series(0, "c", "z"),
	}
	for _, c := range []struct {
		values int
		want   string
	}{
		{math.MinInt, "b 3, a 2, c 2"}, {-1, "b 3, a 2, c 2"}, {0, "b 3, a 2, c 2"}, {1, "b 3, a 2, c 2"}, {2, "b 3"}, {3, ""}, {math.MaxInt, ""},
	} {
		wantCounts(t, fmt.Sprintf("Heavy(%d)", c.values), Heavy(l, c.values), c.want)
	}
	wantCounts(t, "Heavy of nothing", Heavy(nil, -5), "")
	wantCounts(t, "Heavy of no samples", Heavy([]api.Series{series(0, "a", "x")}, -5), "")
	wantCounts(t, "Heavy of no labels", Heavy([]api.Series{series(1)}, -5), "")
	wantCounts(t, "Heavy of labels made by hand", Heavy([]api.Series{series(1, "a", "x", "a", "y", "a", "x"), series(1, "b", ""), series(1, "", "\xff"), series(1, "", "\xfe")}, 0), " 2, a 2, b 1")
	wantCounts(t, "Heavy of many labels", Heavy([]api.Series{series(1, "b", "1", "c", "1", "a", "1"), series(1, "b", "2", "c", "2", "a", "2")}, 1), "a 2, b 2, c 2")
}

func TestOfManySeries(t *testing.T) {
	began := time.Now()
	var l []api.Series
	for i := range 200000 {
		l = append(l, series(1+i%2, "a", fmt.Sprint(i), "b", fmt.Sprint(i%1000), "c", "x"))
	}
	s := Of(l, 3)
	if want := whole(200000, 300000, 201001, "a 200000, b 200000, c 200000", `c="x" 200000, b="0" 200, b="1" 200`); !same(s, want) {
		t.Errorf("Of many series: %+v", s)
	}
	wantCounts(t, "Heavy of many series", Heavy(l, 999), "a 200000, b 1000")
	x, y := Of(l[:100000], len(l)), Of(l[100000:], len(l))
	if z, e := Add(x, y); e != api.OK || z.Values != 201001 || z.Pairs[0].N != 200000 || len(z.Pairs) != 201001 {
		t.Errorf("Add of many: %d values, %v", z.Values, e)
	}
	if spent := time.Since(began); spent > 20*time.Second {
		t.Errorf("it took %v", spent)
	}
}
