package eval

import (
	"fmt"
	"math"
	"slices"
	"strings"
	"testing"
	"time"

	"dryrot/api"
	"dryrot/labels"
	"dryrot/query"
)

// brief is the beginning of a thing's words, since some are long.
func brief(x any) string { return fmt.Sprintf("%.500s", fmt.Sprintf("%+v", x)) }

// samples is times and values, one behind the other.
func samples(numbers ...int) []api.Sample {
	var l []api.Sample
	for i := 0; i < len(numbers); i += 2 {
		l = append(l, api.Sample{T: numbers[i], V: uint64(numbers[i+1])})
	}
	return l
}

// series is labels, as a text, with samples.
func series(text string, l ...api.Sample) api.Series {
	parsed, e := labels.Parse(text)
	if e != api.OK {
		panic(text)
	}
	return api.Series{Labels: parsed, Samples: l}
}

// answer is series, by labels.
func answer(l ...api.Series) api.Answer {
	slices.SortFunc(l, func(a, b api.Series) int { return labels.Compare(a.Labels, b.Labels) })
	return api.Answer{Series: l}
}

// withGaps is an answer with gaps, each from one number to the next.
func withGaps(a api.Answer, numbers ...int) api.Answer {
	a.Gaps = nil
	for i := 0; i < len(numbers); i += 2 {
		a.Gaps = append(a.Gaps, api.Gap{From: numbers[i], To: numbers[i+1]})
	}
	return a
}

func parsed(t testing.TB, text string) api.Query {
	t.Helper()
	q, e := query.Parse(text)
	if e != api.OK {
		t.Fatalf("%q is no query: %v", text, e)
	}
	return q
}

// labelText is labels as a text, also none.
func labelText(l []api.Label) string {
	if len(l) == 0 {
		return "{}"
	}
	text, e := labels.Text(l)
	if e != api.OK {
		return fmt.Sprintf("%q, which may not be", l)
	}
	return text
}

// pointText is a point's labels, and its value.
func pointText(p api.Point) string { return fmt.Sprintf("%s %d", labelText(p.Labels), p.V) }

func pointTexts(l []api.Point) string {
	var texts []string
	for _, p := range l {
		texts = append(texts, pointText(p))
	}
	return strings.Join(texts, "; ")
}

// wantAt holds what a query comes to at a time against points as texts; their times are told, too.
func wantAt(t *testing.T, text string, a api.Answer, at int, want ...string) {
	t.Helper()
	l, hole, e := At(parsed(t, text), a, at)
	if got := pointTexts(l); e != api.OK || hole || got != strings.Join(want, "; ") {
		t.Errorf("%s at %d of %s is %s, %v, %v; want %s", text, at, brief(a), got, hole, e, strings.Join(want, "; "))
	}
	for _, p := range l {
		if p.T != at {
			t.Errorf("%s at %d of %s has a point at %d", text, at, brief(a), p.T)
		}
	}
}

func wantHole(t *testing.T, text string, a api.Answer, at int) {
	t.Helper()
	if l, hole, e := At(parsed(t, text), a, at); e != api.OK || !hole || len(l) > 0 {
		t.Errorf("%s at %d of %s is %s, %v, %v; want a hole", text, at, brief(a), pointTexts(l), hole, e)
	}
}

func wantNoAt(t *testing.T, q api.Query, a api.Answer, at int, want api.Errno) {
	t.Helper()
	if l, hole, e := At(q, a, at); e != want || hole || len(l) > 0 {
		t.Errorf("%s at %d of %s is %s, %v, %v; want %v", brief(q), at, brief(a), pointTexts(l), hole, e, want)
	}
}

func wantTwice(t *testing.T, text string, a api.Answer, at int) {
	t.Helper()
	wantNoAt(t, parsed(t, text), a, at, api.ErrTwice)
}

func TestExampleOfTheChapter(t *testing.T) {
	a := answer(series(`{__name__="x",a="1"}`, samples(5, 3)...), series(`{__name__="x",a="2"}`, samples(6, 4)...))
	wantAt(t, "sum (x)", a, 20, "{} 7")
}

// few is an answer with two names.
func few() api.Answer {
	return answer(
		series(`{__name__="x",a="1"}`, samples(5, 3, 9, 10)...),
		series(`{__name__="x",a="2"}`, samples(6, 4)...),
		series(`{__name__="x",a="3",b="1"}`, samples(6, 5, 8, 5, 9, 2)...),
		series(`{__name__="y",a="1"}`, samples(7, 2)...),
		series(`{__name__="y",a="4"}`, samples(7, 9)...),
		series(`{a="1"}`, samples(3, 100)...),
		series(`{__name__="z",a="5"}`),
	)
}

func TestP29_1Selectors(t *testing.T) {
	a := few()
	wantAt(t, "x", a, 9, `{__name__="x",a="1"} 10`, `{__name__="x",a="2"} 4`, `{__name__="x",a="3",b="1"} 2`)
	wantAt(t, "x", a, 8, `{__name__="x",a="1"} 3`, `{__name__="x",a="2"} 4`, `{__name__="x",a="3",b="1"} 5`)
	wantAt(t, "x", a, 5, `{__name__="x",a="1"} 3`)
	wantAt(t, "x", a, 4)
	wantAt(t, "y", a, 9, `{__name__="y",a="1"} 2`, `{__name__="y",a="4"} 9`)
	wantAt(t, "z", a, 9)
	wantAt(t, "w", a, 9)
	wantAt(t, `x{a="2"}`, a, 9, `{__name__="x",a="2"} 4`)
	wantAt(t, `x{a!="2",b=""}`, a, 9, `{__name__="x",a="1"} 10`)
	wantAt(t, `{a=~"1|4"}`, a, 9, `{__name__="x",a="1"} 10`, `{__name__="y",a="1"} 2`, `{__name__="y",a="4"} 9`, `{a="1"} 100`)
	wantAt(t, `{__name__=""}`, a, 9, `{a="1"} 100`)
	wantAt(t, `x{__name__="y"}`, a, 9)
	wantAt(t, `y{__name__!="x"}`, a, 9, `{__name__="y",a="1"} 2`, `{__name__="y",a="4"} 9`)
	wantAt(t, "{}", a, 7, `{__name__="x",a="1"} 3`, `{__name__="x",a="2"} 4`, `{__name__="x",a="3",b="1"} 5`, `{__name__="y",a="1"} 2`, `{__name__="y",a="4"} 9`, `{a="1"} 100`)
	wantAt(t, "{}", api.Answer{}, 7)
	wantAt(t, "x", answer(series(`{A="1",__name__="x"}`, samples(1, 7)...)), 2, `{A="1",__name__="x"} 7`)
}

func TestP29_1Windows(t *testing.T) {
	a := answer(series(`{__name__="x"}`, samples(1000, 7)...))
	const x = `{__name__="x"} 7`
	for _, c := range []struct {
		text        string
		first, last int // the times at which the sample is in the window
	}{
		{"x", 1000, 1299}, {"x offset 1", 1001, 1300}, {"x offset 300", 1300, 1599}, {"x offset 999999999", 1000000999, 1000001298},
		{"sum_over(x[1])", 1000, 1000}, {"sum_over(x[2])", 1000, 1001}, {"sum_over(x[300])", 1000, 1299}, {"sum_over(x[999999999])", 1000, 1000000998}, {"sum_over(x[2] offset 5)", 1005, 1006}, {"sum_over(x[1] offset 1)", 1001, 1001},
	} {
		want := "{} 7"
		if c.text[0] == 'x' {
			want = x
		}
		wantAt(t, c.text, a, c.first-1)
		wantAt(t, c.text, a, c.first, want)
		wantAt(t, c.text, a, (c.first+c.last)/2, want)
		wantAt(t, c.text, a, c.last, want)
		wantAt(t, c.text, a, c.last+1)
		wantAt(t, c.text, a, math.MinInt)
		wantAt(t, c.text, a, math.MaxInt)
	}
	many := answer(series(`{__name__="x"}`, samples(10, 1, 11, 2, 12, 4, 13, 8, 14, 16)...))
	for text, want := range map[string]string{"sum_over(x[3])": "{} 14", "sum_over(x[3] offset 1)": "{} 7", "count_over(x[1])": "{} 1", "sum_over(x[100])": "{} 15", "first_over(x[2])": "{} 4", "x offset 2": `{__name__="x"} 2`} {
		wantAt(t, text, many, 13, want)
	}
}

func TestP29_1WindowsAtTheEndsOfTime(t *testing.T) {
	const least, most = math.MinInt, math.MaxInt
	a := answer(series(`{__name__="x"}`, samples(least, 1, least+1, 2, most-1, 4, most, 8)...))
	const x = `{__name__="x"} `
	wantAt(t, "x", a, least, x+"1")
	wantAt(t, "x", a, least+1, x+"2")
	wantAt(t, "x", a, least+300, x+"2")
	wantAt(t, "x", a, least+301)
	wantAt(t, "x", a, most-2)
	wantAt(t, "x", a, most-1, x+"4")
	wantAt(t, "x", a, most, x+"8")
	wantAt(t, "x offset 1", a, least)
	wantAt(t, "x offset 1", a, least+1, x+"1")
	wantAt(t, "x offset 1", a, most, x+"4")
	wantAt(t, "x offset 999999999", a, least)
	wantAt(t, "x offset 999999999", a, least+999999998)
	wantAt(t, "x offset 999999999", a, least+999999999, x+"1")
	wantAt(t, "sum_over(x[999999999])", a, least, "{} 1")
	wantAt(t, "sum_over(x[999999999])", a, least+1, "{} 3")
	wantAt(t, "sum_over(x[999999999] offset 999999999)", a, least)
	wantAt(t, "sum_over(x[999999999] offset 999999999)", a, least+999999998)
	wantAt(t, "sum_over(x[999999999] offset 999999999)", a, least+999999999, "{} 1")
	wantAt(t, "sum_over(x[999999999])", a, most, "{} 12")
	wantAt(t, "sum_over(x[1])", a, most, "{} 8")
	low := answer(series(`{__name__="x"}`, samples(0, 1, 1, 2)...))
	for _, at := range []int{least, least + 1, least + 5} {
		wantAt(t, "x offset 7", low, at)
		wantAt(t, "sum_over(x[2] offset 7)", low, at)
	}
}

func TestP29_1NumbersAndCalls(t *testing.T) {
	a := few()
	wantAt(t, "5", a, 9, "{} 5")
	wantAt(t, "18446744073709551615", api.Answer{}, math.MinInt, "{} 18446744073709551615")
	wantAt(t, "sum_over(x[100])", a, 20, `{a="1"} 13`, `{a="2"} 4`, `{a="3",b="1"} 12`)
	wantAt(t, "delta_over(x[100])", a, 20, `{a="1"} 7`, `{a="2"} 0`, `{a="3",b="1"} 18446744073709551613`)
	wantAt(t, "changes_over(x[100])", a, 20, `{a="1"} 1`, `{a="2"} 0`, `{a="3",b="1"} 1`)
	wantAt(t, "count_over(x[2])", a, 9, `{a="1"} 1`, `{a="3",b="1"} 2`)
	wantAt(t, "count_over(x[2])", a, 100)
	wantAt(t, `min_over({a="4"}[5])`, a, 9, `{a="4"} 9`)
	b := answer(series(`{__name__="x",z="1"}`, samples(1, 1)...), series(`{__name__="y",a="1"}`, samples(1, 2)...), series(`{A="1",__name__="v"}`, samples(1, 3)...), series(`{__name__="u"}`, samples(1, 4)...))
	wantAt(t, "last_over({}[5])", b, 1, "{} 4", `{A="1"} 3`, `{a="1"} 2`, `{z="1"} 1`)
}

func TestP29_1Folds(t *testing.T) {
	a := few()
	wantAt(t, "sum (x)", a, 20, "{} 16")
	wantAt(t, "min (x)", a, 20, "{} 2")
	wantAt(t, "max (x)", a, 20, "{} 10")
	wantAt(t, "count (x)", a, 20, "{} 3")
	wantAt(t, "group (x)", a, 20, "{} 1")
	wantAt(t, "group by (a) (x)", a, 20, `{a="1"} 1`, `{a="2"} 1`, `{a="3"} 1`)
	wantAt(t, "sum (w)", a, 20)
	wantAt(t, "sum (5)", a, 20, "{} 5")
	wantAt(t, "count by (a) (5)", a, 20, "{} 1")
	wantAt(t, "sum by () ({})", a, 20, "{} 127")
	wantAt(t, "sum by (a) ({})", a, 20, `{a="1"} 112`, `{a="2"} 4`, `{a="3"} 2`, `{a="4"} 9`)
	wantAt(t, "sum by (b) ({})", a, 20, "{} 125", `{b="1"} 2`)
	wantAt(t, "sum by (b,c,a,a) (x)", a, 20, `{a="1"} 10`, `{a="2"} 4`, `{a="3",b="1"} 2`)
	wantAt(t, "sum by (__name__) ({})", a, 20, "{} 100", `{__name__="x"} 16`, `{__name__="y"} 11`)
	wantAt(t, "sum by (a,__name__) (y)", a, 20, `{__name__="y",a="1"} 2`, `{__name__="y",a="4"} 9`)
	wantAt(t, "sum without () ({})", a, 20, `{a="1"} 112`, `{a="2"} 4`, `{a="3",b="1"} 2`, `{a="4"} 9`)
	wantAt(t, "sum without (b) (x)", a, 20, `{a="1"} 10`, `{a="2"} 4`, `{a="3"} 2`)
	wantAt(t, "sum without (a) ({})", a, 20, "{} 125", `{b="1"} 2`)
	wantAt(t, "sum without (__name__) (y)", a, 20, `{a="1"} 2`, `{a="4"} 9`)
	wantAt(t, "count without (a,b) ({})", a, 20, "{} 6")
	wantAt(t, "sum (count by (a) ({}))", a, 20, "{} 6")
	wantAt(t, "max (sum_over(x[100]))", a, 20, "{} 13")
	b := answer(series(`{__name__="x",z="1"}`, samples(1, 1)...), series(`{__name__="y",a="1"}`, samples(1, 2)...), series(`{A="1",__name__="v"}`, samples(1, 3)...), series(`{__name__="u"}`, samples(1, 1<<62)...), series(`{__name__="t"}`, samples(1, 3<<61)...))
	wantAt(t, "sum without () ({})", b, 1, "{} 11529215046068469760", `{A="1"} 3`, `{a="1"} 2`, `{z="1"} 1`)
	wantAt(t, "sum (t * 2 + u * 2)", answer(series(`{__name__="t"}`, samples(1, 3<<61)...), series(`{__name__="u"}`, samples(1, 1<<62)...)), 1, "{} 4611686018427387904")
}

func TestP29_1JoinsOfNumbers(t *testing.T) {
	a := few()
	wantAt(t, "1 + 2", a, 20, "{} 3")
	wantAt(t, "1 - 2", a, 20, "{} 18446744073709551615")
	wantAt(t, "3 * 5", a, 20, "{} 15")
	wantAt(t, "18446744073709551615 + 18446744073709551615", a, 20, "{} 18446744073709551614")
	wantAt(t, "18446744073709551615 * 18446744073709551615", a, 20, "{} 1")
	wantAt(t, "1 and 2", a, 20, "{} 1")
	wantAt(t, "1 or 2", a, 20, "{} 1")
	wantAt(t, "1 unless 2", a, 20)
	wantAt(t, "x - 1", a, 20, `{a="1"} 9`, `{a="2"} 3`, `{a="3",b="1"} 1`)
	wantAt(t, "1 - x", a, 20, `{a="1"} 18446744073709551607`, `{a="2"} 18446744073709551613`, `{a="3",b="1"} 18446744073709551615`)
	wantAt(t, "2 * x", a, 8, `{a="1"} 6`, `{a="2"} 8`, `{a="3",b="1"} 10`)
	wantAt(t, "2 * x", a, 5, `{a="1"} 6`)
	wantAt(t, "2 * w", a, 5)
	wantAt(t, "w + 2", a, 5)
	wantAt(t, "sum (x) + 1", a, 20, "{} 17")
	wantAt(t, "x + (1 + 2)", a, 20)
	wantAt(t, "x * 2 + 1", a, 20, `{a="1"} 21`, `{a="2"} 9`, `{a="3",b="1"} 5`)
	wantAt(t, "sum (x) + (1 + 2)", a, 20, "{} 19")
	wantAt(t, "x or 1", a, 20, "{} 1", `{__name__="x",a="1"} 10`, `{__name__="x",a="2"} 4`, `{__name__="x",a="3",b="1"} 2`)
	wantAt(t, "x and 1", a, 20)
	wantAt(t, "sum (x) and 1", a, 20, "{} 16")
	wantAt(t, "x unless 1", a, 5, `{__name__="x",a="1"} 3`)
	b := answer(series(`{__name__="x",z="1"}`, samples(1, 1)...), series(`{__name__="y",a="1"}`, samples(1, 2)...), series(`{__name__="u"}`, samples(1, 4)...))
	wantAt(t, "{} * 3", b, 1, "{} 12", `{a="1"} 6`, `{z="1"} 3`)
	wantAt(t, "10 - {}", b, 1, "{} 6", `{a="1"} 8`, `{z="1"} 9`)
	wantAt(t, "u + 1 or {}", b, 1, "{} 5", `{__name__="x",z="1"} 1`, `{__name__="y",a="1"} 2`)
}

func TestP29_1JoinsOfPoints(t *testing.T) {
	a := few()
	wantAt(t, "x + y", a, 20, `{a="1"} 12`)
	wantAt(t, "x - y", a, 20, `{a="1"} 8`)
	wantAt(t, "y - x", a, 20, `{a="1"} 18446744073709551608`)
	wantAt(t, "x * y", a, 20, `{a="1"} 20`)
	wantAt(t, "x * y", a, 6)
	wantAt(t, "x * w", a, 20)
	wantAt(t, "w * x", a, 20)
	wantAt(t, `x + {__name__=""}`, a, 20, `{a="1"} 110`)
	wantAt(t, "x + x", a, 20, `{a="1"} 20`, `{a="2"} 8`, `{a="3",b="1"} 4`)
	wantAt(t, "x + sum by (a) (x)", a, 20, `{a="1"} 20`, `{a="2"} 8`)
	wantAt(t, "x and y", a, 20, `{__name__="x",a="1"} 10`)
	wantAt(t, "y and x", a, 20, `{__name__="y",a="1"} 2`)
	wantAt(t, "x and w", a, 20)
	wantAt(t, "x unless y", a, 20, `{__name__="x",a="2"} 4`, `{__name__="x",a="3",b="1"} 2`)
	wantAt(t, "y unless x", a, 20, `{__name__="y",a="4"} 9`)
	wantAt(t, "x unless w", a, 5, `{__name__="x",a="1"} 3`)
	wantAt(t, "x unless x", a, 20)
	wantAt(t, "x and y", a, 6)
	wantAt(t, "x unless y", a, 6, `{__name__="x",a="1"} 3`, `{__name__="x",a="2"} 4`, `{__name__="x",a="3",b="1"} 5`)
	wantAt(t, "x or y", a, 20, `{__name__="x",a="1"} 10`, `{__name__="x",a="2"} 4`, `{__name__="x",a="3",b="1"} 2`, `{__name__="y",a="4"} 9`)
	wantAt(t, "y or x", a, 20, `{__name__="x",a="2"} 4`, `{__name__="x",a="3",b="1"} 2`, `{__name__="y",a="1"} 2`, `{__name__="y",a="4"} 9`)
	wantAt(t, "w or y", a, 20, `{__name__="y",a="1"} 2`, `{__name__="y",a="4"} 9`)
	wantAt(t, "y or w", a, 20, `{__name__="y",a="1"} 2`, `{__name__="y",a="4"} 9`)
	wantAt(t, "x or y", a, 7, `{__name__="x",a="1"} 3`, `{__name__="x",a="2"} 4`, `{__name__="x",a="3",b="1"} 5`, `{__name__="y",a="4"} 9`)
	wantAt(t, "x offset 3 or y", a, 8, `{__name__="x",a="1"} 3`, `{__name__="y",a="4"} 9`)
	wantAt(t, `x{a="2"} or {a="1"}`, a, 20, `{__name__="x",a="1"} 10`, `{__name__="x",a="2"} 4`, `{__name__="y",a="1"} 2`, `{a="1"} 100`)
	wantAt(t, `{a="1"} and {__name__=""}`, a, 20, `{__name__="x",a="1"} 10`, `{__name__="y",a="1"} 2`, `{a="1"} 100`)
	wantAt(t, `{} unless y`, a, 20, `{__name__="x",a="2"} 4`, `{__name__="x",a="3",b="1"} 2`)
	wantAt(t, `{} and {}`, a, 20, `{__name__="x",a="1"} 10`, `{__name__="x",a="2"} 4`, `{__name__="x",a="3",b="1"} 2`, `{__name__="y",a="1"} 2`, `{__name__="y",a="4"} 9`, `{a="1"} 100`)
	wantAt(t, `{} or {}`, a, 20, `{__name__="x",a="1"} 10`, `{__name__="x",a="2"} 4`, `{__name__="x",a="3",b="1"} 2`, `{__name__="y",a="1"} 2`, `{__name__="y",a="4"} 9`, `{a="1"} 100`)
	b := answer(series(`{__name__="x",z="1"}`, samples(1, 1)...), series(`{__name__="x",y="1"}`, samples(1, 2)...), series(`{A="1",__name__="x"}`, samples(1, 3)...), series(`{__name__="w"}`, samples(1, 4)...), series(`{A="2",__name__="w"}`, samples(1, 5)...))
	wantAt(t, "x + x", b, 1, `{A="1"} 6`, `{y="1"} 4`, `{z="1"} 2`)
	wantAt(t, "x or w", b, 1, `{A="1",__name__="x"} 3`, `{A="2",__name__="w"} 5`, `{__name__="w"} 4`, `{__name__="x",y="1"} 2`, `{__name__="x",z="1"} 1`)
	wantAt(t, "w or x", b, 1, `{A="1",__name__="x"} 3`, `{A="2",__name__="w"} 5`, `{__name__="w"} 4`, `{__name__="x",y="1"} 2`, `{__name__="x",z="1"} 1`)
}

func TestP29_1TwoPointsOfTheSameLabels(t *testing.T) {
	a := few()
	for _, text := range []string{
		"sum_over({}[100])", "last_over({}[100])", "{} + 1", "1 * {}", "{} - y", "y - {}", "{} + w", "w + {}", "{} * {}", "sum (last_over({}[100]))", "sum by (__name__) ({}) + 1", "x + y + {} * 1",
		"x and sum_over({}[100])", "sum_over({}[100]) and x", "w and ({} + 1)", "x unless last_over({}[100])", "x or {} * 1", "{} * 1 or x", "count (max_over({}[100]) or x)", "w * (2 - {})", "({} + 1) * w", "({} + 1) * 1", "1 + ({} + 1)", "w unless sum_over({}[20])", "(x or y) + (w or {})",
	} {
		wantTwice(t, text, a, 20)
		wantAt(t, "("+text+") and w", api.Answer{}, 20)
		wantHole(t, text, withGaps(a, 20, 20), 20)
	}
	wantTwice(t, "{} + 1", a, 7)
	wantAt(t, "{} + 1", a, 2)
	wantAt(t, "{} + 1", a, 3, `{a="1"} 101`)
	wantTwice(t, "{} + 1", a, 5)
	wantAt(t, "last_over({}[2])", a, 4, `{a="1"} 100`)
	wantAt(t, "last_over({}[2])", a, 5, `{a="1"} 3`)
	wantTwice(t, "last_over({}[3])", a, 5)
	for _, text := range []string{"{}", "{} or {}", "{} and {}", "{} unless w", "sum ({})", "x or y", "x or y or {}", "sum by (a) ({})", "sum without () ({}) + 1", "(x or y) + 1", "(x or y) + (x or y or {})"} {
		if _, _, e := At(parsed(t, text), a, 20); e != api.OK {
			t.Errorf("%s: %v", text, e)
		}
	}
	b := answer(series(`{__name__="x"}`, samples(1, 1)...), series(`{__name__="y"}`, samples(1, 2)...))
	wantTwice(t, "{} + 1", b, 1)
	wantTwice(t, "sum_over({}[1])", b, 1)
	wantAt(t, "x + y", b, 1, "{} 3")
	wantAt(t, "sum_over({}[1])", b, 2)
}

func TestP29_1Gaps(t *testing.T) {
	a := few()
	for _, c := range []struct {
		text        string
		first, last int // the times whose windows have the time 1000
	}{
		{"x", 1000, 1299}, {"x offset 5", 1005, 1304}, {"sum_over(x[1])", 1000, 1000}, {"sum_over(x[7])", 1000, 1006}, {"sum_over(x[7] offset 3)", 1003, 1009}, {"w", 1000, 1299}, {"1 + sum (w)", 1000, 1299}, {"sum_over(w[3]) or sum_over(w[3] offset 2)", 1000, 1004}, {"w and (1 or sum_over(w[999]))", 1000, 1998}, {"sum by (a) (sum_over(w[2]) - (sum_over(w[3] offset 1)))", 1000, 1003}, {"x unless x offset 300", 1000, 1599},
	} {
		for _, gaps := range [][]int{{1000, 1000}, {5000, 5001, 1000, 1000}, {1000, 1000, 3000, 3001}, {1000, 1000, 1000, 1000}, {1001, 999, 1000, 1000, 1000, -1}} {
			b := withGaps(a, gaps...)
			for _, at := range []int{c.first, (c.first + c.last) / 2, c.last} {
				wantHole(t, c.text, b, at)
			}
			for _, at := range []int{c.first - 1, c.last + 1} {
				if _, hole, e := At(parsed(t, c.text), b, at); hole || e != api.OK {
					t.Errorf("%s at %d, gaps %v: %v, %v", c.text, at, gaps, hole, e)
				}
			}
		}
	}
	wantHole(t, "x", withGaps(a, 0, 1000), 0)
	wantHole(t, "x", withGaps(a, 0, 1000), 1299)
	wantAt(t, "x", withGaps(a, 0, 1000), 1300)
	wantHole(t, "x", withGaps(a, 0, 1000, 10, 20, 30, 40), 1299)
	wantHole(t, "x", withGaps(a, 30, 40, 10, 20, 0, 1000), 500)
	wantHole(t, "x", withGaps(a, 30, 40, 600, 700, 0, 100), 350)
	wantHole(t, "x", withGaps(a, math.MinInt, math.MaxInt), 350)
	wantHole(t, "x", withGaps(a, 100, 90, 90, 100), 350)
	wantAt(t, "5 + 6", withGaps(a, math.MinInt, math.MaxInt), 350, "{} 11")
	wantAt(t, "x", withGaps(a, 10, 9, math.MaxInt, math.MinInt), 5, `{__name__="x",a="1"} 3`)
	wantAt(t, "x", withGaps(a, 6, 8), 5, `{__name__="x",a="1"} 3`)
	wantAt(t, "sum_over(x[1])", withGaps(a, 10, 100, 4, 4, 6, 7, 0, 3), 5, `{a="1"} 3`)
	wantAt(t, "sum_over(x[1])", withGaps(a, 7, 0, 5, 4, 6, 5), 5, `{a="1"} 3`)
}

func TestP29_1GapsAtTheEndsOfTime(t *testing.T) {
	const least, most = math.MinInt, math.MaxInt
	a := withGaps(few(), least, least, most, most)
	wantHole(t, "x", a, least)
	wantHole(t, "x", a, least+299)
	wantAt(t, "x", a, least+300)
	wantAt(t, "x", a, most-1)
	wantHole(t, "x", a, most)
	wantAt(t, "x offset 1", a, least)
	wantHole(t, "x offset 1", a, least+1)
	wantAt(t, "sum_over(x[999999999] offset 999999999)", a, least+999999998)
	wantHole(t, "sum_over(x[999999999] offset 999999999)", a, least+999999999)
	wantHole(t, "sum_over(x[999999999])", a, least)
	wantAt(t, "x offset 1", a, most)
	all := withGaps(few(), least, most)
	wantAt(t, "x offset 7", all, least)
	wantAt(t, "x offset 7", all, least+6)
	wantHole(t, "x offset 7", all, least+7)
	wantAt(t, "x offset 7", withGaps(few(), -5, 5), least)
}

// wrongAnswers is answers that may not be asked.
func wrongAnswers() map[string]api.Answer {
	x, y := series(`{a="x"}`, samples(1, 1)...), series(`{a="y"}`, samples(1, 1)...)
	return map[string]api.Answer{
		"labels that fall":         {Series: []api.Series{y, x}},
		"labels twice":             {Series: []api.Series{x, x}},
		"labels that fall at last": {Series: []api.Series{x, y, x}},
		"no labels":                {Series: []api.Series{{Samples: samples(1, 1)}}},
		"no labels, no samples":    {Series: []api.Series{{}}},
		"an empty value":           {Series: []api.Series{{Labels: []api.Label{{Name: "a"}}}}},
		"a wrong name":             {Series: []api.Series{x, {Labels: []api.Label{{Name: "é", Value: "x"}}}}},
		"a name twice":             {Series: []api.Series{{Labels: []api.Label{{Name: "a", Value: "x"}, {Name: "a", Value: "y"}}}}},
		"names that fall":          {Series: []api.Series{{Labels: []api.Label{{Name: "b", Value: "x"}, {Name: "a", Value: "y"}}}}},
		"nine labels":              {Series: []api.Series{{Labels: slices.Repeat(x.Labels, 9)}}},
		"times that fall":          {Series: []api.Series{series(`{a="x"}`, samples(2, 1, 1, 1)...)}},
		"times twice":              {Series: []api.Series{x, series(`{a="y"}`, samples(1, 1, 2, 1, 2, 1)...)}},
		"times that wrap round":    {Series: []api.Series{series(`{a="y"}`, samples(math.MaxInt, 1, math.MinInt, 1)...)}},
	}
}

// wrongQueries is trees that may not be.
func wrongQueries() map[string]api.Query {
	x := api.Query{Kind: api.QuerySelect, Name: "x"}
	forEver := api.Query{Kind: api.QueryJoin, Name: "+", Kids: make([]api.Query, 2)}
	forEver.Kids[0], forEver.Kids[1] = forEver, forEver
	return map[string]api.Query{
		"none": {}, "a name that is taken": {Kind: api.QuerySelect, Name: "sum"}, "a Range": {Kind: api.QuerySelect, Name: "x", Range: 5}, "an Offset below 0": {Kind: api.QuerySelect, Name: "x", Offset: -1},
		"a call of no Range": {Kind: api.QueryCall, Name: "sum_over", Kids: []api.Query{x}}, "a call of nothing": {Kind: api.QueryCall, Name: "sum_over"}, "a fold of no word": {Kind: api.QueryFold, Kids: []api.Query{x}}, "a fold of nothing": {Kind: api.QueryFold, Name: "sum"}, "a join of one": {Kind: api.QueryJoin, Name: "+", Kids: []api.Query{x}}, "a join of no word": {Kind: api.QueryJoin, Name: "/", Kids: []api.Query{x, x}},
		"one that goes on for ever": forEver, "a wrong Matcher": {Kind: api.QuerySelect, Matchers: []api.Matcher{{Kind: 9, Name: "a"}}}, "a Kind above all": {Kind: 6},
	}
}

func TestP29_1WhatMayNotBe(t *testing.T) {
	for what, a := range wrongAnswers() {
		for _, text := range []string{"x", "5", "sum (x)", "{} + 1", `{a="z"}`} {
			for _, b := range []api.Answer{a, withGaps(a, math.MinInt, math.MaxInt)} {
				if l, hole, e := At(parsed(t, text), b, 5); e != api.ErrArg || hole || l != nil {
					t.Errorf("%s of %s: %s, %v, %v", text, what, pointTexts(l), hole, e)
				}
			}
		}
	}
	for what, q := range wrongQueries() {
		for _, a := range []api.Answer{few(), {}, withGaps(few(), math.MinInt, math.MaxInt), wrongAnswers()["labels twice"]} {
			if l, hole, e := At(q, a, 5); e != api.ErrArg || hole || l != nil {
				t.Errorf("%s: %s, %v, %v", what, pointTexts(l), hole, e)
			}
		}
	}
}

func TestP29_1OfManySeries(t *testing.T) {
	began := time.Now()
	var l []api.Series
	for i := range 50000 {
		text := fmt.Sprintf(`{__name__="x%d",a="%05d",b="%d"}`, i%2, i/2, i%1000)
		l = append(l, series(text, samples(1, i, 202, 1, 1000, 5)...))
	}
	a := answer(l...)
	for i := range 100000 {
		a.Gaps = append(a.Gaps, api.Gap{From: -i * 10, To: -i*10 - 1 + i%3}) // every third one has no time
	}
	wantAt(t, "count ({})", a, 500, "{} 50000")
	wantAt(t, "count (x0 + x1)", a, 400)
	wantAt(t, "count (sum_over(x0[400]))", a, 400, "{} 25000")
	wantAt(t, "count (x0 * 2 or x1 * 2 or x0 and x1)", a, 301, "{} 50000")
	wantAt(t, "count ({})", a, 290, "{} 50000")
	wantHole(t, "count ({})", a, 289)
	q := parsed(t, "sum (sum by (b) ({}) + sum without (a) (sum_over(x1[100])) * count by (b) (x0 or x1))")
	r, e := Over(q, a, 1000, 1199, 1)
	if e != api.OK || len(r.Points) != 100 || len(r.Holes) > 0 {
		t.Errorf("over many series: %s, %v", brief(r), e)
	}
	if spent := time.Since(began); spent > 20*time.Second {
		t.Errorf("it took %v", spent)
	}
}
