package query

import (
	"fmt"
	"math/rand"
	"slices"
	"strings"
	"testing"
	"time"

	"dryrot/api"
	"dryrot/labels"
	"dryrot/match"
)

// brief is the beginning of a thing's words, since some are long.
func brief(x any) string { return fmt.Sprintf("%.400s", fmt.Sprintf("%+v", x)) }

func number(n uint64) api.Query { return api.Query{Kind: api.QueryNumber, Number: n} }

func selector(name string, matchers ...api.Matcher) api.Query {
	return api.Query{Kind: api.QuerySelect, Name: name, Matchers: matchers}
}

// window is a selector with a Range and an Offset.
func window(name string, back, offset int) api.Query {
	return api.Query{Kind: api.QuerySelect, Name: name, Range: back, Offset: offset}
}

func call(name string, kid api.Query) api.Query {
	return api.Query{Kind: api.QueryCall, Name: name, Kids: []api.Query{kid}}
}

func fold(name string, kid api.Query) api.Query {
	return api.Query{Kind: api.QueryFold, Name: name, Kids: []api.Query{kid}}
}

func foldBy(name string, kid api.Query, names ...string) api.Query {
	return api.Query{Kind: api.QueryFold, Name: name, Labels: names, Kids: []api.Query{kid}}
}

func foldWithout(name string, kid api.Query, names ...string) api.Query {
	return api.Query{Kind: api.QueryFold, Name: name, Labels: names, Without: true, Kids: []api.Query{kid}}
}

func join(left api.Query, word string, right api.Query) api.Query {
	return api.Query{Kind: api.QueryJoin, Name: word, Kids: []api.Query{left, right}}
}

func is(name, value string) api.Matcher { return api.Matcher{Kind: api.Is, Name: name, Value: value} }

// chain is a tree that is so deep, and has so many folds within one another.
func chain(deep int) api.Query {
	q := selector("x")
	for range deep - 1 {
		q = fold("sum", q)
	}
	return q
}

// plainSame is whether two trees are the same, told once more: by their words, where a list that is nil and one that is empty are written alike.
func plainSame(a, b api.Query) bool { return words(a) == words(b) }

// words are all that a tree has.
func words(q api.Query) string {
	s := fmt.Sprintf("%d %q %d %d %q %v %d", q.Kind, q.Name, q.Range, q.Offset, q.Labels, q.Without, q.Number)
	for _, m := range q.Matchers {
		s += fmt.Sprintf(" %d %q %q", m.Kind, m.Name, m.Value)
	}
	for _, kid := range q.Kids {
		s += " (" + words(kid) + ")"
	}
	return s
}

func isZero(q api.Query) bool { return plainSame(q, api.Query{}) }

// plainDeep is how deep a tree is, told once more.
func plainDeep(q api.Query) int {
	deep := 0
	for _, kid := range q.Kids {
		deep = max(deep, plainDeep(kid))
	}
	return deep + 1
}

func plainParts(q api.Query) int {
	n := 1
	for _, kid := range q.Kids {
		n += plainParts(kid)
	}
	return n
}

var (
	folds = []string{"sum", "min", "max", "count", "group"}
	calls = []string{"first_over", "last_over", "min_over", "max_over", "sum_over", "count_over", "delta_over", "changes_over"}
	joins = [][]string{{"or"}, {"and", "unless"}, {"+", "-"}, {"*"}}
)

func plainLevel(word string) int {
	return slices.IndexFunc(joins, func(l []string) bool { return slices.Contains(l, word) })
}

func plainTaken(word string) bool {
	return slices.Contains(folds, word) || slices.Contains(calls, word) || plainLevel(word) >= 0 || slices.Contains([]string{"by", "without", "offset"}, word)
}

func plainSelector(q api.Query) bool {
	rest := q
	rest.Name, rest.Matchers, rest.Range, rest.Offset = "", nil, 0, 0
	return plainSame(rest, api.Query{Kind: api.QuerySelect}) && (q.Name == "" || labels.Name(q.Name) && !plainTaken(q.Name)) && match.Can(q.Matchers) && q.Range >= 0 && q.Range < 1e9 && q.Offset >= 0 && q.Offset < 1e9
}

// plainRight is what the chapter says of a tree's parts, told once more.
func plainRight(q api.Query) bool {
	kids := q.Kids
	q.Kids = nil
	switch {
	case q.Kind == api.QuerySelect:
		return plainSelector(q) && q.Range == 0 && len(kids) == 0
	case q.Kind == api.QueryNumber:
		q.Number = 0
		return plainSame(q, api.Query{Kind: api.QueryNumber}) && len(kids) == 0
	case q.Kind == api.QueryCall && slices.Contains(calls, q.Name):
		return plainSame(q, api.Query{Kind: api.QueryCall, Name: q.Name}) && len(kids) == 1 && plainSelector(kids[0]) && kids[0].Range > 0
	case q.Kind == api.QueryFold && slices.Contains(folds, q.Name):
		for _, name := range q.Labels {
			if !labels.Name(name) {
				return false
			}
		}
		q.Labels, q.Without = nil, false
		return plainSame(q, api.Query{Kind: api.QueryFold, Name: q.Name}) && len(kids) == 1 && plainRight(kids[0])
	case q.Kind == api.QueryJoin && plainLevel(q.Name) >= 0:
		return plainSame(q, api.Query{Kind: api.QueryJoin, Name: q.Name}) && len(kids) == 2 && plainRight(kids[0]) && plainRight(kids[1])
	}
	return false
}

// plainText is what the chapter says of a tree's print, told once more; the tree is right.
func plainText(q api.Query) string {
	switch q.Kind {
	case api.QueryNumber:
		return fmt.Sprint(q.Number)
	case api.QuerySelect:
		s, _ := match.Text(q.Matchers)
		if q.Name != "" && s == "{}" {
			s = ""
		}
		s = q.Name + s
		if q.Range != 0 {
			s += fmt.Sprintf("[%d]", q.Range)
		}
		if q.Offset != 0 {
			s += fmt.Sprintf(" offset %d", q.Offset)
		}
		return s
	case api.QueryCall:
		return q.Name + "(" + plainText(q.Kids[0]) + ")"
	case api.QueryFold:
		names := " "
		if q.Without {
			names = " without (" + strings.Join(q.Labels, ",") + ") "
		} else if len(q.Labels) > 0 {
			names = " by (" + strings.Join(q.Labels, ",") + ") "
		}
		return q.Name + names + "(" + plainText(q.Kids[0]) + ")"
	}
	left, right, level := plainText(q.Kids[0]), plainText(q.Kids[1]), plainLevel(q.Name)
	if q.Kids[0].Kind == api.QueryJoin && plainLevel(q.Kids[0].Name) < level {
		left = "(" + left + ")"
	}
	if q.Kids[1].Kind == api.QueryJoin && plainLevel(q.Kids[1].Name) <= level {
		right = "(" + right + ")"
	}
	return left + " " + q.Name + " " + right
}

func plainCan(q api.Query) bool {
	return plainRight(q) && plainDeep(q) <= 12 && len(plainText(q)) <= 400
}

// wantTree holds a tree that may be against its print, both ways.
func wantTree(t *testing.T, q api.Query, want string) {
	t.Helper()
	if s, e := Print(q); e != api.OK || s != want || !Can(q) {
		t.Errorf("Print(%s) is %q, %v; want %q", brief(q), s, e, want)
	}
	if back, e := Parse(want); e != api.OK || !plainSame(back, q) || !Same(back, q) {
		t.Errorf("Parse(%q) is %s, %v; want %s", want, brief(back), e, brief(q))
	}
}

// wantWrong asks that a tree may not be.
func wantWrong(t *testing.T, q api.Query) {
	t.Helper()
	if Can(q) {
		t.Errorf("Can(%s)", brief(q))
	}
	if s, e := Print(q); e != api.ErrArg || s != "" {
		t.Errorf("Print(%s) is %q, %v", brief(q), s, e)
	}
	if n := Reach(q); n != 0 {
		t.Errorf("Reach(%s) is %d", brief(q), n)
	}
	if l := Selects(q); len(l) != 0 {
		t.Errorf("Selects(%s) is %s", brief(q), brief(l))
	}
}

func TestExampleOfTheChapter(t *testing.T) {
	one := foldBy("sum", selector("up", is("job", "x")), "a")
	wantTree(t, join(one, "-", join(number(1), "*", number(2))), `sum by (a) (up{job="x"}) - 1 * 2`)
	q, e := Parse(`sum by (a) (up{job="x"}) - 1 * 2`)
	if e != api.OK || q.Kind != api.QueryJoin || q.Name != "-" || !Same(q.Kids[0], one) {
		t.Errorf("the example is %s, %v", brief(q), e)
	}
}

func TestP28_2PrintOfEachKind(t *testing.T) {
	a, b, c := selector("a"), selector("b"), selector("c")
	for want, q := range map[string]api.Query{
		"0": number(0), "18446744073709551615": number(1<<64 - 1), "7": number(7),
		"a": a, "{}": selector(""), `{a="x"}`: selector("", is("a", "x")), `up{a="x",b!~"y.*"}`: selector("up", is("a", "x"), api.Matcher{Kind: api.NotLike, Name: "b", Value: "y.*"}), `up{by=""}`: selector("up", is("by", "")), `{a="\"}"}`: selector("", is("a", `"}`)),
		"a offset 5": window("a", 0, 5), "{} offset 999999999": window("", 0, 999999999),
		"sum_over(a[5])": call("sum_over", window("a", 5, 0)), "last_over({}[999999999] offset 7)": call("last_over", window("", 999999999, 7)), `min_over(a{b="c"}[1])`: call("min_over", api.Query{Kind: api.QuerySelect, Name: "a", Matchers: []api.Matcher{is("b", "c")}, Range: 1}),
		"sum (a)": fold("sum", a), "min by (x) (a)": foldBy("min", a, "x"), "max by (x,y,x) (a)": foldBy("max", a, "x", "y", "x"), "count without () (a)": foldWithout("count", a), "group without (by,or,sum) (a)": foldWithout("group", a, "by", "or", "sum"), "sum by (__name__) (1)": foldBy("sum", number(1), "__name__"),
		"sum (min by (x) (sum_over(a[5])))": fold("sum", foldBy("min", call("sum_over", window("a", 5, 0)), "x")),
		"a + b":                             join(a, "+", b), "a or b": join(a, "or", b), "a - b - c": join(join(a, "-", b), "-", c), "a - (b - c)": join(a, "-", join(b, "-", c)), "a + b - c": join(join(a, "+", b), "-", c), "a + (b - c)": join(a, "+", join(b, "-", c)), "a * b * c": join(join(a, "*", b), "*", c), "a * (b * c)": join(a, "*", join(b, "*", c)),
		"a and b unless c": join(join(a, "and", b), "unless", c), "a and (b unless c)": join(a, "and", join(b, "unless", c)), "a or b or c": join(join(a, "or", b), "or", c), "a or (b or c)": join(a, "or", join(b, "or", c)),
		"(a + b) * c": join(join(a, "+", b), "*", c), "a * (b + c)": join(a, "*", join(b, "+", c)), "a * b + c": join(join(a, "*", b), "+", c), "a + b * c": join(a, "+", join(b, "*", c)),
		"(a or b) and c": join(join(a, "or", b), "and", c), "a and (b or c)": join(a, "and", join(b, "or", c)), "a and b or c": join(join(a, "and", b), "or", c), "a or b and c": join(a, "or", join(b, "and", c)),
		"(a unless b) + c": join(join(a, "unless", b), "+", c), "a + b unless c": join(join(a, "+", b), "unless", c), "(a or b) * (b or c)": join(join(a, "or", b), "*", join(b, "or", c)),
		"sum (a or b) + c": join(fold("sum", join(a, "or", b)), "+", c), "a offset 5 * b offset 6": join(window("a", 0, 5), "*", window("b", 0, 6)),
	} {
		wantTree(t, q, want)
	}
}

func TestP28_2JoinsWithinJoins(t *testing.T) {
	words := []string{"or", "and", "unless", "+", "-", "*"}
	for _, outer := range words {
		for _, inner := range words {
			left := join(join(selector("a"), inner, selector("b")), outer, selector("c"))
			right := join(selector("a"), outer, join(selector("b"), inner, selector("c")))
			wantTree(t, left, plainText(left))
			wantTree(t, right, plainText(right))
			wantTree(t, fold("sum", left), "sum ("+plainText(left)+")")
		}
	}
}

func TestP28_2NamesThatAreTaken(t *testing.T) {
	taken := slices.Concat(folds, calls, []string{"by", "without", "offset", "and", "or", "unless"})
	for _, word := range taken {
		wantWrong(t, selector(word))
		wantWrong(t, selector(word, is("a", "x")))
		wantTree(t, foldBy("sum", selector(word+"_"), word), "sum by ("+word+") ("+word+"_)")
		wantTree(t, selector("", is(word, "x")), `{`+word+`="x"}`)
		wantTree(t, selector(strings.ToUpper(word)), strings.ToUpper(word))
		wantTree(t, selector("_"+word), "_"+word)
		for _, s := range []string{word, "1 + " + word, word + ` {a="x"}`, "sum_over(" + word + "[5])", "sum (" + word + ")", "(" + word + ")"} {
			wantSyntax(t, s)
		}
	}
}

func TestP28_2WrongTrees(t *testing.T) {
	x := selector("x")
	for _, q := range []api.Query{
		{}, {Kind: 6}, {Kind: -1}, {Name: "x"}, {Kind: 0, Kids: []api.Query{x}}, {Kind: 6, Name: "+", Kids: []api.Query{x, x}},
		selector("1"), selector("x y"), selector("é"), selector(strings.Repeat("n", 25)), selector("x", is("", "v")), selector("x", is("a", "\n")), selector("x", api.Matcher{Kind: 5, Name: "a"}), selector("x", api.Matcher{Kind: api.Like, Name: "a", Value: "("}), selector("x", slices.Repeat([]api.Matcher{is("a", "x")}, 7)...), {Kind: api.QuerySelect, Name: "+"}, {Kind: api.QuerySelect, Name: "*"},
		window("x", 5, 0), window("x", -1, 0), window("x", 0, -1), window("x", 0, 1000000000), window("x", 1, 1), fold("sum", window("x", 5, 0)), join(window("x", 5, 0), "+", x), join(x, "+", window("x", 5, 0)),
		call("sum_over", x), call("sum_over", window("x", -5, 0)), call("sum_over", window("x", 1000000000, 0)), call("sum_over", window("x", 5, -1)), call("sum_over", window("x", 5, 1000000000)), call("sum_over", number(1)), call("sum_over", call("sum_over", window("x", 5, 0))), call("sum_over", fold("sum", x)), call("sum_over", join(window("x", 5, 0), "+", x)), call("sum", window("x", 5, 0)), call("", window("x", 5, 0)), call("avg_over", window("x", 5, 0)), call("sum_over", window("sum", 5, 0)), call("sum_over", api.Query{Kind: api.QueryFold, Name: "sum", Range: 5, Kids: []api.Query{x}}), call("sum_over", api.Query{}),
		{Kind: api.QueryCall, Name: "sum_over"}, {Kind: api.QueryCall, Name: "sum_over", Kids: []api.Query{window("x", 5, 0), window("x", 5, 0)}},
		fold("", x), fold("avg", x), fold("sum_over", x), fold("Sum", x), foldBy("sum", x, ""), foldBy("sum", x, "1"), foldBy("sum", x, "a", "b c"), foldWithout("sum", x, "é"), foldWithout("sum", x, strings.Repeat("n", 25)), fold("sum", api.Query{}), fold("sum", fold("avg", x)), {Kind: api.QueryFold, Name: "sum"}, {Kind: api.QueryFold, Name: "sum", Kids: []api.Query{x, x}}, foldBy("sum", x, make([]string, 500)...), foldBy("sum", x, slices.Repeat([]string{"a"}, 401)...),
		join(x, "", x), join(x, "/", x), join(x, "xor", x), join(x, "OR", x), join(x, "by", x), join(x, "+", api.Query{}), join(api.Query{}, "+", x), {Kind: api.QueryJoin, Name: "+"}, {Kind: api.QueryJoin, Name: "+", Kids: []api.Query{x}}, {Kind: api.QueryJoin, Name: "+", Kids: []api.Query{x, x, x}}, {Kind: api.QueryJoin, Name: "+", Kids: slices.Repeat([]api.Query{x}, 500)},
	} {
		wantWrong(t, q)
		wantWrong(t, fold("sum", q))
		wantWrong(t, join(q, "+", x))
		wantWrong(t, join(x, "or", q))
		if !plainSelector(q) {
			wantWrong(t, call("sum_over", q))
		}
	}
}

// kinds is a query of each kind, as it may be.
func kinds() []api.Query {
	x := selector("x")
	return []api.Query{selector("x"), window("x", 0, 5), selector("x", is("a", "b")), number(0), number(5), call("sum_over", window("x", 5, 0)), fold("sum", x), foldBy("sum", x, "a"), foldWithout("sum", x, "a"), join(x, "+", x)}
}

func TestP28_2FieldsThatAKindHasNot(t *testing.T) {
	one := selector("x")
	for _, q := range kinds() {
		for field, set := range map[string]func(*api.Query){
			"Name":     func(q *api.Query) { q.Name = "x" },
			"Matchers": func(q *api.Query) { q.Matchers = []api.Matcher{is("a", "x")} },
			"Range":    func(q *api.Query) { q.Range = 5 },
			"Offset":   func(q *api.Query) { q.Offset = 5 },
			"Labels":   func(q *api.Query) { q.Labels = []string{"a"} },
			"Without":  func(q *api.Query) { q.Without = true },
			"Number":   func(q *api.Query) { q.Number = 5 },
			"Kids":     func(q *api.Query) { q.Kids = []api.Query{one} },
			"no Kids":  func(q *api.Query) { q.Kids = nil },
			"Kind":     func(q *api.Query) { q.Kind = q.Kind%5 + 1 },
			"no Kind":  func(q *api.Query) { q.Kind = 0 },
		} {
			other := q
			set(&other)
			if Can(other) != plainCan(other) {
				t.Errorf("%s with %s: Can is %v", brief(q), field, Can(other))
			}
			if other.Kind == api.QuerySelect {
				inner := other
				inner.Range = 5
				if Can(call("sum_over", inner)) != plainCan(call("sum_over", inner)) {
					t.Errorf("a call of %s with %s: Can is %v", brief(q), field, !plainCan(call("sum_over", inner)))
				}
			}
		}
		empty := q
		if len(q.Matchers) == 0 {
			empty.Matchers = []api.Matcher{}
		}
		if len(q.Labels) == 0 {
			empty.Labels = make([]string, 0, 4)
		}
		if len(q.Kids) == 0 {
			empty.Kids = []api.Query{}
		}
		wantTree(t, empty, plainText(q))
	}
}

func TestP28_2Depth(t *testing.T) {
	for deep := 1; deep <= 14; deep++ {
		left, right := number(1), number(1)
		for range deep - 1 {
			left, right = join(left, "+", number(1)), join(number(1), "+", right)
		}
		for _, q := range []api.Query{chain(deep), left, right} {
			if deep <= 12 {
				wantTree(t, q, plainText(q))
			} else {
				wantWrong(t, q)
				wantSyntax(t, plainText(q))
			}
		}
		within := call("sum_over", window("x", 5, 0))
		for range deep - 2 {
			within = fold("max", within)
		}
		if want := max(deep, 2) <= 12; Can(within) != want {
			t.Errorf("a call %d deep: Can is %v", deep, !want)
		}
	}
}

// lengthened is a tree whose print has so many bytes, 390 to 410.
func lengthened(n int) api.Query {
	names := slices.Repeat([]string{strings.Repeat("n", 24)}, 15)
	return foldBy("sum", selector("x"), append(names, strings.Repeat("m", n-388))...)
}

func TestP28_2LengthOfThePrint(t *testing.T) {
	for n := 390; n <= 410; n++ {
		q := lengthened(n)
		if len(plainText(q)) != n {
			t.Fatalf("the print %q has %d bytes, want %d", plainText(q), len(plainText(q)), n)
		}
		if n <= 400 {
			wantTree(t, q, plainText(q))
		} else {
			wantWrong(t, q)
		}
	}
}

func TestP28_3Reach(t *testing.T) {
	for s, want := range map[string]int{
		"1": 0, "1 + 2": 0, "sum (1)": 0, "x": 300, "x offset 5": 305, "{}": 300, "x or y offset 7 or z": 307, "sum_over(x[5])": 5, "sum_over(x[5] offset 7)": 12, "sum_over(x[5] offset 7) or 1": 12, "sum_over(x[5]) or y": 300, "y or sum_over(x[301])": 301, "sum_over(x[300] offset 1) + sum_over(x[1] offset 300) + x": 301, "sum by (a) (min (sum_over(x[999999999] offset 999999999)))": 1999999998, "x offset 9 - max (y offset 10)": 310, "1 * x": 300,
	} {
		q, e := Parse(s)
		if n := Reach(q); e != api.OK || n != want {
			t.Errorf("Reach(%s) is %d, %v; want %d", s, n, e, want)
		}
	}
}

func TestP28_3Selects(t *testing.T) {
	for s, want := range map[string][]api.Query{
		"1": nil, "sum (1 + 2)": nil, "x": {selector("x")}, `sum_over(x{a="b"}[5] offset 7)`: {{Kind: api.QuerySelect, Name: "x", Matchers: []api.Matcher{is("a", "b")}, Range: 5, Offset: 7}},
		"(a + b) * (c or sum (d) - 1) and e": {selector("a"), selector("b"), selector("c"), selector("d"), selector("e")}, "a or a or a": {selector("a"), selector("a"), selector("a")}, "a * (b * (c * d)) * e offset 3": {selector("a"), selector("b"), selector("c"), selector("d"), window("e", 0, 3)},
	} {
		q, e := Parse(s)
		if l := Selects(q); e != api.OK || !slices.EqualFunc(l, want, plainSame) {
			t.Errorf("Selects(%s) is %s, %v; want %s", s, brief(l), e, brief(want))
		}
	}
}

func TestP28_3SameInEachField(t *testing.T) {
	full := func() api.Query {
		return api.Query{Kind: 9, Name: "n", Matchers: []api.Matcher{is("a", "x"), is("b", "y")}, Range: 1, Offset: 2, Labels: []string{"l", "m"}, Without: true, Number: 3, Kids: []api.Query{{Kind: 1}, {Name: "k"}}}
	}
	if !Same(full(), full()) || !Same(api.Query{}, api.Query{}) {
		t.Error("a tree is not the same as its twin")
	}
	for field, change := range map[string]func(*api.Query){
		"Kind": func(q *api.Query) { q.Kind = -9 }, "Name": func(q *api.Query) { q.Name = "N" }, "no Name": func(q *api.Query) { q.Name = "" },
		"Matchers": func(q *api.Query) { q.Matchers = nil }, "one Matcher": func(q *api.Query) { q.Matchers = q.Matchers[:1] }, "a Matcher's Kind": func(q *api.Query) { q.Matchers[1].Kind = 2 }, "a Matcher's Name": func(q *api.Query) { q.Matchers[0].Name = "c" }, "a Matcher's Value": func(q *api.Query) { q.Matchers[1].Value = "x" }, "the Matchers' order": func(q *api.Query) { slices.Reverse(q.Matchers) },
		"Range": func(q *api.Query) { q.Range = -1 }, "Offset": func(q *api.Query) { q.Offset = 1 }, "Labels": func(q *api.Query) { q.Labels = nil }, "one Label": func(q *api.Query) { q.Labels = q.Labels[1:] }, "a Label": func(q *api.Query) { q.Labels[1] = "l" }, "the Labels' order": func(q *api.Query) { slices.Reverse(q.Labels) }, "Without": func(q *api.Query) { q.Without = false }, "Number": func(q *api.Query) { q.Number = 0 },
		"Kids": func(q *api.Query) { q.Kids = nil }, "one Kid": func(q *api.Query) { q.Kids = q.Kids[:1] }, "a Kid": func(q *api.Query) { q.Kids[1].Name = "l" }, "the Kids' order": func(q *api.Query) { slices.Reverse(q.Kids) }, "a Kid's Kids": func(q *api.Query) { q.Kids[0].Kids = []api.Query{{}} }, "one more Kid": func(q *api.Query) { q.Kids = append(q.Kids, api.Query{}) },
	} {
		other := full()
		change(&other)
		if Same(full(), other) || Same(other, full()) || Same(fold("sum", full()), fold("sum", other)) {
			t.Errorf("two trees are the same, but for %s", field)
		}
		if !Same(other, other) {
			t.Errorf("a tree with another %s is not the same as itself", field)
		}
	}
}

func TestP28_3SameWithoutLists(t *testing.T) {
	bare := api.Query{Kind: api.QueryJoin, Kids: []api.Query{{Kind: api.QuerySelect}}}
	empty := api.Query{Kind: api.QueryJoin, Matchers: []api.Matcher{}, Labels: []string{}, Kids: []api.Query{{Kind: api.QuerySelect, Matchers: make([]api.Matcher, 0, 3), Labels: make([]string, 0, 3), Kids: make([]api.Query, 0, 3)}}}
	if !Same(bare, empty) || !Same(empty, bare) || !Same(empty, empty) {
		t.Error("a list that is nil, and one that is empty, are not the same")
	}
}

// wide is a tree of so many parts, two deep; long is one that is as deep as it has parts.
func wide(parts int) api.Query { return api.Query{Kids: make([]api.Query, parts-1)} }

func long(parts int) api.Query {
	q := api.Query{Name: "last"}
	for range parts - 1 {
		q = api.Query{Kids: []api.Query{q}}
	}
	return q
}

// bushy is a tree of so many parts, whose Kids have two Kids each, and some more.
func bushy(parts int) api.Query {
	var q api.Query
	for plainParts(q)+3 <= parts {
		q.Kids = append(q.Kids, api.Query{Kids: make([]api.Query, 2)})
	}
	q.Kids = append(q.Kids, make([]api.Query, parts-plainParts(q))...)
	return q
}

func TestP28_3SameOfManyParts(t *testing.T) {
	for _, make := range []func(int) api.Query{wide, long, bushy} {
		for _, n := range []int{1, 2, 399, 400, 401, 402, 1000} {
			q := make(n)
			if plainParts(q) != n {
				t.Fatalf("a tree has %d parts, want %d", plainParts(q), n)
			}
			if Same(q, q) != (n <= 400) || Same(q, make(n)) != (n <= 400) {
				t.Errorf("Same of %d parts is %v", n, n > 400)
			}
			if Same(q, make(n+1)) || Same(make(n+1), q) {
				t.Errorf("trees of %d and %d parts are the same", n, n+1)
			}
			wantWrong(t, q)
		}
	}
}

// TestTreesThatGoOnForEver asks for ends where a tree has itself among its Kids.
func TestTreesThatGoOnForEver(t *testing.T) {
	for _, n := range []int{1, 2, 3, 1000} {
		for kind := range 7 {
			for _, name := range []string{"", "sum", "sum_over", "+", "or"} {
				kids := make([]api.Query, n)
				q := api.Query{Kind: kind, Name: name, Kids: kids}
				for i := range kids {
					kids[i] = q
				}
				wantWrong(t, q)
				if Same(q, q) || Same(q, number(1)) || Same(number(1), q) {
					t.Errorf("a tree without an end is the same as one")
				}
			}
		}
	}
}

func TestGreatTrees(t *testing.T) {
	began := time.Now()
	names := slices.Repeat([]string{strings.Repeat("n", 24)}, 400)
	q := foldBy("sum", selector(strings.Repeat("x", 24)), names...)
	for range 11 {
		q = join(q, "+", q)
	}
	deep := api.Query{}
	for range 1 << 16 {
		deep = fold("sum", deep)
	}
	for range 30 {
		wantWrong(t, q)
		wantWrong(t, deep)
		wantWrong(t, api.Query{Kind: api.QueryJoin, Name: "+", Kids: make([]api.Query, 1<<20)})
		wantWrong(t, foldBy("sum", selector("x"), slices.Repeat(names, 1000)...))
		wantWrong(t, selector(strings.Repeat("x", 1<<22), slices.Repeat([]api.Matcher{is("a", "x")}, 1<<16)...))
		wantWrong(t, selector("x", is("a", strings.Repeat("x", 1<<22))))
		if Same(q, q) || Same(deep, deep) {
			t.Error("Same of too many parts")
		}
	}
	if spent := time.Since(began); spent > 20*time.Second {
		t.Errorf("it took %v", spent)
	}
}

// someTree is a tree that is right, so deep at most.
func someTree(r *rand.Rand, deep int) api.Query {
	pick := func(words []string) string { return words[r.Intn(len(words))] }
	kind := r.Intn(6)
	if deep == 1 {
		kind = r.Intn(2)
	}
	switch kind {
	case 0:
		return number(r.Uint64() >> r.Intn(64))
	case 1:
		q := someSelector(r)
		q.Range = 0
		return q
	case 2:
		q := someSelector(r)
		q.Range = 1 + r.Intn(999999999)>>r.Intn(30)
		return call(pick(calls), q)
	case 3:
		q := fold(pick(folds), someTree(r, deep-1))
		q.Without = r.Intn(2) == 0
		for range r.Intn(4) {
			q.Labels = append(q.Labels, pick([]string{"a", "b", "_9", "by", "or", "offset", "sum", "__name__"}))
		}
		return q
	}
	return join(someTree(r, deep-1), pick(slices.Concat(joins...)), someTree(r, deep-1))
}

func someSelector(r *rand.Rand) api.Query {
	q := selector([]string{"", "up", "x", "_", "a9", "Sum", "offset_"}[r.Intn(7)])
	for range []int{0, 0, 1, 2, 6}[r.Intn(5)] {
		q.Matchers = append(q.Matchers, api.Matcher{Kind: 1 + r.Intn(4), Name: []string{"a", "by", "_0"}[r.Intn(3)], Value: []string{"x", "", "é b", "y.*", `)`, `a"b`, `}`}[r.Intn(4)]})
	}
	if r.Intn(2) == 0 {
		q.Offset = r.Intn(1000000000) >> r.Intn(30)
	}
	q.Range = r.Intn(100)
	return q
}

func TestP28_4ParseOfPrint(t *testing.T) {
	r := rand.New(rand.NewSource(1))
	count := 0
	for range 30000 {
		q := someTree(r, 1+r.Intn(6))
		if !plainCan(q) {
			wantWrong(t, q)
			continue
		}
		wantTree(t, q, plainText(q))
		count++
	}
	if count < 10000 {
		t.Errorf("only %d trees may be", count)
	}
}

func TestP28_2OfAnyDamagedTree(t *testing.T) {
	r := rand.New(rand.NewSource(2))
	count := map[bool]int{}
	for range 30000 {
		q := someTree(r, 1+r.Intn(4))
		at := &q
		for len(at.Kids) > 0 && r.Intn(3) > 0 {
			at = &at.Kids[r.Intn(len(at.Kids))]
		}
		switch r.Intn(8) {
		case 0:
			at.Name = []string{"", "x", "sum", "sum_over", "+", "or", "by", "1"}[r.Intn(8)]
		case 1:
			at.Kind = r.Intn(7)
		case 2:
			at.Range = []int{0, 5, -1, 1000000000, 999999999}[r.Intn(5)]
		case 3:
			at.Offset = []int{0, 5, -1, 1000000000, 999999999}[r.Intn(5)]
		case 4:
			at.Labels = append(at.Labels, []string{"a", "", "1", "x y"}[r.Intn(4)])
		case 5:
			at.Without = !at.Without
		case 6:
			at.Number++
		case 7:
			at.Kids = append(at.Kids, number(1))
		}
		want := plainCan(q)
		count[want]++
		if want {
			wantTree(t, q, plainText(q))
		} else {
			wantWrong(t, q)
		}
	}
	if count[true] < 3000 || count[false] < 3000 {
		t.Errorf("of a kind there were too few: %v", count)
	}
}

func TestArgumentsAreLeftAsTheyAre(t *testing.T) {
	r := rand.New(rand.NewSource(3))
	for range 500 {
		q := someTree(r, 4)
		words := fmt.Sprintf("%+v", q)
		Print(q)
		Can(q)
		Same(q, q)
		Reach(q)
		for _, s := range Selects(q) {
			_ = append(s.Matchers, is("z", "z"))
			clear(s.Matchers[:cap(s.Matchers)])
		}
		if again := fmt.Sprintf("%+v", q); again != words {
			t.Fatalf("the tree %s is %s", words, again)
		}
	}
}

func TestAnswersAreNewMemory(t *testing.T) {
	room := make([]api.Matcher, 1, 5)
	room[0] = is("a", "x")
	q := api.Query{Kind: api.QuerySelect, Name: "x", Matchers: room, Labels: make([]string, 0, 5), Kids: make([]api.Query, 0, 5)}
	l := Selects(join(q, "or", join(q, "+", q)))
	if len(l) != 3 {
		t.Fatalf("Selects is %s", brief(l))
	}
	for i, s := range l {
		clear(s.Matchers[:cap(s.Matchers)])
		_ = append(s.Labels, "z")
		_ = append(s.Kids, number(9))
		if i < 2 && !plainSame(l[i+1], q) || q.Labels[:5][0] != "" || q.Kids[:5][0].Kind != 0 || room[0] != is("a", "x") {
			t.Errorf("a selector shares memory: %s, %s", brief(l), brief(q))
		}
	}
	bare := api.Query{Kind: api.QuerySelect, Name: "x", Matchers: room[:0]}
	if l := Selects(bare); len(l) != 1 || cap(l[0].Matchers) > 0 {
		t.Errorf("a selector shares room: %s", brief(l))
	}
	const s = `sum by (a,b) (x{a="b"}) + sum by (a,b) (x{a="b"})`
	one, _ := Parse(s)
	two, _ := Parse(s)
	kids := one.Kids
	clear(kids[0].Labels[:cap(kids[0].Labels)])
	clear(kids[0].Kids[0].Matchers[:cap(kids[0].Kids[0].Matchers)])
	if !Same(kids[1], two.Kids[1]) || !Same(two.Kids[0], two.Kids[1]) {
		t.Errorf("two answers share memory: %s, %s", brief(one), brief(two))
	}
}
