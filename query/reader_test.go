package query

import (
	"math/big"
	"math/rand"
	"regexp"
	"slices"
	"strings"
	"testing"

	"dryrot/api"
	"dryrot/labels"
	"dryrot/match"
)

// wantParse holds a text against the print of its tree.
func wantParse(t *testing.T, s, want string) {
	t.Helper()
	q, e := Parse(s)
	if p, _ := Print(q); e != api.OK || p != want {
		t.Errorf("Parse(%q) is %s, %v, which is %q; want %q", s, brief(q), e, p, want)
	}
}

func wantSyntax(t *testing.T, s string) {
	t.Helper()
	if q, e := Parse(s); e != api.ErrSyntax || !isZero(q) {
		t.Errorf("Parse(%q) is %s, %v", s, brief(q), e)
	}
}

func TestP28_1Blanks(t *testing.T) {
	for s, want := range map[string]string{
		"a+b": "a + b", "a  +  b": "a + b", "a -1": "a - 1", "5-3": "5 - 3", "( a )": "a", "sum(a)": "sum (a)", "sum  (  a  )": "sum (a)", "sum by(a)(b)": "sum by (a) (b)", "sum by ( a , b ) ( c )": "sum by (a,b) (c)", "sum by(a,b)(c)": "sum by (a,b) (c)", "sum without()(c)": "sum without () (c)", "sum without (  ) (c)": "sum without () (c)", "sum by ( ) (c)": "sum (c)",
		`up {a="x"}`: `up{a="x"}`, `up   {a="x",b="y z"}   offset   7`: `up{a="x",b="y z"} offset 7`, `up{a="x"}offset 7`: `up{a="x"} offset 7`, `{}offset 7`: `{} offset 7`, `up{}`: `up`, `up {} offset 7`: `up offset 7`, `sum_over(up[5]offset 7)`: `sum_over(up[5] offset 7)`, `sum_over ( up [ 5 ] )`: `sum_over(up[5])`, `sum_over(up {a="x"} [5])`: `sum_over(up{a="x"}[5])`,
		"(a)or(b)": "a or b", "{}or{}": "{} or {}", `{}and sum(a)unless b`: `{} and sum (a) unless b`, "1 or(2)": "1 or 2", "(1)or 2": "1 or 2", "a offset 5*b": "a offset 5 * b", "a offset 5 or b": "a offset 5 or b", "1*2": "1 * 2", `{a="x"}+{b="y"}`: `{a="x"} + {b="y"}`, `up{a=" } { \" "}`: `up{a=" } { \" "}`,
	} {
		wantParse(t, s, want)
	}
	for _, s := range []string{
		"", " ", "  ", " a", "a ", " a + b", "a + b ", " (a)", "(a) ", `{a="x"} `, " 1", "1 ", "a\t+ b", "a\n+ b", "\ta", "a\u00a0+ b", "a b", "1 2", "a 1", "1 a", "a or", "or a", "a orb", "aor b", "1or 2", "1 or2", "a offset5", "aoffset 5", "a offset 5or b", "a offset 5b", "sumby(a)(b)", "sum bya(b)", "sum_over(a[5]offset7)", "s um(a)", "sum _over(a[5])", "1 8", "a [5", "up{ }", `up{ a="x"}`, `up{a ="x"}`, `up{a= "x"}`, `up{a="x" }`, `up{a="x", b="y"}`, `up{a="x" ,b="y"}`, `up{a! ="x"}`, "sum_over(a[5 5])", "a offset 5 5", "a offset offset 5", "sum by (a b) (c)", "sum by by (a) (c)", "sum by (a) by (b) (c)",
	} {
		wantSyntax(t, s)
	}
}

func TestP28_1Numbers(t *testing.T) {
	for s, want := range map[string]string{"0": "0", "00": "0", "007": "7", "00000000000000000000": "0", "18446744073709551615": "18446744073709551615", "00000000000000000012": "12", "(5)": "5", "5*6": "5 * 6"} {
		wantParse(t, s, want)
	}
	for _, s := range []string{"18446744073709551616", "99999999999999999999", "000000000000000000000", "-1", "+1", "1.5", "1e3", "0x1", "1_000", "5x", "5_", "1,000", "٣", "5{}", "5[5]", "5 offset 5", "(5) offset 5", "5(5)", "1 + -1", "1 - - 1"} {
		wantSyntax(t, s)
	}
}

func TestP28_1Selectors(t *testing.T) {
	n24 := strings.Repeat("n", 24)
	for s, want := range map[string]string{
		"x": "x", "_": "_", "A9_": "A9_", n24: n24, "{}": "{}", `{a=""}`: `{a=""}`, `{a="x",a="x"}`: `{a="x",a="x"}`, `x{__name__="y"}`: `x{__name__="y"}`, `x{a="b",c!="d",e=~"f.*",g!~"h|i"}`: `x{a="b",c!="d",e=~"f.*",g!~"h|i"}`, `x{sum="by"}`: `x{sum="by"}`, `{a="\\"}`: `{a="\\"}`, `{a="\"}\\"}`: `{a="\"}\\"}`, `{a="{"}`: `{a="{"}`,
		"x offset 1": "x offset 1", "x offset 000000001": "x offset 1", "x offset 999999999": "x offset 999999999", "sum_over(x[000000007])": "sum_over(x[7])", "sum_over(x[999999999])": "sum_over(x[999999999])", "sum_over({}[5])": "sum_over({}[5])", "bys": "bys", "Or": "Or", "sums offset 5": "sums offset 5", "without1": "without1",
	} {
		wantParse(t, s, want)
	}
	for _, s := range []string{
		n24 + "n", "é", "x.y", "x:y", "x{", "x}", "{", "}", `{a="x"`, `{a="x}`, `{a="x"}}`, `{{a="x"}}`, `{a="x",}`, `{,}`, `{a}`, `{="x"}`, `{a=x}`, `{a='x'}`, `{a=="x"}`, `{1="x"}`, `{a=~"("}`, `{a="\n"}`, `{a="\x"}`, "{a=\"\x01\"}", "{a=\"\xff\"}", `{a="` + strings.Repeat("v", 41) + `"}`, "{" + strings.Repeat(`a="x",`, 6) + `a="x"}`, `{a="x"}x`, `{a="x"}{b="y"}`, `x{a="x"}{b="y"}`, `x{} {}`, "x y", "x(y)", "x()",
		"x offset", "x offset 0", "x offset 000000000", "x offset 0000000001", "x offset 1000000000", "x offset -1", "x offset +1", "x offset x", "x offset 5x", "x offset (5)", "x offset 5 offset 5", "offset 5", "offset", "x offset 1.5", "(x) offset 5", "(x + y) offset 5", "x OFFSET 5", "x offset 18446744073709551617",
		"x[5]", "{}[5]", "(x[5])", "x[5] + y", "y + x[5]", "sum (x[5])", "x[5] offset 5", "sum_over(x)", "sum_over(x offset 5)", "sum_over(x[])", "sum_over(x[0])", "sum_over(x[000000000])", "sum_over(x[0000000005])", "sum_over(x[1000000000])", "sum_over(x[-1])", "sum_over(x[5]", "sum_over(x[5)", "sum_over(x5])", "sum_over(x[5]])", "sum_over(x[[5]])", "sum_over(x[5][5])", "sum_over(x offset 5[5])", "sum_over(x offset 5 [5])", "sum_over(x[5x])", "sum_over([5])", "sum_over(x[5]{})",
	} {
		wantSyntax(t, s)
	}
}

func TestP28_1CallsAndFolds(t *testing.T) {
	for _, word := range calls {
		wantParse(t, word+"(x[5])", word+"(x[5])")
		for _, s := range []string{word, word + "()", word + " x[5]", word + "(x[5],y[5])", word + "((x[5]))", word + "(x[5] + 1)", word + "(1)", word + "(sum (x))", word + "(" + word + "(x[5]))", word + "[5]", word + " by (a) (x[5])", word + "(x[5]) offset 5", word + "(x[5])[5]", word + "(x[5]", word + "x[5])", word + "(x[5]))"} {
			wantSyntax(t, s)
		}
	}
	for _, word := range folds {
		for _, by := range []string{"", " by (a)", " by (a,b)", " by (by,without,sum,offset,or,sum_over,a,a)", " without ()", " without (a)", " without (or)"} {
			wantParse(t, word+by+" (x)", word+by+" (x)")
			wantParse(t, word+by+" (x + 1)", word+by+" (x + 1)")
			wantParse(t, word+by+"((x))", word+by+" (x)")
		}
		for _, s := range []string{word, word + "()", word + " x", word + "(x", word + "x)", word + "(x))", word + "(x,y)", word + "(x) by (a)", word + " by (x)", word + " by a (x)", word + " by (a x)", word + " by (,) (x)", word + " by (a,) (x)", word + " by (a,)) (x)", word + " by (,a) (x)", word + " by (a,,b) (x)", word + " by (1) (x)", word + " by (a.b) (x)", word + " by (+) (x)", word + " by ({}) (x)", word + " by ((a)) (x)", word + " by () ()", word + " by (a (x)", word + " by a) (x)", word + " by [a] (x)", word + ` by ("a") (x)`, word + " by (" + strings.Repeat("n", 25) + ") (x)", word + " without (x)", word + " offset 5 (x)", word + " or (x)", word + " by without (a) (x)", word + " (x) offset 5", word + "{}", word + "[5]", "by (a) " + word + " (x)"} {
			wantSyntax(t, s)
		}
	}
}

func TestP28_1Joins(t *testing.T) {
	for s, want := range map[string]string{
		"a or b and c + d * e": "a or b and c + d * e", "((a or (b and (c + (d * e)))))": "a or b and c + d * e", "(((a or b) and c) + d) * e": "(((a or b) and c) + d) * e", "a * b + c and d or e": "a * b + c and d or e", "((a * b) + c and d) or e": "a * b + c and d or e", "a - b - c": "a - b - c", "a - (b - c)": "a - (b - c)", "(a - b) - c": "a - b - c", "a+(b+c)": "a + (b + c)", "a unless b and c": "a unless b and c", "a unless (b and c)": "a unless (b and c)", "a or (b)": "a or b", "a and b or c and d": "a and b or c and d", "1 - 2 + 3 - 4": "1 - 2 + 3 - 4", "1 * (2 + 3) * 4": "1 * (2 + 3) * 4", "(a)": "a", "((a))": "a",
	} {
		wantParse(t, s, want)
	}
	for _, s := range []string{"+", "a +", "+ a", "a + + b", "a or or b", "a or and b", "a / b", "a % b", "a == b", "a ^ b", "a + (b", "a + b)", "(a + b", "()", "( )", "a ()", "(a) (b)", "(a)b", "a(b)", "a,b", "a + ,", "a OR b", "a Or b", "a || b", "a ! b", "a unless not b", "* a", "a **b", "a +* b", "a andor b", "a;b", "a # b", "a\x00", "a\x80"} {
		wantSyntax(t, s)
	}
}

func TestP28_1BracketsWithinBrackets(t *testing.T) {
	within := func(n int, s string) string { return strings.Repeat("(", n) + s + strings.Repeat(")", n) }
	for n := range 30 {
		for s, own := range map[string]int{"1": 0, "x": 0, "sum (x)": 1, "sum by (a) (x)": 1, "sum by () (x)": 1, "sum_over(x[5])": 1, "1 + 2": 0, `{a="((((((((((((("}`: 0, "sum (sum_over(x[5]))": 2, "(1) + (2)": 1, "sum by (a) (x) + (((1)))": 3} {
			q, e := Parse(within(n, s))
			if n+own <= 12 {
				if alone, _ := Parse(s); e != api.OK || !Same(q, alone) {
					t.Errorf("Parse(%q) is %s, %v", within(n, s), brief(q), e)
				}
			} else {
				wantSyntax(t, within(n, s))
			}
		}
	}
	wantParse(t, within(12, "1")+"+"+within(12, "2")+"*"+within(12, "3"), "1 + 2 * 3")
	wantSyntax(t, strings.Repeat("(", 400))
	wantSyntax(t, strings.Repeat("sum(", 100))
	wantSyntax(t, strings.Repeat("sum by(", 57))
}

func TestP28_1TreesThatMayNotBe(t *testing.T) {
	wantParse(t, strings.Repeat("1+", 11)+"1", strings.Repeat("1 + ", 11)+"1")
	wantSyntax(t, strings.Repeat("1+", 12)+"1")
	wantSyntax(t, strings.Repeat("1*", 199)+"1")
	wantSyntax(t, strings.Repeat("sum(", 12)+"x"+strings.Repeat(")", 12))
	for bytes, name := range map[int]string{399: strings.Repeat("n", 11), 400: strings.Repeat("n", 12), 401: strings.Repeat("n", 13)} {
		q, s := dense(name)
		if n := len(plainText(q)); n != bytes || plainDeep(q) > 12 || len(s) > 400 {
			t.Fatalf("a print of %d bytes, %d deep, text %d", n, plainDeep(q), len(s))
		}
		if bytes <= 400 {
			wantParse(t, s, plainText(q))
		} else {
			wantSyntax(t, s)
		}
	}
}

// dense is a tree whose print has more than its text, which has blanks only where they must be, and so many bytes as hang on a name.
func dense(name string) (api.Query, string) {
	row := func(word, sign string, n int, part api.Query, text string) (api.Query, string) {
		q, s := part, text
		for range n - 1 {
			q, s = join(q, word, part), s+sign+text
		}
		return q, s
	}
	q, s := row("*", "*", 4, number(1), "1")
	q, s = row("+", "+", 4, q, s)
	q, s = row("or", " or ", 5, q, s)
	b := strings.Repeat("b", 24)
	return join(q, "or", foldBy("sum", number(1), b, b, name)), s + " or sum by(" + b + "," + b + "," + name + ")(1)"
}

func TestP28_1LongTexts(t *testing.T) {
	x := strings.Repeat(" ", 397)
	wantParse(t, "1"+x+"+1", "1 + 1")
	wantParse(t, "1+"+x+"1", "1 + 1")
	for _, s := range []string{"1" + x + "+1 ", "1+ " + x + "1", strings.Repeat(" ", 401), strings.Repeat("(", 401), strings.Repeat("x", 1<<24), "?" + strings.Repeat("{", 400)} {
		if q, e := Parse(s); e != api.ErrFull || !isZero(q) {
			t.Errorf("Parse of %d bytes is %s, %v", len(s), brief(q), e)
		}
	}
	wantSyntax(t, strings.Repeat(" ", 400))
	wantSyntax(t, strings.Repeat("x", 400))
	wantSyntax(t, strings.Repeat("1", 400))
}

var (
	plainNumber = regexp.MustCompile(`\A[0-9]{1,20}\z`)
	plainLength = regexp.MustCompile(`\A[0-9]{1,9}\z`)
	plainPart   = regexp.MustCompile(`\A *([A-Za-z0-9_]+|\{(?:[^"}]|"(?:[^"\\]|\\["\\])*")*\}|[()\[\],+*-])`)
)

// plainPartsOf is a text's parts, told once more: by a pattern.
func plainPartsOf(s string) ([]string, bool) {
	if strings.HasPrefix(s, " ") {
		return nil, false
	}
	var parts []string
	for s != "" {
		m := plainPart.FindStringSubmatch(s)
		if m == nil {
			return nil, false
		}
		parts, s = append(parts, m[1]), s[len(m[0]):]
	}
	return parts, true
}

// plainParse is what the chapter says of a query, told once more: it is parted at the last of its loosest words.
func plainParse(s string) (api.Query, api.Errno) {
	if len(s) > 400 {
		return api.Query{}, api.ErrFull
	}
	parts, ok := plainPartsOf(s)
	if !ok || plainNest(parts) > 12 {
		return api.Query{}, api.ErrSyntax
	}
	q, ok := plainQuery(parts)
	if !ok || !plainCan(q) {
		return api.Query{}, api.ErrSyntax
	}
	return q, api.OK
}

func plainNest(parts []string) int {
	open, most := 0, 0
	for _, part := range parts {
		switch part {
		case "(":
			open++
		case ")":
			open--
		}
		most = max(most, open)
	}
	return most
}

func plainQuery(parts []string) (api.Query, bool) {
	for _, words := range joins {
		if at := plainLast(parts, words); at >= 0 {
			left, hasLeft := plainQuery(parts[:at])
			right, hasRight := plainQuery(parts[at+1:])
			return join(left, parts[at], right), hasLeft && hasRight
		}
	}
	if inner, ok := plainBracket(parts); ok {
		return plainQuery(inner)
	}
	if len(parts) == 1 && plainNumber.MatchString(parts[0]) {
		n, _ := new(big.Int).SetString(parts[0], 10)
		return number(n.Uint64()), n.IsUint64()
	}
	if len(parts) == 0 {
		return api.Query{}, false
	}
	if slices.Contains(calls, parts[0]) {
		inner, ok := plainBracket(parts[1:])
		q, isOne := plainSelect(inner)
		return call(parts[0], q), ok && isOne
	}
	if slices.Contains(folds, parts[0]) {
		return plainFold(parts)
	}
	return plainSelect(parts)
}

// plainLast is the place of the last of some words that stands in no brackets.
func plainLast(parts, words []string) int {
	open, at := 0, -1
	for i, part := range parts {
		switch part {
		case "(":
			open++
		case ")":
			open--
		}
		if open == 0 && slices.Contains(words, part) {
			at = i
		}
	}
	return at
}

// plainBracket is what stands in brackets that begin with the first part and end with the last.
func plainBracket(parts []string) ([]string, bool) {
	open := 0
	for i, part := range parts {
		switch part {
		case "(":
			open++
		case ")":
			open--
		}
		if open <= 0 {
			return parts[min(1, i):i], i > 0 && i == len(parts)-1
		}
	}
	return nil, false
}

func plainFold(parts []string) (api.Query, bool) {
	q := fold(parts[0], api.Query{})
	rest := parts[1:]
	if len(rest) > 1 && (rest[0] == "by" || rest[0] == "without") {
		end := slices.Index(rest, ")")
		if rest[1] != "(" || end < 0 {
			return q, false
		}
		q.Without = rest[0] == "without"
		for i, part := range rest[2:end] {
			if i%2 == 0 && labels.Name(part) {
				q.Labels = append(q.Labels, part)
			} else if i%2 == 0 || part != "," || i == end-3 {
				return q, false
			}
		}
		rest = rest[end+1:]
	}
	inner, ok := plainBracket(rest)
	kid, isOne := plainQuery(inner)
	q.Kids = []api.Query{kid}
	return q, ok && isOne
}

func plainSelect(parts []string) (api.Query, bool) {
	q := selector("")
	toNumber := func(s string) int {
		n, _ := new(big.Int).SetString(s, 10)
		return int(n.Int64())
	}
	some := false
	if len(parts) > 0 && labels.Name(parts[0]) && !plainTaken(parts[0]) {
		q.Name, parts, some = parts[0], parts[1:], true
	}
	if len(parts) > 0 && parts[0][0] == '{' {
		l, e := match.Parse(parts[0])
		q.Matchers, parts, some = l, parts[1:], e == api.OK
	}
	if len(parts) > 2 && parts[0] == "[" && plainLength.MatchString(parts[1]) && parts[2] == "]" && toNumber(parts[1]) > 0 {
		q.Range, parts = toNumber(parts[1]), parts[3:]
	}
	if len(parts) > 1 && parts[0] == "offset" && plainLength.MatchString(parts[1]) && toNumber(parts[1]) > 0 {
		q.Offset, parts = toNumber(parts[1]), parts[2:]
	}
	return q, some && len(parts) == 0
}

// loosely writes a tree as a text with more brackets and blanks than there must be, or with fewer blanks.
func loosely(r *rand.Rand, q api.Query) string {
	blank := func() string { return []string{"", "", " ", "  "}[r.Intn(4)] }
	s := plainText(q)
	switch q.Kind {
	case api.QueryFold:
		at := strings.Index(s, "(")
		if q.Without || len(q.Labels) > 0 {
			at = strings.Index(s, ")") + 2
		}
		s = strings.ReplaceAll(strings.TrimSuffix(s[:at], " "), ",", blank()+","+blank()) + blank() + "(" + blank() + loosely(r, q.Kids[0]) + blank() + ")"
	case api.QueryJoin:
		left, right := loosely(r, q.Kids[0]), loosely(r, q.Kids[1])
		level := plainLevel(q.Name)
		if q.Kids[0].Kind == api.QueryJoin && plainLevel(q.Kids[0].Name) < level {
			left = "(" + left + ")"
		}
		if q.Kids[1].Kind == api.QueryJoin && plainLevel(q.Kids[1].Name) <= level {
			right = "(" + right + ")"
		}
		between := blank
		if level < 2 {
			between = func() string { return " " + blank() }
		}
		s = left + between() + q.Name + between() + right
	}
	if r.Intn(6) == 0 && !(q.Kind == api.QuerySelect && q.Range > 0) {
		s = "(" + blank() + s + blank() + ")"
	}
	return s
}

// altered is a text with some parts that are others, gone, or too many.
func altered(r *rand.Rand, s string) string {
	words := []string{"(", ")", "[", "]", "{", "}", ",", "+", "-", "*", " or ", " and ", " unless ", " offset ", " by ", " without ", "sum", "sum_over", "x", "5", "0", " ", "  ", `"`, `\`, "{}", "[5]", "(x)", "()", ".", "\t", "é", "__name__", "18446744073709551616"}
	for range r.Intn(3) {
		at := r.Intn(len(s) + 1)
		end := min(len(s), at+r.Intn(4))
		word := words[r.Intn(len(words))]
		if r.Intn(4) == 0 {
			word = ""
		}
		s = s[:at] + word + s[end:]
	}
	return s
}

func TestP28_1OfAny(t *testing.T) {
	r := rand.New(rand.NewSource(4))
	count := map[api.Errno]int{}
	for range 60000 {
		s := loosely(r, someTree(r, 1+r.Intn(5)))
		if r.Intn(2) == 0 {
			s = altered(r, s)
		}
		if r.Intn(50) == 0 {
			s += strings.Repeat(" ", r.Intn(400)) + "+1"
		}
		want, e := plainParse(s)
		count[e]++
		if q, got := Parse(s); got != e || !plainSame(q, want) {
			t.Fatalf("Parse(%q) is %s, %v; want %s, %v", s, brief(q), got, brief(want), e)
		}
	}
	if count[api.OK] < 10000 || count[api.ErrSyntax] < 10000 || count[api.ErrFull] < 100 {
		t.Errorf("of a kind there were too few: %v", count)
	}
}

func TestP28_1EachByteAtEachPlace(t *testing.T) {
	for _, s := range []string{`sum by (a,b) (x{c="\"}",d!~"e"} offset 5) - 1 * y or 2`, `sum_over({}[5] offset 7) unless (a and 1)`} {
		for at := range len(s) + 1 {
			for c := range 256 {
				one := string([]byte{byte(c)})
				texts := []string{s[:at] + one + s[at:]}
				if at < len(s) {
					texts = append(texts, s[:at]+one+s[at+1:], s[:at]+s[at+1:], s[:at], s[at:])
				}
				for _, text := range texts {
					want, e := plainParse(text)
					if q, got := Parse(text); got != e || !plainSame(q, want) {
						t.Fatalf("Parse(%q) is %s, %v; want %s, %v", text, brief(q), got, brief(want), e)
					}
				}
			}
		}
	}
}
