package match

import (
	"bytes"
	"fmt"
	"math"
	"math/rand"
	"regexp"
	"slices"
	"strings"
	"testing"
	"unicode/utf8"

	"dryrot/api"
	"dryrot/regex"
)

var kinds = []int{api.Is, api.Not, api.Like, api.NotLike}

var otherKinds = []int{0, -1, 5, 6, 255, 256, 257, 258, 260, -255, math.MaxInt, math.MinInt, 1 << 32, 1<<32 + 1}

func one(kind int, name, value string) api.Matcher {
	return api.Matcher{Kind: kind, Name: name, Value: value}
}

func list(l ...api.Matcher) []api.Matcher { return l }

// many is n matchers that may be, but for their number.
func many(n int) []api.Matcher {
	var l []api.Matcher
	for i := range n {
		l = append(l, one(kinds[i%4], fmt.Sprintf("n%d", i), "v"))
	}
	return l
}

// of is labels by name, value, name, value ..
func of(words ...string) []api.Label {
	var l []api.Label
	for i := 0; i < len(words); i += 2 {
		l = append(l, api.Label{Name: words[i], Value: words[i+1]})
	}
	return l
}

// greatest is matchers of which each part is as long as may be.
func greatest() []api.Matcher {
	l := many(6)
	for i := range l {
		l[i].Name = strings.Repeat("n", 24)
		l[i].Value = strings.Repeat("v", 40)
		if l[i].Kind == api.Like || l[i].Kind == api.NotLike {
			l[i].Value = strings.Repeat("p", 60)
		}
	}
	return l
}

// someMatchers is matchers that may be, of all numbers and lengths, with marks and wide code points.
func someMatchers(r *rand.Rand) []api.Matcher {
	points := []string{`"`, `\`, ",", "=", "{", "}", " ", "~", "!", "a", ".", "*", "|", "(", ")", "[", "]", "-", "\u0080", "ü", "日", "\ufffc", "\uffff", "\U00010000", "\U0010ffff"}
	const letters = "abcxyzABCXYZ_0189"
	var l []api.Matcher
	for range r.Intn(api.MaxMatch + 1) {
		name := []byte{letters[r.Intn(13)]}
		for range r.Intn(api.MaxName) {
			name = append(name, letters[r.Intn(len(letters))])
		}
		m := one(kinds[r.Intn(4)], string(name), "")
		for range r.Intn(70) {
			longer := m
			longer.Value += points[r.Intn(len(points))]
			if plainCan(longer) {
				m = longer
			}
		}
		l = append(l, m)
	}
	return l
}

var wholeName = regexp.MustCompile(`\A[a-zA-Z_][a-zA-Z_0-9]{0,23}\z`)

// plainCan is what the chapter says of a matcher, said once more.
func plainCan(m api.Matcher) bool {
	most := 40
	switch m.Kind {
	case api.Is, api.Not:
	case api.Like, api.NotLike:
		if regex.Check(m.Value) != api.OK {
			return false
		}
		most = 60
	default:
		return false
	}
	wrong := func(r rune) bool { return r < 32 || r == 127 || r == 0xfffd }
	return wholeName.MatchString(m.Name) && len(m.Value) <= most && utf8.ValidString(m.Value) && !strings.ContainsFunc(m.Value, wrong)
}

func TestP9_1CanByKindAndValue(t *testing.T) {
	values := []string{
		"", "x", "(", ")", "[", "a(", "*", "a**", "a|b", "a|", `\`, `\\`, "[b-a]", "[a-b]", "y.*", "日本", "\n", "a\x00", "\x1f", " ", "~", "\x7f", "\u0080", "\ufffd", "\xff", "a\xc3", "\ufffe",
		strings.Repeat("v", 40), strings.Repeat("v", 41), strings.Repeat("v", 60), strings.Repeat("v", 61), strings.Repeat("ü", 20), strings.Repeat("ü", 21), strings.Repeat("ü", 30), strings.Repeat("ü", 31), strings.Repeat("v", 255), strings.Repeat("v", 256), strings.Repeat("v", 1<<20),
		strings.Repeat("(", 10) + strings.Repeat(")", 10), strings.Repeat("(", 11) + strings.Repeat(")", 11), "a\\\n", "[\x01]", "[a\x7f]", `\"`, `"`,
	}
	for _, kind := range slices.Concat(kinds, otherKinds) {
		for _, v := range values {
			m := one(kind, "a", v)
			if Can(list(m)) != plainCan(m) {
				t.Errorf("Can of %d with %.70q = %v", kind, v, !plainCan(m))
			}
		}
	}
}

// The edges are written out too, so that plainCan does not stand alone.
func TestP9_1CanKnown(t *testing.T) {
	for _, m := range []api.Matcher{
		one(api.Is, "a", ""), one(api.Not, "a", ""), one(api.Like, "a", ""), one(api.NotLike, "a", ""), one(api.Is, "a", "("), one(api.Not, "a", `\`), one(api.Like, "a", "(x)"), one(api.NotLike, "_9", "y.*"),
		one(api.Is, "a", strings.Repeat("v", 40)), one(api.Like, "a", strings.Repeat("v", 60)), one(api.NotLike, strings.Repeat("n", 24), "[^日]"),
	} {
		if !Can(list(m)) {
			t.Errorf("Can(%v) = false", m)
		}
	}
	for _, m := range wrongMatchers() {
		if Can(list(m)) {
			t.Errorf("Can(%.80v) = true", m)
		}
	}
}

func wrongMatchers() []api.Matcher {
	return []api.Matcher{
		{}, one(0, "a", "x"), one(5, "a", "x"), one(-1, "a", "x"), one(257, "a", "x"), one(api.Is, "", "x"), one(api.Is, "1", "x"), one(api.Like, "a.b", "x"), one(api.Not, "é", "x"), one(api.NotLike, "", "x"), one(api.Is, strings.Repeat("n", 25), "x"),
		one(api.Is, "a", "\n"), one(api.Not, "a", "\x7f"), one(api.Is, "a", "\xff"), one(api.Is, "a", "\ufffd"), one(api.Is, "a", strings.Repeat("v", 41)), one(api.Not, "a", strings.Repeat("v", 41)),
		one(api.Like, "a", "("), one(api.NotLike, "a", "*"), one(api.Like, "a", "\n"), one(api.NotLike, "a", "\x1f"), one(api.Like, "a", "x\x7f"), one(api.Like, "a", "\xff"), one(api.Like, "a", "\ufffd"), one(api.Like, "a", strings.Repeat("v", 61)), one(api.NotLike, "a", strings.Repeat("v", 61)),
	}
}

func TestP9_1CanOfEachCodePoint(t *testing.T) {
	for r := rune(0); r <= 0x10ffff; r++ {
		if r >= 0xd800 && r <= 0xdfff {
			continue
		}
		want := r >= 32 && r != 127 && r != 0xfffd
		if Can(list(one(api.Is, "a", "x"+string(r)))) != want || Can(list(one(api.NotLike, "a", `x\`+string(r)))) != want {
			t.Fatalf("Can with %q is not %v", r, want)
		}
	}
}

func TestP9_1CanOfEachNumber(t *testing.T) {
	for n := range 20 {
		if Can(many(n)) != (n <= 6) {
			t.Errorf("Can of %d = %v", n, n > 6)
		}
	}
	if !Can(nil) || !Can([]api.Matcher{}) || Can(many(1000)) || Can(make([]api.Matcher, 256)) || !Can(greatest()) {
		t.Error("Can of none, of many, of the greatest")
	}
	if !Can(list(one(api.Is, "b", "x"), one(api.Is, "a", "x"), one(api.Is, "a", "x"), one(api.Not, "a", "y"))) {
		t.Error("Can asks for an order")
	}
}

func TestP9_1CanAsksEachPlace(t *testing.T) {
	for _, wrong := range wrongMatchers() {
		for at := range 6 {
			l := many(6)
			l[at] = wrong
			if Can(l) {
				t.Errorf("Can with %.80v at %d = true", wrong, at)
			}
		}
	}
}

func TestP9_1OneKnown(t *testing.T) {
	l := of("a", "x", "b", "yes", "c", "日本", "b", "no", "", "empty", "e", "")
	for _, c := range []struct {
		m    api.Matcher
		want bool
	}{
		{one(api.Is, "a", "x"), true}, {one(api.Is, "a", "y"), false}, {one(api.Is, "a", ""), false}, {one(api.Is, "z", ""), true}, {one(api.Is, "z", "x"), false}, {one(api.Is, "e", ""), true}, {one(api.Is, "", "empty"), true}, {one(api.Is, "b", "yes"), true}, {one(api.Is, "b", "no"), false},
		{one(api.Not, "a", "x"), false}, {one(api.Not, "a", "y"), true}, {one(api.Not, "a", ""), true}, {one(api.Not, "z", ""), false}, {one(api.Not, "z", "x"), true}, {one(api.Not, "b", "no"), true},
		{one(api.Like, "a", "x"), true}, {one(api.Like, "a", "."), true}, {one(api.Like, "a", ""), false}, {one(api.Like, "b", "y.*"), true}, {one(api.Like, "b", "y"), false}, {one(api.Like, "b", "es"), false}, {one(api.Like, "b", "no"), false}, {one(api.Like, "c", ".."), true}, {one(api.Like, "z", ""), true}, {one(api.Like, "z", ".*"), true}, {one(api.Like, "z", ".+"), false},
		{one(api.NotLike, "a", "x"), false}, {one(api.NotLike, "a", "."), false}, {one(api.NotLike, "a", ""), true}, {one(api.NotLike, "b", "y.*"), false}, {one(api.NotLike, "b", "y"), true}, {one(api.NotLike, "z", ""), false}, {one(api.NotLike, "z", ".+"), true}, {one(api.NotLike, "c", "..?"), false},
		{one(api.Is, "a", "."), false}, {one(api.Is, "a", "("), false}, {one(api.Not, "a", "("), true}, {one(api.Is, "A", "x"), false},
	} {
		if One(c.m, l) != c.want {
			t.Errorf("One(%v) = %v", c.m, !c.want)
		}
	}
}

// One answers of matchers and of labels that may not be, too.
func TestP9_1OneOfWhatMayNotBe(t *testing.T) {
	l := of("a", "(", "1", "x", "b", "\n", "a", "x")
	for m, want := range map[api.Matcher]bool{
		one(api.NotLike, "b", "("): true, one(api.NotLike, "é", "["): true, one(api.NotLike, "", "*"): true, one(api.NotLike, "1", "\n("): true, one(api.Like, "é", "["): false,
		one(api.Is, "a", "("): true, one(api.Is, "1", "x"): true, one(api.Not, "1", "x"): false, one(api.Like, "1", "x|y"): true, one(api.Like, "b", "\n"): true, one(api.NotLike, "b", "."): false, one(api.Like, "b", "\\\n"): true, one(api.Is, "é", ""): true,
	} {
		if One(m, l) != want {
			t.Errorf("One(%v) = %v", m, !want)
		}
	}
	long := strings.Repeat("ab", 1<<16)
	if !One(one(api.Like, "a", "(ab)*"), of("a", long)) || One(one(api.Like, "a", "(ba)*"), of("a", long)) || !One(one(api.Is, "a", long), of("a", long)) {
		t.Error("One of a long value")
	}
}

func TestP9_1OneOfNoPatternFitsNothing(t *testing.T) {
	for _, p := range []string{"(", ")", "*", "a**", "[", "[b-a]", `\`, "\xff", "\ufffd", strings.Repeat("a", 61), strings.Repeat("(", 11) + strings.Repeat(")", 11), strings.Repeat("a", 1<<20)} {
		for _, l := range [][]api.Label{nil, of("a", "x"), of("a", p), of("b", "x")} {
			if One(one(api.Like, "a", p), l) || All(list(one(api.Like, "a", p)), l) {
				t.Errorf("Like of %.20q fits %.20q", p, l)
			}
			if !One(one(api.NotLike, "a", p), l) || !All(list(one(api.NotLike, "a", p)), l) {
				t.Errorf("NotLike of %.20q does not fit %.20q", p, l)
			}
		}
	}
}

func TestP9_1OneOfAnyOtherKind(t *testing.T) {
	for _, kind := range otherKinds {
		for _, m := range []api.Matcher{one(kind, "a", "x"), one(kind, "a", "y"), one(kind, "z", ""), one(kind, "a", "."), one(kind, "a", "(")} {
			if One(m, of("a", "x")) || All(list(m), of("a", "x")) {
				t.Errorf("One(%v) = true", m)
			}
		}
	}
}

func TestP9_1All(t *testing.T) {
	l := of("a", "x", "b", "yes")
	fits := list(one(api.Is, "a", "x"), one(api.Not, "a", "y"), one(api.Like, "b", "y.*"), one(api.NotLike, "b", "n.*"), one(api.Is, "c", ""))
	if !All(nil, l) || !All(nil, nil) || !All([]api.Matcher{}, l) || !All(fits, l) {
		t.Error("All = false")
	}
	for at := range fits {
		for _, wrong := range []api.Matcher{one(api.Is, "a", "y"), one(api.NotLike, "a", "x|y"), one(api.Like, "c", ".+"), {}} {
			m := slices.Clone(fits)
			m[at] = wrong
			if All(m, l) {
				t.Errorf("All(%v) = true", m)
			}
		}
	}
	if !All(slices.Repeat(fits, 1000), l) || All(append(slices.Repeat(fits, 1000), one(api.Is, "a", "")), l) {
		t.Error("All of many")
	}
}

func TestP9_2ExampleOfTheChapter(t *testing.T) {
	const text = `{a="x",b!~"y.*"}`
	l := list(one(api.Is, "a", "x"), one(api.NotLike, "b", "y.*"))
	if s, e := Text(l); s != text || e != api.OK {
		t.Errorf("Text = %q, %d", s, int(e))
	}
	if m, e := Parse(text); !slices.Equal(m, l) || e != api.OK {
		t.Errorf("Parse = %v, %d", m, int(e))
	}
}

func TestP9_2Known(t *testing.T) {
	for text, l := range map[string][]api.Matcher{
		`{}`: nil, `{a=""}`: list(one(api.Is, "a", "")), `{a!=""}`: list(one(api.Not, "a", "")), `{a=~""}`: list(one(api.Like, "a", "")), `{a!~""}`: list(one(api.NotLike, "a", "")), `{_9="~"}`: list(one(api.Is, "_9", "~")), `{a!="="}`: list(one(api.Not, "a", "=")),
		`{a=~"\"\\\\"}`: list(one(api.Like, "a", `"\\`)), `{a="\"x\\"}`: list(one(api.Is, "a", `"x\`)), `{b=",",a="}",b!="{"}`: list(one(api.Is, "b", ","), one(api.Is, "a", "}"), one(api.Not, "b", "{")), `{a="日",a="日"}`: list(one(api.Is, "a", "日"), one(api.Is, "a", "日")),
		`{a="!~",b=~"=",c!~"!="}`: list(one(api.Is, "a", "!~"), one(api.Like, "b", "="), one(api.NotLike, "c", "!=")),
	} {
		if s, e := Text(l); s != text || e != api.OK {
			t.Errorf("Text(%v) = %q, %d", l, s, int(e))
		}
		if m, e := Parse(text); !slices.Equal(m, l) || e != api.OK {
			t.Errorf("Parse(%q) = %v, %d", text, m, int(e))
		}
	}
}

// wrongLists is lists that may not be: too many, or with one that may not be.
func wrongLists() [][]api.Matcher {
	l := [][]api.Matcher{many(7), many(255), many(256), many(300), make([]api.Matcher, 1)}
	for _, m := range wrongMatchers() {
		l = append(l, list(m), list(one(api.Is, "a", "x"), m), list(m, one(api.Is, "a", "x")))
	}
	return l
}

func TestP9_2TextOfWhatMayNotBe(t *testing.T) {
	for _, l := range wrongLists() {
		if s, e := Text(l); s != "" || e != api.ErrArg {
			t.Errorf("Text(%.80v) = %.80q, %d", l, s, int(e))
		}
	}
}

func wantNoMatchers(t *testing.T, s string) {
	t.Helper()
	if l, e := Parse(s); len(l) != 0 || e != api.ErrForm {
		t.Errorf("Parse(%.60q) = %v, %d", s, l, int(e))
	}
}

func TestP9_2ParseWrong(t *testing.T) {
	for _, s := range []string{
		"", "{", "}", "{{}}", "{}}", "{{}", " {}", "{} ", "{ }", "{,}", "{}\n", `{a="x"`, `a="x"`, `a="x"}`, `{a="x"}}`, `{a="x"} `, ` {a="x"}`, `{a="x",}`, `{,a="x"}`, `{a="x",,b="y"}`, `{a="x"b="y"}`, `{a="x" ,b="y"}`, `{a="x", b="y"}`, `{a ="x"}`, `{a= "x"}`, `{a! ="x"}`, `{a=x}`, `{a='x'}`, `{a="x}`,
		`{a==~"x"}`, `{a=="x"}`, `{a!"x"}`, `{a~"x"}`, `{a~="x"}`, `{a=!"x"}`, `{a!!="x"}`, `{a!=~"x"}`, `{a!~="x"}`, `{a=~~"x"}`, `{a<"x"}`, `{a"x"}`, `{a}`, `{a=}`, `{a!}`, `{a!=}`, `{a=~}`, `{="x"}`, `{!="x"}`, `{=~"x"}`, `{!~"x"}`, `{"x"}`, `{1="x"}`, `{a.b="x"}`, `{é="x"}`, `{a="\x"}`, `{a="x\"}`,
		`{a=~"("}`, `{a!~"*"}`, `{a=~"[b-a]"}`, `{a=~"\\"}`, `{a=~"\d"}`, "{a=\"\n\"}", "{a=~\"\n\"}", "{a!=\"\x7f\"}", "{a!~\"\x7f\"}", "{a=\"\xff\"}", "{a=~\"\ufffd\"}", `a{b="x"}`, `{a="x"};`, `{a="x";b="y"}`, `{}{}`, `{a="x"}{}`, `{},{}`,
		`{a="` + strings.Repeat("v", 41) + `"}`, `{a!~"` + strings.Repeat("v", 61) + `"}`, `{` + strings.Repeat("n", 25) + `="x"}`, "{" + strings.Repeat(`a="x",`, 6) + `a="x"}`, strings.Repeat("{", 1<<20), "{" + strings.Repeat(`a="x",`, 1<<16), "{" + strings.Repeat("a", 1<<20), `{a="` + strings.Repeat(`\\`, 1<<16),
	} {
		wantNoMatchers(t, s)
	}
}

// eachText goes through all texts of so many of these pieces at most.
func eachText(pieces []string, most int, do func(string)) {
	texts := []string{""}
	for n := range most + 1 {
		var longer []string
		for _, s := range texts {
			do(s)
			if n < most {
				for _, p := range pieces {
					longer = append(longer, s+p)
				}
			}
		}
		texts = longer
	}
}

// plainParse is what the chapter says of texts of up to two matchers, by the library's regular expressions.
func plainParse() func(s string) ([]api.Matcher, bool) {
	pair := `([a-zA-Z_][a-zA-Z_0-9]*)(=|!=|=~|!~)"((?:[^"\\]|\\["\\])*)"`
	words := regexp.MustCompile(`\A\{(?:` + pair + `(?:,` + pair + `)?)?\}\z`)
	marked := regexp.MustCompile(`\\(["\\])`)
	kindOf := map[string]int{"=": api.Is, "!=": api.Not, "=~": api.Like, "!~": api.NotLike}
	return func(s string) ([]api.Matcher, bool) {
		found := words.FindStringSubmatch(s)
		var l []api.Matcher
		for i := 1; i+2 < len(found) && found[i] != ""; i += 3 {
			l = append(l, one(kindOf[found[i+1]], found[i], marked.ReplaceAllString(found[i+2], "$1")))
			if !plainCan(l[len(l)-1]) {
				return nil, false
			}
		}
		return l, found != nil
	}
}

func TestP9_2ParseOfEachShortText(t *testing.T) {
	plain := plainParse()
	for _, ahead := range []string{"", `{a="`, `{a!~"`, `{b=~"x",`, `{a!="x"`, "{a"} {
		eachText([]string{"{", "}", "a", "!", "=", "~", `"`, `\`, ","}, 5, func(tail string) {
			l, e := Parse(ahead + tail)
			want, ok := plain(ahead + tail)
			if !slices.Equal(l, want) || (e == api.OK) != ok || !ok && e != api.ErrForm {
				t.Fatalf("Parse(%q) = %v, %d", ahead+tail, l, int(e))
			}
		})
	}
}

// What Parse takes is a text of what it answers, whatever byte of it is turned, missing or doubled.
func TestP9_2ParseOfTurnedTexts(t *testing.T) {
	r := rand.New(rand.NewSource(92))
	for range 300 {
		s, _ := Text(someMatchers(r))
		for range 100 {
			at, b := r.Intn(len(s)), []byte(s)
			switch r.Intn(3) {
			case 0:
				b[at] ^= byte(1 << r.Intn(8))
			case 1:
				b = slices.Delete(b, at, at+1)
			case 2:
				b = slices.Insert(b, at, b[r.Intn(len(b))])
			}
			l, e := Parse(string(b))
			if e == api.ErrForm && len(l) == 0 {
				continue
			}
			if again, f := Text(l); e != api.OK || f != api.OK || again != string(b) {
				t.Fatalf("Parse(%q) = %v, %d", b, l, int(e))
			}
		}
	}
}

func TestP9_3BytesWrittenOut(t *testing.T) {
	b, e := Encode(list(one(api.Is, "a", "x"), one(api.NotLike, "bc", "日*"), one(api.Not, "d", ""), one(api.Like, "e", "")))
	if want := []byte{4, 1, 1, 'a', 1, 'x', 4, 2, 'b', 'c', 4, 0xe6, 0x97, 0xa5, '*', 2, 1, 'd', 0, 3, 1, 'e', 0}; !bytes.Equal(b, want) || e != api.OK {
		t.Errorf("Encode = % x, %d", b, int(e))
	}
	if b, e := Encode(nil); !bytes.Equal(b, []byte{0}) || e != api.OK {
		t.Errorf("Encode of none = % x, %d", b, int(e))
	}
	if b, e := Encode(greatest()[3:4]); len(b) != 88 || b[1] != 4 || b[2] != 24 || b[27] != 60 || e != api.OK {
		t.Errorf("Encode of the greatest = % x, %d", b, int(e))
	}
}

func TestP9_3EncodeOfWhatMayNotBe(t *testing.T) {
	for _, l := range wrongLists() {
		if b, e := Encode(l); len(b) != 0 || e != api.ErrArg {
			t.Errorf("Encode(%.80v) = % x, %d", l, b, int(e))
		}
	}
}

// plainBytes is matchers as bytes, whether they may be or not.
func plainBytes(l []api.Matcher) []byte {
	b := []byte{byte(len(l))}
	for _, m := range l {
		b = append(b, byte(m.Kind), byte(len(m.Name)))
		b = append(b, m.Name...)
		b = append(b, byte(len(m.Value)))
		b = append(b, m.Value...)
	}
	return b
}

func wantNoBytes(t *testing.T, b []byte, want api.Errno) {
	t.Helper()
	if l, rest, e := Decode(b); len(l) != 0 || len(rest) != 0 || e != want {
		t.Errorf("Decode(% x) = %v, % x, %d, not %d", b, l, rest, int(e), int(want))
	}
}

func TestP9_3DecodeKnown(t *testing.T) {
	l, rest, e := Decode([]byte{2, 3, 1, 'a', 2, '.', '*', 2, 1, 'a', 0, 9, 8})
	if !slices.Equal(l, list(one(api.Like, "a", ".*"), one(api.Not, "a", ""))) || !bytes.Equal(rest, []byte{9, 8}) || e != api.OK {
		t.Errorf("Decode = %v, % x, %d", l, rest, int(e))
	}
	for _, b := range [][]byte{{0}, {0, 0}, {0, 1, 1, 'a', 1, 'x'}} {
		if l, rest, e := Decode(b); len(l) != 0 || !bytes.Equal(rest, b[1:]) || e != api.OK {
			t.Errorf("Decode(% x) = %v, % x, %d", b, l, rest, int(e))
		}
	}
}

func TestP9_3DecodeOfTooFew(t *testing.T) {
	wantNoBytes(t, nil, api.ErrShort)
	wantNoBytes(t, []byte{}, api.ErrShort)
	for _, l := range [][]api.Matcher{list(one(api.Is, "a", "x")), many(6), greatest(), many(7), many(255), list(one(9, "1", "(")), make([]api.Matcher, 9)} {
		b := plainBytes(l)
		for n := range b {
			wantNoBytes(t, b[:n], api.ErrShort)
		}
	}
	wantNoBytes(t, []byte{1, 1, 255}, api.ErrShort)
	wantNoBytes(t, []byte{1, 9}, api.ErrShort)
	wantNoBytes(t, []byte{255, 0, 0, 0}, api.ErrShort)
}

func TestP9_3DecodeOfWhatMayNotBe(t *testing.T) {
	for _, l := range wrongLists() {
		longest := 0
		for _, m := range l {
			longest = max(longest, len(m.Value), m.Kind, -m.Kind*1000)
		}
		if len(l) < 256 && longest < 256 {
			wantNoBytes(t, plainBytes(l), api.ErrForm)
			wantNoBytes(t, append(plainBytes(l), 1, 2, 3), api.ErrForm)
		}
	}
	for _, kind := range []byte{0, 5, 6, 127, 128, 255} {
		wantNoBytes(t, []byte{1, kind, 1, 'a', 1, 'x'}, api.ErrForm)
	}
}

// What Decode takes is the bytes of what it answers and the rest, whatever byte is turned.
func TestP9_3DecodeOfTurnedBytes(t *testing.T) {
	r := rand.New(rand.NewSource(93))
	for range 300 {
		b := append(plainBytes(someMatchers(r)), make([]byte, r.Intn(300))...)
		for range 100 {
			twin := bytes.Clone(b)
			twin[r.Intn(len(twin))] = byte(r.Intn(256))
			l, rest, e := Decode(twin)
			if e != api.OK {
				if len(l) != 0 || len(rest) != 0 || e != api.ErrForm && e != api.ErrShort {
					t.Fatalf("Decode(% x) = %v, % x, %d", twin, l, rest, int(e))
				}
				continue
			}
			if !Can(l) || !bytes.Equal(append(plainBytes(l), rest...), twin) {
				t.Fatalf("Decode(% x) = %v, % x", twin, l, rest)
			}
		}
	}
}

func TestP9_4OneIsWhatTheOtherIsNot(t *testing.T) {
	values := []string{"", "x", "y", "xy", "(", "日", "\n", "\xff", "\ufffd"}
	for _, held := range values {
		for _, l := range [][]api.Label{nil, of("a", held), of("b", held), of("a", held, "a", "x")} {
			for _, v := range append(values, "x|y", ".", ".*", "[^x]+", "x?y?", "*", "[", `\`, `\(`) {
				if One(one(api.Is, "a", v), l) == One(one(api.Not, "a", v), l) {
					t.Errorf("Is and Not of %q at %q are the same", v, l)
				}
				if regex.Check(v) == api.OK && One(one(api.Like, "a", v), l) == One(one(api.NotLike, "a", v), l) {
					t.Errorf("Like and NotLike of %q at %q are the same", v, l)
				}
			}
		}
	}
}

func TestP9_5ThereAndBack(t *testing.T) {
	r := rand.New(rand.NewSource(95))
	for i := range 3000 {
		l := someMatchers(r)
		if i == 0 {
			l = greatest()
		}
		s, e := Text(l)
		if m, f := Parse(s); e != api.OK || f != api.OK || !slices.Equal(m, l) {
			t.Fatalf("Parse(%q) = %v, %d, not %v", s, m, int(f), l)
		}
		b, e := Encode(l)
		rest := make([]byte, i%3)
		m, behind, f := Decode(append(b, rest...))
		if e != api.OK || f != api.OK || !slices.Equal(m, l) || !bytes.Equal(behind, rest) {
			t.Fatalf("Decode(% x) = %v, % x, %d, not %v", b, m, behind, int(f), l)
		}
	}
}

func TestArgumentsAreLeftAsTheyAre(t *testing.T) {
	room := many(6)
	l, twin := room[:2], slices.Clone(room)
	held := of("n0", "v", "n2", "v", "n3", "w")
	heldTwin := slices.Clone(held)
	Can(l)
	One(l[0], held[:1])
	All(l, held[:2])
	Text(l)
	Encode(l)
	if !slices.Equal(room, twin) || !slices.Equal(held, heldTwin) {
		t.Errorf("changed: %v, %q", room, held)
	}
	b := append(plainBytes(room), 7, 8, 9)
	whole := bytes.Clone(b)
	Decode(b)
	Decode(b[:4])
	Decode(b[:len(b)-2])
	if !bytes.Equal(b, whole) {
		t.Errorf("changed: % x", b)
	}
}

func TestAnswersAreNewMemory(t *testing.T) {
	want := many(2)
	b := append(plainBytes(want), 7, 8, 9)
	twin := bytes.Clone(b)
	l, rest, _ := Decode(b)
	clear(rest[:cap(rest)])
	clear(l[:cap(l)])
	if !bytes.Equal(b, twin) {
		t.Error("Decode shares its bytes")
	}
	kept, behind, _ := Decode(b)
	clear(b)
	if !slices.Equal(kept, want) || !bytes.Equal(behind, []byte{7, 8, 9}) {
		t.Error("Decode keeps its bytes")
	}
	first, _ := Encode(want)
	clear(first[:cap(first)])
	if second, _ := Encode(want); !bytes.Equal(second, plainBytes(want)) {
		t.Error("two answers share memory")
	}
}
