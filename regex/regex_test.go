package regex

import (
	"fmt"
	"math/rand"
	"regexp"
	"strings"
	"testing"
	"unicode/utf8"

	"dryrot/api"
)

// The chapter's grammar, said plainly: each asks whether the whole of some code points is such a thing, and tries every place where it may be parted. An escaped code point is one above all that there are.

const escape = rune(1 << 24)

// marked is a pattern's code points; what stands behind a \ is told by escape.
func marked(p string) ([]rune, bool) {
	if len(p) > 60 || !utf8.ValidString(p) || strings.ContainsRune(p, 0xfffd) {
		return nil, false
	}
	var out []rune
	for rest := []rune(p); len(rest) > 0; rest = rest[1:] {
		if rest[0] != '\\' {
			out = append(out, rest[0])
			continue
		}
		if len(rest) == 1 {
			return nil, false
		}
		rest = rest[1:]
		out = append(out, escape+rest[0])
	}
	return out, true
}

func isPattern(p []rune, depth int) bool {
	if isSequence(p, depth) {
		return true
	}
	for i, r := range p {
		if r == '|' && isSequence(p[:i], depth) && isPattern(p[i+1:], depth) {
			return true
		}
	}
	return false
}

func isSequence(p []rune, depth int) bool {
	if len(p) == 0 {
		return true
	}
	for i := range p {
		if isPiece(p[:i+1], depth) && isSequence(p[i+1:], depth) {
			return true
		}
	}
	return false
}

func isPiece(p []rune, depth int) bool {
	last := len(p) - 1
	return isAtom(p, depth) || strings.ContainsRune("*+?", p[last]) && isAtom(p[:last], depth)
}

func isAtom(p []rune, depth int) bool {
	switch {
	case len(p) == 0:
		return false
	case len(p) == 1:
		return !strings.ContainsRune(`*+?|()[\`, p[0])
	case p[0] == '(' && p[len(p)-1] == ')':
		return depth < 10 && isPattern(p[1:len(p)-1], depth+1)
	case p[0] == '[' && p[len(p)-1] == ']':
		inside := p[1 : len(p)-1]
		if len(inside) > 0 && inside[0] == '^' {
			inside = inside[1:]
		}
		return len(inside) > 0 && areMembers(inside)
	}
	return false
}

func areMembers(p []rune) bool {
	if len(p) == 0 {
		return true
	}
	isPoint := func(r rune) bool { return r != ']' && r != '-' && r != '\\' }
	if isPoint(p[0]) && areMembers(p[1:]) {
		return true
	}
	return len(p) >= 3 && isPoint(p[0]) && p[1] == '-' && isPoint(p[2]) && p[0]%escape <= p[2]%escape && areMembers(p[3:])
}

func plainCheck(p string) bool {
	m, ok := marked(p)
	return ok && isPattern(m, 0)
}

// theirs is a pattern that may be, in the words of the library's regexp: each code point that means itself stands there as a number.
func theirs(t *testing.T, p string) *regexp.Regexp {
	t.Helper()
	points, ok := marked(p)
	if !ok {
		t.Fatalf("%q is no pattern", p)
	}
	var b strings.Builder
	class := false
	for i, r := range points {
		switch {
		case !class && r == '[':
			class = true
			b.WriteByte('[')
		case class && r == ']':
			class = false
			b.WriteByte(']')
		case class && (r == '-' || r == '^' && points[i-1] == '['):
			b.WriteRune(r)
		case !class && r == '(':
			b.WriteString("(?:")
		case !class && strings.ContainsRune("*+?|).", r):
			b.WriteRune(r)
		default:
			fmt.Fprintf(&b, `\x{%x}`, r%escape)
		}
	}
	e, err := regexp.Compile(`(?s)\A(?:` + b.String() + `)\z`)
	if err != nil {
		t.Fatalf("%q: %v", p, err)
	}
	return e
}

// eachText goes through all texts of so many of these pieces at most.
func eachText(pieces []string, most int, do func(string)) {
	texts := []string{""}
	for n := range most + 1 {
		var longer []string
		for _, s := range texts {
			do(s)
			if n < most {
				for _, p := range pieces {
					longer = append(longer, s+p)
				}
			}
		}
		texts = longer
	}
}

func allTexts(pieces []string, most int) []string {
	var all []string
	eachText(pieces, most, func(s string) { all = append(all, s) })
	return all
}

func someText(r *rand.Rand, pieces []string, most int) string {
	s := ""
	for range r.Intn(most + 1) {
		s += pieces[r.Intn(len(pieces))]
	}
	return s
}

// somePattern is a pattern that may be, but for its length.
func somePattern(r *rand.Rand, depth int) string {
	var pieces []string
	for range r.Intn(4) {
		atom := ""
		switch k := r.Intn(10); {
		case k < 2 && depth < 10:
			atom = "(" + somePattern(r, depth+1) + ")"
		case k < 4:
			atom = []string{"[ab]", "[^a]", "[a-c]", "[^b-日]", `[\]\-a]`, "[^^]", "[a^]", `[\a-\c(*]`}[r.Intn(8)]
		case k < 5:
			atom = "."
		default:
			atom = []string{"a", "b", "c", "日", `\*`, `\a`, "]", "-", "^", "$"}[r.Intn(10)]
		}
		pieces = append(pieces, atom+[]string{"", "", "*", "+", "?"}[r.Intn(5)])
	}
	p := strings.Join(pieces, "")
	if r.Intn(4) == 0 {
		p += "|" + somePattern(r, depth)
	}
	return p
}

// somePatterns is so many of them that may be.
func somePatterns(r *rand.Rand, n, most int) []string {
	var all []string
	for len(all) < n {
		if p := somePattern(r, 0); len(p) <= most {
			all = append(all, p)
		}
	}
	return all
}

func wantNone(t *testing.T, p string) {
	t.Helper()
	if e := Check(p); e != api.ErrForm {
		t.Errorf("Check(%q) = %d", p, int(e))
	}
	for _, s := range []string{"", "a", p} {
		if ok, e := Match(p, s); ok || e != api.ErrForm {
			t.Errorf("Match(%q, %q) = %v, %d", p, s, ok, int(e))
		}
	}
	if s, ok := Literal(p); s != "" || ok {
		t.Errorf("Literal(%q) = %q, %v", p, s, ok)
	}
}

func TestP8_1CheckRight(t *testing.T) {
	for _, p := range []string{
		"", "|", "||", "()", "(|)", "a|", "|a", "a(b|c)*[x-z]?", "()*", "(a*)*", "(a*)+", "]", "a]", "-", "^", "$", "{", "}", "a{2}", "^a$", "a-b", `\\`, `\*`, `\(`, `\[`, `\]`, `\日`, `\|`, `\.`, `\n`,
		"[a]", "[^a]", "[a-a]", "[a-z0-9]", "[^^]", "[a^]", "[^^-a]", "[[]", "[.]", "[*+?|()[]", `[\]]`, `[\-]`, `[\\]`, `[\]-a]`, `[\a-\z]`, `[^\^]`, `[\^]`, "[日-本]", "[a]]", "[a]-", "[a-zA-Z_]", "[\n]", "\x00", "\n", "[\x00-\U0010ffff]", "\ufffc\ufffe", "(.)", ".*",
		strings.Repeat("a", 60), strings.Repeat("日", 20), strings.Repeat("()", 30), strings.Repeat("a*", 30), strings.Repeat("|", 60), "[" + strings.Repeat("(", 58) + "]", strings.Repeat("(", 10) + strings.Repeat(")", 10), strings.Repeat("(", 10) + "a|b" + strings.Repeat(")*", 10), "((((((((((x))))))))))((((((((((y))))))))))", strings.Repeat(`\(`, 30),
	} {
		if e := Check(p); e != api.OK || !plainCheck(p) {
			t.Errorf("Check(%q) = %d", p, int(e))
		}
	}
}

func TestP8_1CheckWrong(t *testing.T) {
	for _, p := range []string{
		"*", "+", "?", "a**", "a*+", "a+?", "a?*", "(*)", "(+a)", "|*", "a|?", "()**", "(", ")", "(()", "())", "a(b", "a)b", ")(", "(a|", `\`, `a\`, `\\\`, `(\)`, `[\]`,
		"[", "[]", "[^]", "[^", "[a", "[^a", "[]a]", "[]]", "[^]]", "[-]", "[-a]", "[a-]", "[a-b-c]", "[--a]", "[a--]", "[a-]]", "[^-a]", "[b-a]", "[日-a]", `[a-\]`, `[a-\]]`, `[\z-\a]`, "[a]*+", "[a-b", "[a-",
		"\xff", "a\xff", "\xe6\x97", "\xed\xa0\x80", "\ufffd", "a\ufffd", "\\\ufffd", "\\\xff", "[\ufffd]", "[a-\ufffd]", "[\xff]",
		strings.Repeat("a", 61), strings.Repeat("日", 20) + "a", strings.Repeat("a", 59) + "é", strings.Repeat("a", 1<<20), strings.Repeat("(", 11) + strings.Repeat(")", 11), strings.Repeat("(", 10) + "()" + strings.Repeat(")", 10), "a|(" + strings.Repeat("((", 5) + strings.Repeat("))", 5) + ")", "((((((((((((x", strings.Repeat("(", 60),
	} {
		wantNone(t, p)
		if plainCheck(p) {
			t.Errorf("the grammar takes %q", p)
		}
	}
}

func TestP8_1CheckOfEachShortPattern(t *testing.T) {
	eachText([]string{"a", "b", "*", "?", "|", "(", ")", "[", "]", "^", "-", `\`}, 5, func(p string) {
		if (Check(p) == api.OK) != plainCheck(p) {
			t.Fatalf("Check(%q) = %d", p, int(Check(p)))
		}
	})
}

func TestP8_1CheckOfTurnedPatterns(t *testing.T) {
	r := rand.New(rand.NewSource(81))
	for _, p := range somePatterns(r, 2000, 24) {
		if Check(p) != api.OK || !plainCheck(p) {
			t.Fatalf("Check(%q) = %d", p, int(Check(p)))
		}
		b := []byte(p)
		for range 5 {
			if len(b) > 0 {
				b[r.Intn(len(b))] = `ab*+?|()[]^-\.`[r.Intn(14)]
			}
			if (Check(string(b)) == api.OK) != plainCheck(string(b)) {
				t.Fatalf("Check(%q) = %d", b, int(Check(string(b))))
			}
		}
	}
}

func wantFit(t *testing.T, p, s string, want bool) {
	t.Helper()
	if ok, e := Match(p, s); ok != want || e != api.OK {
		t.Errorf("Match(%q, %q) = %v, %d", p, s, ok, int(e))
	}
}

func TestP8_2ExampleOfTheChapter(t *testing.T) {
	wantFit(t, "a(b|c)*[x-z]?", "abcby", true)
	wantFit(t, "a(b|c)*[x-z]?", "a", true)
	wantFit(t, "a(b|c)*[x-z]?", "abcbyy", false)
	wantFit(t, "a(b|c)*[x-z]?", "bcby", false)
}

func TestP8_2MatchKnown(t *testing.T) {
	for _, c := range []struct{ p, fits, not string }{
		{"a", "a", " b aa ba A"}, {"ab", "ab", " a b abb"}, {"a*", " a aaa", "b ab ba"}, {"a+", "a aaa", " b ab"}, {"a?", " a", "aa b"}, {"a|b", "a b", " ab c"}, {"a|", " a", "b"}, {"|", "", "a ||"}, {"ab|cd", "ab cd", "abd acd abcd"},
		{".", "a 日 . \n \x00", " ab 日本"}, {`\.`, ".", "a"}, {`\a`, "a", `\a`}, {`\n`, "n", "\n"}, {`\\`, `\`, `\\`}, {"]", "]", "a"}, {"^a$", "^a$", "a"}, {"a{2}", "a{2}", "aa"},
		{"[a-c]", "a b c", " d ab -"}, {"[^a-c]", "d - 日 ^", " a b c dd"}, {"[a^]", "a ^", "b"}, {"[^^]", "a", "^"}, {`[\]\\\-]`, `] \ -`, "a"}, {"[.*|]", ". * |", "a"}, {`[\^a]`, "^ a", "b"}, {"[+-.]", "+ , - .", "/ *"},
		{"(a|b)(c|d)", "ac ad bc bd", "ab cd a"}, {"(ab)*", " ab abab", "a aba"}, {"(a|b)+c", "ac bac", "c ab"}, {"()", "", "a"}, {"()+", "", "a"}, {"(a?)*b", "b aab", "a"}, {"((a*)*|b)*", " a b aabba", "c abc"}, {"(a|ab)(c|bcd)(d*)", "abcd acd abc abcdd", "ab abcdc"},
		{"日本?", "日 日本", "本 日本本"}, {"[日-本]", "日 本", "a"},
	} {
		for _, s := range strings.Split(c.fits, " ") {
			wantFit(t, c.p, s, true)
		}
		for _, s := range strings.Split(c.not, " ") {
			wantFit(t, c.p, s, false)
		}
	}
}

// Bytes that are no UTF-8 are each a code point fffd.
func TestP8_2TextsThatAreNoUTF8(t *testing.T) {
	for _, c := range []struct {
		p, s string
		want bool
	}{
		{".", "\xff", true}, {"..", "\xff", false}, {".", "\xff\xfe", false}, {"..", "\xe6\x97", true}, {".", "\xe6\x97", false}, {"...", "\xed\xa0\x80", true}, {"....", "\xf4\x90\x80\x80", true}, {".", "\ufffd", true}, {"...", "\ufffd", false},
		{"[^a]", "\xff", true}, {"[^a]", "\ufffd", true}, {"[\ufffc-\ufffe]", "\xff", true}, {"[\ufffc-\ufffe]", "\ufffd", true}, {"[^\ufffc-\ufffe]", "\xff", false}, {"[^\ufffc-\ufffe]*", "a\x80", false}, {"[\u0080-\u00ff]", "\xff", false}, {"ÿ", "\xff", false}, {"a.*b", "a\xff\xe6b", true}, {"[\x00-\U0010ffff]+", "\xff日\x00", true},
	} {
		wantFit(t, c.p, c.s, c.want)
	}
}

// fitsAsTheirs holds a pattern against the library's over these texts.
func fitsAsTheirs(t *testing.T, p string, texts []string) {
	t.Helper()
	e := theirs(t, p)
	for _, s := range texts {
		if ok, n := Match(p, s); ok != e.MatchString(s) || n != api.OK {
			t.Fatalf("Match(%q, %q) = %v, %d; theirs is %v", p, s, ok, int(n), e)
		}
	}
}

func TestP8_2MatchOfEachShortPattern(t *testing.T) {
	texts := allTexts([]string{"a", "b", "]", "^", "\xff"}, 3)
	eachText([]string{"a", "b", "*", "+", "|", "(", ")", "[", "]", "^", "."}, 4, func(p string) {
		if Check(p) == api.OK {
			fitsAsTheirs(t, p, texts)
		}
	})
}

func TestP8_2MatchOfSomePatterns(t *testing.T) {
	r := rand.New(rand.NewSource(82))
	pieces := []string{"a", "b", "c", "d", "日", "*", "]", "-", "^", "$", "(", "\xff", "\n"}
	for _, p := range somePatterns(r, 3000, 60) {
		var texts []string
		for range 30 {
			texts = append(texts, someText(r, pieces[:3+r.Intn(len(pieces)-2)], 8))
		}
		fitsAsTheirs(t, p, texts)
	}
}

// Patterns that go many ways, over texts that are long: these end soon, and no state is left out.
func TestP8_2LongTexts(t *testing.T) {
	long := strings.Repeat("a", 1<<20)
	for _, p := range []string{"(a*)*", "((a|a)*)*", "(a?)*", ".*.*.*.*a", "((((((((((a*)*)*)*)*)*)*)*)*)*)*"} {
		wantFit(t, p, long, true)
		wantFit(t, p, long+"b", false)
	}
	wantFit(t, strings.Repeat("a?", 20)+strings.Repeat("a", 20), long[:20], true)
	wantFit(t, strings.Repeat("a?", 20)+strings.Repeat("a", 20), long[:40], true)
	wantFit(t, strings.Repeat("a?", 20)+strings.Repeat("a", 20), long[:19], false)
	wantFit(t, strings.Repeat("a?", 20)+strings.Repeat("a", 20), long[:41], false)
	wantFit(t, "b*", long, false)
	wantFit(t, "", long, false)
}

func TestP8_3LiteralKnown(t *testing.T) {
	for p, want := range map[string]string{
		"": "", "a": "a", "abc": "abc", `a\*b`: "a*b", `\.`: ".", `\a\b`: "ab", `\\`: `\`, `\(\)\[\]`: "()[]", "]": "]", "^a$": "^a$", "a-b{}": "a-b{}", "日本": "日本", `\日`: "日", "\x00\n": "\x00\n", strings.Repeat("a", 60): strings.Repeat("a", 60), strings.Repeat(`\*`, 30): strings.Repeat("*", 30),
	} {
		if s, ok := Literal(p); s != want || !ok {
			t.Errorf("Literal(%q) = %q, %v", p, s, ok)
		}
	}
	for _, p := range []string{".", "a.", "ab*", "a+", "a?", "a|b", "|", "a|", "a|a", "(a)", "()", "a()", "[a]", "a[b]", `\**`, `\.+`, "*", "(", ")", "[", `\`, `a\`, "\xff", "\ufffd", strings.Repeat("a", 61)} {
		if s, ok := Literal(p); s != "" || ok {
			t.Errorf("Literal(%q) = %q, %v", p, s, ok)
		}
	}
}

func TestP8_3LiteralOfEachShortPattern(t *testing.T) {
	words := regexp.MustCompile(`\A(?s:[^.*+?|()\[\\]|\\.)*\z`)
	marks := regexp.MustCompile(`\\(.)`)
	eachText([]string{"a", "é", ".", "*", "+", "?", "|", "(", ")", "[", "]", `\`}, 5, func(p string) {
		want, is := "", words.MatchString(p)
		if is {
			want = marks.ReplaceAllString(p, "$1")
		}
		if s, ok := Literal(p); s != want || ok != is {
			t.Fatalf("Literal(%q) = %q, %v", p, s, ok)
		}
	})
}

func TestP8_4LiteralFitsItsTextAlone(t *testing.T) {
	texts := allTexts([]string{"a", "b", "*", `\`, "\xff"}, 3)
	literals := 0
	eachText([]string{"a", "b", "]", `\`, "*", "."}, 5, func(p string) {
		text, ok := Literal(p)
		if !ok {
			return
		}
		literals++
		wantFit(t, p, text, true)
		for _, s := range texts {
			wantFit(t, p, s, s == text)
		}
		for _, s := range []string{text + "a", "a" + text, text + "\xff", text + text} {
			wantFit(t, p, s, s == text)
		}
	})
	if literals < 100 {
		t.Errorf("%d literals alone", literals)
	}
}

func TestP8_5AlternativesFitWhatEachFits(t *testing.T) {
	r := rand.New(rand.NewSource(85))
	texts := allTexts([]string{"a", "b", "c", "日", "*"}, 3)
	for range 1000 {
		pair := somePatterns(r, 2, 29)
		for _, s := range texts {
			one, _ := Match(pair[0], s)
			two, _ := Match(pair[1], s)
			wantFit(t, pair[0]+"|"+pair[1], s, one || two)
		}
	}
}

func TestCallsHangOnTheirArgumentsAlone(t *testing.T) {
	for range 3 {
		wantFit(t, "(a|b)*", "abba", true)
		wantFit(t, "(a|b)*", "abbc", false)
		wantNone(t, "(a|b")
	}
}
