package labels

import (
	"bytes"
	"fmt"
	"math/rand"
	"regexp"
	"slices"
	"strings"
	"testing"

	"dryrot/api"
)

// of is labels by name, value, name, value ..
func of(words ...string) []api.Label {
	var l []api.Label
	for i := 0; i < len(words); i += 2 {
		l = append(l, api.Label{Name: words[i], Value: words[i+1]})
	}
	return l
}

// many is n labels that may be, but for their number.
func many(n int) []api.Label {
	var l []api.Label
	for i := range n {
		l = append(l, api.Label{Name: fmt.Sprintf("n%06d", i), Value: "v"})
	}
	return l
}

// someLabels is labels that may be, of all lengths, with marks and wide code points.
func someLabels(r *rand.Rand) []api.Label {
	points := []rune{'"', '\\', ',', '=', '{', '}', ' ', '~', 'a', 0x80, 0xfc, 0x7ff, 0x800, 0x65e5, 0xd7ff, 0xe000, 0xfffc, 0xfffe, 0xffff, 0x10000, 0x10ffff}
	const letters = "abcxyzABCXYZ_0189"
	var names []string
	for range 1 + r.Intn(api.MaxLabels) {
		name := []byte{letters[r.Intn(13)]}
		for range r.Intn(api.MaxName) {
			name = append(name, letters[r.Intn(len(letters))])
		}
		names = append(names, string(name))
	}
	slices.Sort(names)
	var l []api.Label
	for _, name := range slices.Compact(names) {
		value := string(points[r.Intn(len(points))])
		for range r.Intn(api.MaxValue) {
			if more := string(points[r.Intn(len(points))]); len(value)+len(more) <= api.MaxValue {
				value += more
			}
		}
		l = append(l, api.Label{Name: name, Value: value})
	}
	return l
}

var wholeName = regexp.MustCompile(`\A[a-zA-Z_][a-zA-Z_0-9]{0,23}\z`)

func TestP7_1NameOfEachByteAndPlace(t *testing.T) {
	for c := range 256 {
		for _, s := range []string{string([]byte{byte(c)}), string([]byte{byte(c), 'a'}), string([]byte{'a', byte(c)}), string([]byte{'_', '9', byte(c), 'Z'})} {
			if Name(s) != wholeName.MatchString(s) {
				t.Errorf("Name(%q) = %v", s, Name(s))
			}
		}
	}
}

func TestP7_1NameOfEachLength(t *testing.T) {
	for n := range 60 {
		for _, c := range []string{"a", "_", "Z"} {
			s := strings.Repeat(c, n)
			if Name(s) != (n >= 1 && n <= 24) {
				t.Errorf("Name of %d bytes = %v", n, Name(s))
			}
		}
	}
	for _, s := range []string{"é", "aé", "日", "a.b", "a:b", "a-b", "a b", "a\n", strings.Repeat("a", 1<<20)} {
		if Name(s) {
			t.Errorf("Name(%.30q) = true", s)
		}
	}
}

func TestP7_1ValueOfEachCodePoint(t *testing.T) {
	for r := rune(0); r <= 0x10ffff; r++ {
		if r >= 0xd800 && r <= 0xdfff {
			continue
		}
		want := r >= 32 && r != 127 && r != 0xfffd
		s := string(r)
		if Value(s) != want || Value("a"+s) != want || Value(s+"a") != want {
			t.Fatalf("Value(%q) is not %v", s, want)
		}
	}
}

func TestP7_1ValueOfEachLength(t *testing.T) {
	for n := range 60 {
		if s := strings.Repeat("a", n); Value(s) != (n >= 1 && n <= 40) {
			t.Errorf("Value of %d bytes = %v", n, Value(s))
		}
		if s := strings.Repeat("ü", n); Value(s) != (n >= 1 && n <= 20) {
			t.Errorf("Value of %d bytes = %v", 2*n, Value(s))
		}
	}
	if Value(strings.Repeat("日", 13)+"ab") || !Value(strings.Repeat("日", 13)+"a") || Value(strings.Repeat("x", 1<<20)) {
		t.Error("Value counts no bytes")
	}
}

func TestP7_1ValueOfNoUTF8(t *testing.T) {
	for _, s := range []string{"\xff", "\x80", "a\xc3", "\xc0\x80", "\xe6\x97", "\xed\xa0\x80", "\xed\xbf\xbf", "\xf4\x90\x80\x80", "\xf8\x88\x80\x80\x80", "a\xffb", "\xef\xbf\xbd"} {
		if Value(s) {
			t.Errorf("Value(%q) = true", s)
		}
	}
}

func TestP7_1Can(t *testing.T) {
	for _, l := range [][]api.Label{
		of("a", "x"), of("a", "x", "b", "x"), of("A", "x", "_", "x", "a", "x"), of("a", "z", "aa", "a", "b", "0"),
		of("a1", "x", "a10", "x", "a9", "x"), many(8), of("_", "日本"), of(strings.Repeat("n", 24), strings.Repeat("v", 40)),
	} {
		if !Can(l) {
			t.Errorf("Can(%v) = false", l)
		}
	}
	for _, l := range [][]api.Label{
		nil, {}, many(9), many(1000), of("b", "x", "a", "x"), of("a", "x", "a", "x"), of("a", "x", "a", "y"), of("a", "x", "c", "x", "b", "x"), of("a", "x", "b", "x", "a", "x"),
		of("a", "x", "A", "x"), of("", "x"), of("a", ""), of("1", "x"), of("a", "x", "b", ""), of("a", "x", "b", "\x00"), of("a", "\ufffd"), of("é", "x"),
		of("a", "x", strings.Repeat("n", 25), "x"), of("a", strings.Repeat("v", 41)),
	} {
		if Can(l) {
			t.Errorf("Can(%v) = true", l)
		}
	}
}

// orderedLists stands in order: each is below all behind it.
func orderedLists() [][]api.Label {
	return [][]api.Label{
		nil, of("", ""), of("", "", "", ""), of("", "z"), of("A", "x"), of("a", ""), of("a", "", "a", ""), of("a", "", "b", ""), of("a", "x"), of("a", "x", "b", "x"), of("a", "x", "b", "y"), of("a", "x", "c", "a"),
		of("a", "xx"), of("a", "y"), of("a", "\x80"), of("a", "\xff"), of("a", "\xff", "", ""), of("aa", "a"), of("b", "a"), of("b", "a", "a", "a"), of("\xff", ""),
	}
}

func TestP7_1Compare(t *testing.T) {
	lists := orderedLists()
	for i, a := range lists {
		for j, b := range lists {
			want := 0
			if i < j {
				want = -1
			} else if i > j {
				want = 1
			}
			if c := Compare(a, b); c != want {
				t.Errorf("Compare(%q, %q) = %d", a, b, c)
			}
		}
	}
	if Compare(nil, []api.Label{}) != 0 || Compare(many(1000), many(1000)) != 0 || Compare(many(1000), many(1001)) != -1 {
		t.Error("Compare of long and of empty lists")
	}
}

func TestP7_1Get(t *testing.T) {
	l := of("b", "1", "a", "2", "b", "3", "", "4", "\xff", "5", "e", "")
	for name, want := range map[string]string{"b": "1", "a": "2", "": "4", "\xff": "5", "e": "", "c": "", "B": "", "bb": "", "\ufffd": ""} {
		if v := Get(l, name); v != want {
			t.Errorf("Get(%q) = %q", name, v)
		}
	}
	if Get(nil, "a") != "" || Get(nil, "") != "" {
		t.Error("Get of no labels")
	}
}

// anyTexts is texts that Quote must take: marks, no UTF-8, none at all.
func anyTexts(r *rand.Rand) []string {
	texts := []string{"", "a", `"`, `\`, `""`, `\\`, `\"`, `"\`, "\x00\n", "\xff", "\xff\"\xfe\\", "\xe6\x97\"", "\ufffd", "日\\本", strings.Repeat(`"`, 1000)}
	for range 2000 {
		b := make([]byte, r.Intn(12))
		for i := range b {
			b[i] = []byte{'"', '\\', 'a', 0xff, 0xe6, 0x97, 0xa5, 0}[r.Intn(8)]
		}
		texts = append(texts, string(b))
	}
	return texts
}

func TestP7_2QuoteKnown(t *testing.T) {
	for s, want := range map[string]string{
		"": `""`, "a": `"a"`, `"`: `"\""`, `\`: `"\\"`, `"y"`: `"\"y\""`, `a\"b`: `"a\\\"b"`, "\n": "\"\n\"", "\xff\"\xff": "\"\xff\\\"\xff\"", "日本": `"日本"`, "\ufffd": "\"\ufffd\"",
	} {
		if q := Quote(s); q != want {
			t.Errorf("Quote(%q) = %q", s, q)
		}
	}
}

func TestP7_2QuoteAndBack(t *testing.T) {
	plain := strings.NewReplacer(`"`, `\"`, `\`, `\\`)
	for _, s := range anyTexts(rand.New(rand.NewSource(72))) {
		q := Quote(s)
		if q != `"`+plain.Replace(s)+`"` {
			t.Fatalf("Quote(%q) = %q", s, q)
		}
		for _, rest := range []string{"", `"`, `\`, "x", `,b="y"}`, "\xff"} {
			if text, behind, e := Unquote(q + rest); text != s || behind != rest || e != api.OK {
				t.Fatalf("Unquote(%q) = %q, %q, %d", q+rest, text, behind, int(e))
			}
		}
	}
}

func TestP7_2UnquoteWrong(t *testing.T) {
	for _, s := range []string{
		"", "a", `a"b"`, ` "a"`, `\"a"`, `"`, `"a`, `"\"`, `"\\\"`, `"a\`, `"\`, `"\a"`, `"\n"`, `"a\`, "\"\\\xff\"", `"\ "`, `"a\日"`, "'a'", `\`, "\xff\"a\"", "\"\xff", strings.Repeat("a", 1<<20), `"` + strings.Repeat("a", 1<<20),
	} {
		if text, rest, e := Unquote(s); text != "" || rest != "" || e != api.ErrForm {
			t.Errorf("Unquote(%.30q) = %.30q, %.30q, %d", s, text, rest, int(e))
		}
	}
}

// Each short text over these bytes is held against a regular expression of the chapter's words.
func TestP7_2UnquoteOfEachShortText(t *testing.T) {
	words := regexp.MustCompile(`\A"((?:[^"\\]|\\["\\])*)"((?s:.*))\z`)
	marked := regexp.MustCompile(`\\(["\\])`)
	eachText([]string{`"`, `\`, "a", "é"}, 7, func(s string) {
		text, rest, e := Unquote(s)
		m := words.FindStringSubmatch(s)
		if m == nil {
			if text != "" || rest != "" || e != api.ErrForm {
				t.Fatalf("Unquote(%q) = %q, %q, %d", s, text, rest, int(e))
			}
			return
		}
		if text != marked.ReplaceAllString(m[1], "$1") || rest != m[2] || e != api.OK {
			t.Fatalf("Unquote(%q) = %q, %q, %d", s, text, rest, int(e))
		}
	})
}

// eachText goes through all texts of so many of these pieces at most.
func eachText(pieces []string, most int, do func(string)) {
	texts := []string{""}
	for n := range most + 1 {
		var longer []string
		for _, s := range texts {
			do(s)
			if n < most {
				for _, p := range pieces {
					longer = append(longer, s+p)
				}
			}
		}
		texts = longer
	}
}

func TestP7_3ExampleOfTheChapter(t *testing.T) {
	const text = `{a="x",b="\"y\""}`
	l := of("a", "x", "b", `"y"`)
	if s, e := Text(l); s != text || e != api.OK {
		t.Errorf("Text = %q, %d", s, int(e))
	}
	if m, e := Parse(text); !slices.Equal(m, l) || e != api.OK {
		t.Errorf("Parse = %q, %d", m, int(e))
	}
}

func wrongLists() [][]api.Label {
	return [][]api.Label{nil, {}, many(9), of("b", "x", "a", "x"), of("a", "x", "a", "y"), of("", "x"), of("a", ""), of("1", "x"), of("a", "\n"), of("a", "\xff"), of("a", "\ufffd"), of("a", strings.Repeat("v", 41)), of(strings.Repeat("n", 25), "x"), make([]api.Label, 300)}
}

func TestP7_3TextOfWhatMayNotBe(t *testing.T) {
	for _, l := range wrongLists() {
		if s, e := Text(l); s != "" || e != api.ErrArg {
			t.Errorf("Text(%q) = %q, %d", l, s, int(e))
		}
	}
}

func wantNoLabels(t *testing.T, s string) {
	t.Helper()
	if l, e := Parse(s); len(l) != 0 || e != api.ErrForm {
		t.Errorf("Parse(%.60q) = %q, %d", s, l, int(e))
	}
}

func TestP7_3ParseWrong(t *testing.T) {
	for _, s := range []string{
		"", "{", "}", "{}", "{,}", `{a="x"`, `a="x"`, `a="x"}`, `{a="x"}}`, `{a="x"} `, ` {a="x"}`, `{a="x",}`, `{,a="x"}`, `{a="x",,b="y"}`, `{a="x"b="y"}`, `{a="x" ,b="y"}`, `{a="x", b="y"}`, `{a ="x"}`, `{a= "x"}`,
		`{a=x}`, `{a='x'}`, `{a="x}`, `{a=x"}`, `{a="\x"}`, `{a="x\"}`, `{a="x"y"}`, `{a}`, `{a=}`, `{="x"}`, `{a=""}`, `{1="x"}`, `{a.b="x"}`, `{é="x"}`, `{b="x",a="y"}`, `{a="x",a="x"}`, `{a="x",a="y"}`,
		"{a=\"\n\"}", "{a=\"\x7f\"}", "{a=\"\xff\"}", "{a=\"\ufffd\"}", `{{a="x"}`, `{a=="x"}`, `{a!="x"}`, `{a=~"x"}`, `a{b="x"}`, "{a=\"x\"}\n", `{a="x"};`, `{a="x";b="y"}`,
		`{a="` + strings.Repeat("v", 41) + `"}`, `{` + strings.Repeat("n", 25) + `="x"}`, strings.Repeat("{", 1<<20), "{" + strings.Repeat(`a="x",`, 1<<16), `{a="` + strings.Repeat(`\\`, 1<<16),
	} {
		wantNoLabels(t, s)
	}
	nine := "{"
	for _, l := range many(9) {
		nine += l.Name + `="v",`
	}
	wantNoLabels(t, nine[:len(nine)-1]+"}")
}

// Each short text behind a first label is held against a regular expression of the chapter's words.
func TestP7_3ParseOfEachShortText(t *testing.T) {
	one := `([a-zA-Z_][a-zA-Z_0-9]*)="((?:[^"\\]|\\["\\])+)"`
	words := regexp.MustCompile(`\A\{` + one + `(?:,` + one + `)?\}\z`)
	marked := regexp.MustCompile(`\\(["\\])`)
	for _, ahead := range []string{`{a="`, `{b="x",`, `{a="x"`} {
		eachText([]string{"{", "}", "a", "b", "=", `"`, `\`, ","}, 5, func(tail string) {
			s := ahead + tail
			l, e := Parse(s)
			m := words.FindStringSubmatch(s)
			if m == nil || m[3] != "" && m[1] >= m[3] {
				if len(l) != 0 || e != api.ErrForm {
					t.Fatalf("Parse(%q) = %q, %d", s, l, int(e))
				}
				return
			}
			want := of(m[1], marked.ReplaceAllString(m[2], "$1"))
			if m[3] != "" {
				want = append(want, of(m[3], marked.ReplaceAllString(m[4], "$1"))...)
			}
			if !slices.Equal(l, want) || e != api.OK {
				t.Fatalf("Parse(%q) = %q, %d", s, l, int(e))
			}
		})
	}
}

// What Parse takes is a text of what it answers, whatever byte of it is turned, missing or doubled.
func TestP7_3ParseOfTurnedTexts(t *testing.T) {
	r := rand.New(rand.NewSource(73))
	for range 300 {
		s, _ := Text(someLabels(r))
		for range 100 {
			at, b := r.Intn(len(s)), []byte(s)
			switch r.Intn(3) {
			case 0:
				b[at] ^= byte(1 << r.Intn(8))
			case 1:
				b = slices.Delete(b, at, at+1)
			case 2:
				b = slices.Insert(b, at, b[r.Intn(len(b))])
			}
			l, e := Parse(string(b))
			if e == api.ErrForm && len(l) == 0 {
				continue
			}
			if again, f := Text(l); e != api.OK || f != api.OK || again != string(b) {
				t.Fatalf("Parse(%q) = %q, %d", b, l, int(e))
			}
		}
	}
}

func TestP7_4BytesWrittenOut(t *testing.T) {
	b, e := Encode(of("a", "x", "bc", "日"))
	if want := []byte{2, 1, 'a', 1, 'x', 2, 'b', 'c', 3, 0xe6, 0x97, 0xa5}; !bytes.Equal(b, want) || e != api.OK {
		t.Errorf("Encode = % x, %d", b, int(e))
	}
	greatest := of(strings.Repeat("n", 24), strings.Repeat("v", 40))
	if b, e := Encode(greatest); len(b) != 67 || b[0] != 1 || b[1] != 24 || b[26] != 40 || e != api.OK {
		t.Errorf("Encode = % x, %d", b, int(e))
	}
}

func TestP7_4EncodeOfWhatMayNotBe(t *testing.T) {
	for _, l := range wrongLists() {
		if b, e := Encode(l); len(b) != 0 || e != api.ErrArg {
			t.Errorf("Encode(%q) = % x, %d", l, b, int(e))
		}
	}
}

// plainBytes is labels as bytes, whether they may be or not.
func plainBytes(l []api.Label) []byte {
	b := []byte{byte(len(l))}
	for _, x := range l {
		b = append(b, byte(len(x.Name)))
		b = append(b, x.Name...)
		b = append(b, byte(len(x.Value)))
		b = append(b, x.Value...)
	}
	return b
}

func wantNoBytes(t *testing.T, b []byte, want api.Errno) {
	t.Helper()
	if l, rest, e := Decode(b); len(l) != 0 || len(rest) != 0 || e != want {
		t.Errorf("Decode(% x) = %q, % x, %d, not %d", b, l, rest, int(e), int(want))
	}
}

func TestP7_4DecodeOfTooFew(t *testing.T) {
	wantNoBytes(t, nil, api.ErrShort)
	wantNoBytes(t, []byte{}, api.ErrShort)
	for _, l := range [][]api.Label{of("a", "x"), many(8), of("a", "x", "bc", "日"), of("b", "x", "a", "y"), many(255), of("", ""), make([]api.Label, 9)} {
		b := plainBytes(l)
		for n := range b {
			wantNoBytes(t, b[:n], api.ErrShort)
		}
	}
	wantNoBytes(t, []byte{1, 255}, api.ErrShort)
	wantNoBytes(t, []byte{1, 1, '1', 1}, api.ErrShort)
	wantNoBytes(t, []byte{255, 0, 0}, api.ErrShort)
}

func TestP7_4DecodeOfWhatMayNotBe(t *testing.T) {
	wantNoBytes(t, []byte{0}, api.ErrForm)
	wantNoBytes(t, []byte{0, 1, 'a', 1, 'x'}, api.ErrForm)
	for _, l := range wrongLists() {
		if len(l) < 256 {
			wantNoBytes(t, plainBytes(l), api.ErrForm)
			wantNoBytes(t, append(plainBytes(l), 1, 2, 3), api.ErrForm)
		}
	}
}

// What Decode takes is the bytes of what it answers and the rest, whatever byte is turned.
func TestP7_4DecodeOfTurnedBytes(t *testing.T) {
	r := rand.New(rand.NewSource(74))
	for range 300 {
		b := append(plainBytes(someLabels(r)), make([]byte, r.Intn(300))...)
		for range 100 {
			twin := bytes.Clone(b)
			twin[r.Intn(len(twin))] = byte(r.Intn(256))
			l, rest, e := Decode(twin)
			if e != api.OK {
				if len(l) != 0 || len(rest) != 0 || e != api.ErrForm && e != api.ErrShort {
					t.Fatalf("Decode(% x) = %q, % x, %d", twin, l, rest, int(e))
				}
				continue
			}
			if !Can(l) || !bytes.Equal(append(plainBytes(l), rest...), twin) {
				t.Fatalf("Decode(% x) = %q, % x", twin, l, rest)
			}
		}
	}
}

func TestP7_5ThereAndBack(t *testing.T) {
	r := rand.New(rand.NewSource(75))
	for i := range 3000 {
		l := someLabels(r)
		s, e := Text(l)
		if m, f := Parse(s); e != api.OK || f != api.OK || !slices.Equal(m, l) {
			t.Fatalf("Parse(%q) = %q, %d, not %q", s, m, int(f), l)
		}
		b, e := Encode(l)
		rest := make([]byte, i%3)
		m, behind, f := Decode(append(b, rest...))
		if e != api.OK || f != api.OK || !slices.Equal(m, l) || !bytes.Equal(behind, rest) {
			t.Fatalf("Decode(% x) = %q, % x, %d, not %q", b, m, behind, int(f), l)
		}
	}
}

func TestArgumentsAreLeftAsTheyAre(t *testing.T) {
	room := of("a", "x", "b", "y", "c", "z")
	l, twin := room[:2], slices.Clone(room)
	Can(l)
	Compare(l, room[1:2])
	Get(l, "b")
	Text(l)
	Encode(l)
	if !slices.Equal(room, twin) {
		t.Errorf("changed: %q", room)
	}
	b := append(plainBytes(room), 7, 8, 9)
	whole := bytes.Clone(b)
	Decode(b)
	Decode(b[:4])
	Decode(b[:len(b)-2])
	if !bytes.Equal(b, whole) {
		t.Errorf("changed: % x", b)
	}
}

func TestAnswersAreNewMemory(t *testing.T) {
	b := append(plainBytes(of("a", "x")), 7, 8, 9)
	twin := bytes.Clone(b)
	l, rest, _ := Decode(b)
	clear(rest[:cap(rest)])
	clear(l[:cap(l)])
	if !bytes.Equal(b, twin) {
		t.Error("Decode shares its bytes")
	}
	kept, behind, _ := Decode(b)
	clear(b)
	if !slices.Equal(kept, of("a", "x")) || !bytes.Equal(behind, []byte{7, 8, 9}) {
		t.Error("Decode keeps its bytes")
	}
	first, _ := Encode(of("a", "x"))
	clear(first[:cap(first)])
	if second, _ := Encode(of("a", "x")); !bytes.Equal(second, plainBytes(of("a", "x"))) {
		t.Error("two answers share memory")
	}
}
