package text

import (
	"bytes"
	"fmt"
	"math"
	"math/big"
	"math/rand"
	"regexp"
	"slices"
	"strings"
	"testing"
	"time"

	"dryrot/api"
	"dryrot/labels"
)

// brief is the beginning of a thing's words, since some are long.
func brief(x any) string { return fmt.Sprintf("%.300s", fmt.Sprintf("%q", x)) }

// of is labels by name, value, name, value ..
func of(words ...string) []api.Label {
	var l []api.Label
	for i := 0; i < len(words); i += 2 {
		l = append(l, api.Label{Name: words[i], Value: words[i+1]})
	}
	return l
}

func row(v uint64, at int, words ...string) api.Row {
	return api.Row{Labels: of(words...), T: at, V: v}
}

func sameRow(a, b api.Row) bool { return slices.Equal(a.Labels, b.Labels) && a.T == b.T && a.V == b.V }

func sameRows(a, b []api.Row) bool { return slices.EqualFunc(a, b, sameRow) }

// wantRow holds a line against the row that it is.
func wantRow(t *testing.T, s string, want api.Row) {
	t.Helper()
	if r, ok, f := Line(s, 77); !ok || f != (api.Fault{}) || !sameRow(r, want) {
		t.Errorf("Line(%s) is %v, %v, %v; want %v", brief(s), r, ok, f, want)
	}
}

// wantNone asks that a line is no row; code is what is wrong with it, if anything.
func wantNone(t *testing.T, s string, code api.Errno) {
	t.Helper()
	if r, ok, f := Line(s, 77); ok || f != (api.Fault{Code: code}) || !isZero(r) {
		t.Errorf("Line(%s) is %v, %v, %v; want %v", brief(s), r, ok, f, code)
	}
}

func isZero(r api.Row) bool { return len(r.Labels) == 0 && r.T == 0 && r.V == 0 }

func TestExampleOfTheChapter(t *testing.T) {
	wantRow(t, `up{job="x"} 0x1f 7`, row(31, 7, "__name__", "up", "job", "x"))
}

func TestP27_1Samples(t *testing.T) {
	for s, want := range map[string]api.Row{
		"up 1":                         row(1, 77, "__name__", "up"),
		"up\t1":                        row(1, 77, "__name__", "up"),
		"up \t  \t1\t \t2 \t":          row(1, 2, "__name__", "up"),
		"up 1 ":                        row(1, 77, "__name__", "up"),
		"up 1\t\t":                     row(1, 77, "__name__", "up"),
		"_ 1":                          row(1, 77, "__name__", "_"),
		"A9_z 1":                       row(1, 77, "__name__", "A9_z"),
		"__name__ 1":                   row(1, 77, "__name__", "__name__"),
		strings.Repeat("n", 24) + " 1": row(1, 77, "__name__", strings.Repeat("n", 24)),
		`{a="x"} 1`:                    row(1, 77, "a", "x"),
		`{b="y",a="x"} 1`:              row(1, 77, "a", "x", "b", "y"),
		`up{b="y",Z="x"} 1`:            row(1, 77, "Z", "x", "__name__", "up", "b", "y"),
		`up{a="x",B="y"} 1`:            row(1, 77, "B", "y", "__name__", "up", "a", "x"),
		`{__name__="up"} 1`:            row(1, 77, "__name__", "up"),
		`{b="y",__name__="no name"} 1`: row(1, 77, "__name__", "no name", "b", "y"),
		`{a=" \"{,}=\\"} 1 2`:          row(1, 2, "a", ` "{,}=\`),
		`{a="# HELP"} 1`:               row(1, 77, "a", "# HELP"),
		`{a="é日𝄞"} 1`:                  row(1, 77, "a", "é日𝄞"),
		`{a="` + strings.Repeat("v", 40) + `"} 1`:             row(1, 77, "a", strings.Repeat("v", 40)),
		`{a="` + strings.Repeat(`\"`, 40) + `"} 1`:            row(1, 77, "a", strings.Repeat(`"`, 40)),
		`{h="8",g="7",f="6",e="5",d="4",c="3",b="2",a="1"} 1`: row(1, 77, "a", "1", "b", "2", "c", "3", "d", "4", "e", "5", "f", "6", "g", "7", "h", "8"),
		`n{g="7",f="6",e="5",d="4",c="3",b="2",a="1"} 1`:      row(1, 77, "__name__", "n", "a", "1", "b", "2", "c", "3", "d", "4", "e", "5", "f", "6", "g", "7"),
	} {
		wantRow(t, s, want)
	}
}

func TestP27_1Values(t *testing.T) {
	for s, want := range map[string]uint64{
		"0": 0, "9": 9, "007": 7, "00000000000000000000": 0, "00000000000000000009": 9, "18446744073709551615": math.MaxUint64, "09999999999999999999": 9999999999999999999,
		"0x0": 0, "0xa": 10, "0x00000000000000ff": 255, "0xffffffffffffffff": math.MaxUint64, "0x0123456789abcdef": 0x123456789abcdef, "0x9": 9,
	} {
		wantRow(t, "up "+s, row(want, 77, "__name__", "up"))
		wantRow(t, "up "+s+" 5", row(want, 5, "__name__", "up"))
	}
	for _, s := range []string{"-1", "+1", "1.5", "1e3", "x", "x1", "0x", "0xg", "0xA", "0XA", "0xaF", "0x00000000000000000", "0x10000000000000000", "000000000000000000000", "18446744073709551616", "99999999999999999999", "1_0", "0x1_0", "0b1", "0o7", "1a", "ff", "1,0", "1\r", "٣", "NaN", "-0x1", "0x-1", "0x+1", "1#", "0x0x1"} {
		wantNone(t, "up "+s, api.ErrSyntax)
		wantNone(t, "up "+s+" 5", api.ErrSyntax)
	}
}

func TestP27_1Times(t *testing.T) {
	for s, want := range map[string]int{
		"0": 0, "-0": 0, "9": 9, "-9": -9, "007": 7, "-007": -7, "0000000000000000000": 0, "-0000000000000000009": -9, "9223372036854775807": math.MaxInt, "-9223372036854775808": math.MinInt, "-9223372036854775807": -math.MaxInt,
	} {
		wantRow(t, "up 1 "+s, row(1, want, "__name__", "up"))
		wantRow(t, "up 1\t"+s+" ", row(1, want, "__name__", "up"))
	}
	for _, s := range []string{"-", "+1", "--1", "- 1", "1-", "9223372036854775808", "-9223372036854775809", "9999999999999999999", "-9999999999999999999", "00000000000000000000", "-00000000000000000000", "0x1", "1.5", "1e3", "1_0", "x", "1 2", "1 #", "1 # remark", "#", "٣", "1\r"} {
		wantNone(t, "up 1 "+s, api.ErrSyntax)
	}
}

func TestP27_1WrongSamples(t *testing.T) {
	for _, s := range []string{
		"up", "up ", "1", " 1", " up 1", "\tup 1", "1up 1", "u.p 1", "u:p 1", "u-p 1", "é 1", "up,1", "up;1", "\r", "up 1\r", "\v", "\x00", " #", " # HELP up x", "\t# TYPE up gauge",
		strings.Repeat("n", 25) + " 1", "{} 1", "up{} 1", `up {a="x"} 1`, `up{a="x"}1`, `up{a="x"}`, `up{a="x"} `, `{a="x"}up 1`, `up{a="x"}{b="y"} 1`, `up{a="x"`, `up{a="x" 1`, `up{a="x",} 1`, `up{,a="x"} 1`, `up{a="x",,b="y"} 1`, `up{a="x"b="y"} 1`, `up{a="x";b="y"} 1`,
		`up{ a="x"} 1`, `up{a ="x"} 1`, `up{a= "x"} 1`, `up{a="x" } 1`, `up{a="x", b="y"} 1`, `up{a="x" ,b="y"} 1`, "up{a=\"x\"\t} 1", `up{a=x} 1`, `up{a='x'} 1`, `up{a="x} 1`, `up{a=x"} 1`, `up{a} 1`, `up{="x"} 1`, `up{a=} 1`, `up{a=""} 1`, `up{a=="x"} 1`, `up{a!="x"} 1`, `up{a=~"x"} 1`, `up{a="\n"} 1`, `up{a="\"} 1`, `up{a="x\"} 1`, "up{",
		`{a="x",a="x"} 1`, `{a="x",b="z",a="y"} 1`, `up{__name__="up"} 1`, `up{__name__="down"} 1`, `{__name__="a",__name__="b"} 1`, `{1="x"} 1`, `{a.b="x"} 1`, `{a="x",1="y"} 1`, `{` + strings.Repeat("n", 25) + `="x"} 1`, `{a="` + strings.Repeat("v", 41) + `"} 1`,
		"{a=\"\x7f\"} 1", "{a=\"\t\"} 1", "{a=\"\xff\"} 1", "{a=\"\ufffd\"} 1", "{a=\"\x00\"} 1", `1{a="x"} 1`, `u-p{a="x"} 1`, strings.Repeat("n", 25) + `{a="x"} 1`, `{a="{"} 1 {`,
		`{i="9",h="8",g="7",f="6",e="5",d="4",c="3",b="2",a="1"} 1`, `n{h="8",g="7",f="6",e="5",d="4",c="3",b="2",a="1"} 1`,
	} {
		wantNone(t, s, api.ErrSyntax)
	}
}

func TestP27_1NothingAndRemarks(t *testing.T) {
	for _, s := range []string{
		"", " ", "\t", " \t \t", strings.Repeat(" ", 1000),
		"#", "##", "# ", "#\t", "# remark", "#up 1", "# HELP", "# TYPE", "# HELPS up x", "# TYPED", "#HELP up", "#TYPE", "# help up", "# type", "#  HELP", "#  TYPE x", "# HELP\tup", "# TYPE\tup", "# EOF", "#\r", "# \x00\x01\xff", "##  HELP 1", "# UNIT up x",
		"# HELP up it is up", "# HELP up ", "# HELP up  ", "# HELP _ x", "# HELP up é\xff\x7f", "# HELP up # HELP up", `# HELP up \n"{}`, "# HELP " + strings.Repeat("n", 24) + " x", "# HELP up " + strings.Repeat("h", 990),
		"# TYPE up counter", "# TYPE up gauge", "# TYPE up histogram", "# TYPE up summary", "# TYPE up untyped", "# TYPE __name__ gauge", "# TYPE " + strings.Repeat("n", 24) + " gauge",
	} {
		wantNone(t, s, api.OK)
	}
	for _, s := range []string{
		"# HELP ", "# HELP up", "# HELP  ", "# HELP  up x", "# HELP \tup x", "# HELP up\tx", "# HELP 1up x", "# HELP u-p x", "# HELP up{} x", "# HELP " + strings.Repeat("n", 25) + " x", "# HELP up a\tb", "# HELP up \t", "# HELP up a\r", "# HELP up \x00", "# HELP up \x1f",
		"# TYPE ", "# TYPE up", "# TYPE up ", "# TYPE up  gauge", "# TYPE  up gauge", "# TYPE up gauge ", "# TYPE up\tgauge", "# TYPE up Gauge", "# TYPE up gauges", "# TYPE up gaug", "# TYPE up what", "# TYPE up gauge x", "# TYPE 1 gauge", "# TYPE gauge", "# TYPE up gauge\r", "# TYPE " + strings.Repeat("n", 25) + " gauge",
	} {
		wantNone(t, s, api.ErrSyntax)
	}
}

func TestP27_1LongLines(t *testing.T) {
	for _, head := range []string{"", "#", "# HELP up ", "up 1", "up 1 5", `{a="x"} 0x1`} {
		long := head + strings.Repeat(" ", 1000-len(head))
		if _, _, f := Line(long, 0); f != (api.Fault{}) {
			t.Errorf("Line(%s) of 1000 bytes: %v", brief(long), f)
		}
		wantNone(t, long+" ", api.ErrFull)
		wantNone(t, long+"\n", api.ErrFull)
	}
	wantNone(t, strings.Repeat("?", 1000), api.ErrSyntax)
	wantNone(t, strings.Repeat("?", 1001), api.ErrFull)
	wantNone(t, "# HELP "+strings.Repeat("é", 500), api.ErrFull)
	wantNone(t, strings.Repeat("x", 1<<25), api.ErrFull)
}

func TestP27_1LinesOfMoreThanOne(t *testing.T) {
	for _, s := range []string{"\n", "up 1\n", "\nup 1", "up\n1", "up 1\nup 2", "#\n", "# a\nb", "# HELP up x\n", "# HELP up x\ny", "# TYPE up gauge\n", "{a=\"\n\"} 1", " \n ", "up 1 \n"} {
		wantNone(t, s, api.ErrSyntax)
	}
}

const (
	plainName   = `[a-zA-Z_][a-zA-Z_0-9]{0,23}`
	plainQuoted = `"(?:[^"\\]|\\["\\])*"`
)

var (
	plainNothing = regexp.MustCompile(`\A[ \t]*\z`)
	plainHelp    = regexp.MustCompile(`\A# HELP (` + plainName + `) ([^\x00-\x1f]*)\z`)
	plainKind    = regexp.MustCompile(`\A# TYPE (` + plainName + `) (counter|gauge|histogram|summary|untyped)\z`)
	plainOther   = regexp.MustCompile(`\A#[^\n]*\z`)
	plainSample  = regexp.MustCompile(`(?s)\A(` + plainName + `)?(\{` + plainName + `=` + plainQuoted + `(?:,` + plainName + `=` + plainQuoted + `)*\})?[ \t]+(?:([0-9]{1,20})|0x([0-9a-f]{1,16}))(?:[ \t]+(-?[0-9]{1,19}))?[ \t]*\z`)
	plainLabel   = regexp.MustCompile(`(?s)(` + plainName + `)="((?:[^"\\]|\\["\\])*)"`)
)

// plainLine is what the chapter says of a line, told once more: by patterns, and numbers without a bound.
func plainLine(s string, now int) (api.Row, api.Meta, api.Errno) {
	if len(s) > 1000 {
		return api.Row{}, api.Meta{}, api.ErrFull
	}
	if m := plainHelp.FindStringSubmatch(s); m != nil {
		return api.Row{}, api.Meta{Name: m[1], Help: m[2]}, api.OK
	}
	if m := plainKind.FindStringSubmatch(s); m != nil {
		return api.Row{}, api.Meta{Name: m[1], Kind: m[2]}, api.OK
	}
	isTold := strings.HasPrefix(s, "# HELP ") || strings.HasPrefix(s, "# TYPE ")
	if plainNothing.MatchString(s) || plainOther.MatchString(s) && !isTold {
		return api.Row{}, api.Meta{}, api.OK
	}
	r, ok := plainRow(s, now)
	if !ok {
		return api.Row{}, api.Meta{}, api.ErrSyntax
	}
	return r, api.Meta{}, api.OK
}

func plainRow(s string, now int) (api.Row, bool) {
	m := plainSample.FindStringSubmatch(s)
	if m == nil {
		return api.Row{}, false
	}
	values := map[string]string{}
	n := 0
	if m[1] != "" {
		values["__name__"] = m[1]
		n++
	}
	for _, label := range plainLabel.FindAllStringSubmatch(m[2], -1) {
		values[label[1]] = strings.NewReplacer(`\"`, `"`, `\\`, `\`).Replace(label[2])
		n++
	}
	var l []api.Label
	for name, value := range values {
		l = append(l, api.Label{Name: name, Value: value})
	}
	slices.SortFunc(l, func(a, b api.Label) int { return strings.Compare(a.Name, b.Name) })
	v, _ := new(big.Int).SetString(m[3]+m[4], map[bool]int{true: 10, false: 16}[m[4] == ""])
	at := big.NewInt(int64(now))
	if m[5] != "" {
		at.SetString(m[5], 10)
	}
	return api.Row{Labels: l, T: int(at.Int64()), V: v.Uint64()}, n == len(l) && labels.Can(l) && v.IsUint64() && at.IsInt64()
}

// someLine is a line put together of pieces that are right, mostly.
func someLine(r *rand.Rand) string {
	pick := func(words ...string) string { return words[r.Intn(len(words))] }
	number := func() string {
		return pick("0", "7", "18446744073709551615", "18446744073709551616", "9223372036854775807", "9223372036854775808", "00000000000000000001", "000000000000000000001", "0x1f", "0xffffffffffffffff", "0xF", "-3", "-9223372036854775808", "-9223372036854775809", "x")
	}
	blank := func() string { return pick(" ", " ", " ", "\t", "  ", " \t ", "") }
	label := func() string {
		return pick("a", "b", "c", "Z", "__name__", "1", "") + pick("=", "=", "=", "=", "==", "") + pick(`"x"`, `"x"`, `"y z"`, `"\""`, `"\\"`, `"é"`, `""`, `"\x"`, `"`, "\"\t\"")
	}
	switch r.Intn(8) {
	case 0:
		return pick("# HELP ", "# TYPE ", "# TYPE ", "#", "# HELP", " #", "# TYPES ") + pick("up", "_9", "up", "_9", "1", "") + pick(" ", " ", " ", "  ", "", "\t") + pick("counter", "gauge", "histogram", "summary", "untyped", "some help", "é", "a\tb", "")
	case 1:
		return pick("", " ", "\t", "\n", " \n", "\r") + blank()
	}
	s := pick("up", "down", "_", "", "9", "u-p", " up")
	if r.Intn(2) == 0 {
		s += "{" + label()
		for range r.Intn(3) {
			s += pick(",", ",", ",", ", ", "") + label()
		}
		s += pick("}", "}", "}", "}", "", ",}", " }")
	}
	s += blank() + number()
	if r.Intn(2) == 0 {
		s += blank() + number()
	}
	return s + pick("", "", blank(), " #", "\n")
}

// damaged is a text with some bytes that are others, gone, or too many.
func damaged(r *rand.Rand, s string) string {
	b := []byte(s)
	for range r.Intn(3) {
		at := r.Intn(len(b) + 1)
		signs := " \t\n\"\\{},=#0x9-aE_\x00\x1f\x7f\xff"
		c := signs[r.Intn(len(signs))]
		switch {
		case at == len(b) || r.Intn(3) == 0:
			b = slices.Insert(b, at, c)
		case r.Intn(2) == 0:
			b[at] = c
		default:
			b = slices.Delete(b, at, at+1)
		}
	}
	return string(b)
}

func TestP27_1OfAny(t *testing.T) {
	r := rand.New(rand.NewSource(1))
	count := map[string]int{}
	for range 200000 {
		s, now := someLine(r), r.Intn(5)
		if r.Intn(2) == 0 {
			s = damaged(r, s)
		}
		want, meta, e := plainLine(s, now)
		got, ok, f := Line(s, now)
		if f != (api.Fault{Code: e}) || ok != (len(want.Labels) > 0) || !sameRow(got, want) {
			t.Fatalf("Line(%q, %d) is %v, %v, %v; want %v, %v", s, now, got, ok, f, want, e)
		}
		count[fmt.Sprint(e, ok, meta.Kind != "", meta.Help != "")]++
	}
	if len(count) != 5 {
		t.Errorf("too few kinds of lines were there: %v", count)
	}
	for what, n := range count {
		if n < 500 {
			t.Errorf("of %s there were too few: %d", what, n)
		}
	}
}

func TestP27_1EachByteAtEachPlace(t *testing.T) {
	for _, s := range []string{`up{a="x",b="\\"} 0x1f -7 `, "# HELP up x", "# TYPE up gauge", " \t "} {
		for at := range len(s) + 1 {
			for c := range 256 {
				one := string([]byte{byte(c)})
				lines := []string{s[:at] + one + s[at:]}
				if at < len(s) {
					lines = append(lines, s[:at]+one+s[at+1:], s[:at]+s[at+1:], s[:at])
				}
				for _, line := range lines {
					want, _, e := plainLine(line, 3)
					if got, ok, f := Line(line, 3); f != (api.Fault{Code: e}) || ok != (len(want.Labels) > 0) || !sameRow(got, want) {
						t.Fatalf("Line(%q) is %v, %v, %v; want %v, %v", line, got, ok, f, want, e)
					}
				}
			}
		}
	}
}

func TestP27_1NowOfAnyTime(t *testing.T) {
	for _, now := range []int{0, -1, 5, math.MinInt, math.MaxInt} {
		for s, want := range map[string]int{"up 1": now, "up 1 ": now, "up 1 5": 5, "up 1 -0": 0} {
			if r, ok, f := Line(s, now); !ok || r.T != want || f != (api.Fault{}) {
				t.Errorf("Line(%q, %d) is %v, %v, %v", s, now, r, ok, f)
			}
		}
	}
}

// wantText holds a text against its rows and Metas.
func wantText(t *testing.T, s string, rows []api.Row, metas []api.Meta) {
	t.Helper()
	for _, b := range [][]byte{[]byte(s), append([]byte(s), '\n'), append([]byte(s), "\n \n\n"...)} {
		l, m, f := Parse(b, 77)
		if f != (api.Fault{}) || !sameRows(l, rows) || !slices.Equal(m, metas) {
			t.Errorf("Parse(%s) is %s, %s, %v; want %s, %s", brief(b), brief(l), brief(m), f, brief(rows), brief(metas))
		}
	}
}

func wantFault(t *testing.T, s string, code api.Errno, line int) {
	t.Helper()
	if l, m, f := Parse([]byte(s), 77); f != (api.Fault{Code: code, Line: line}) || len(l) != 0 || len(m) != 0 {
		t.Errorf("Parse(%s) is %s, %s, %v; want %v in %d", brief(s), brief(l), brief(m), f, code, line)
	}
}

func TestP27_2Rows(t *testing.T) {
	up := row(1, 77, "__name__", "up")
	wantText(t, "", nil, nil)
	wantText(t, "\n\n#\n\t", nil, nil)
	wantText(t, "up 1", []api.Row{up}, nil)
	wantText(t, "\nup 1\n# a\nup 1\n{a=\"x\"} 2 3", []api.Row{up, up, row(2, 3, "a", "x")}, nil)
	wantText(t, "b 1 9\na 1 5\nb 2 9", []api.Row{row(1, 9, "__name__", "b"), row(1, 5, "__name__", "a"), row(2, 9, "__name__", "b")}, nil)
}

func TestP27_2Metas(t *testing.T) {
	wantText(t, "# HELP b x", nil, []api.Meta{{Name: "b", Help: "x"}})
	wantText(t, "# TYPE b gauge", nil, []api.Meta{{Name: "b", Kind: "gauge"}})
	wantText(t, "# HELP b x\n# TYPE b gauge\n# HELP a y\n# HELP b z", nil, []api.Meta{{Name: "b", Kind: "gauge", Help: "z"}, {Name: "a", Help: "y"}})
	wantText(t, "# TYPE a gauge\n# TYPE b summary\n# TYPE a counter\n# HELP c y\n# HELP a  x ", nil, []api.Meta{{Name: "a", Kind: "counter", Help: " x "}, {Name: "b", Kind: "summary"}, {Name: "c", Help: "y"}})
	wantText(t, "# HELP a x\n# HELP a ", nil, []api.Meta{{Name: "a"}})
	wantText(t, "# HELP a ", nil, []api.Meta{{Name: "a"}})
	wantText(t, "# HELPS a x\n#HELP a x\n# TYPE\n# HELP", nil, nil)
	wantText(t, "up 1\n# TYPE up gauge\nup 2", []api.Row{row(1, 77, "__name__", "up"), row(2, 77, "__name__", "up")}, []api.Meta{{Name: "up", Kind: "gauge"}})
}

func TestP27_2Faults(t *testing.T) {
	long := strings.Repeat("#", 1001)
	for _, c := range []struct {
		text string
		code api.Errno
		line int
	}{
		{"up", api.ErrSyntax, 1}, {"up\n", api.ErrSyntax, 1}, {"\nup", api.ErrSyntax, 2}, {"\n\n\nup\n\n", api.ErrSyntax, 4}, {"up 1\nup 2\n up 3\n?", api.ErrSyntax, 3},
		{long, api.ErrFull, 1}, {long + "\nup", api.ErrFull, 1}, {"up\n" + long, api.ErrSyntax, 1}, {"#\n" + long + "\n", api.ErrFull, 2}, {"up 1\r\n", api.ErrSyntax, 1}, {"# TYPE a gauge\n# TYPE a what\nup", api.ErrSyntax, 2}, {"# HELP a\n", api.ErrSyntax, 1}, {"up 1 \x00", api.ErrSyntax, 1},
		{strings.Repeat("\n", 100000) + "?", api.ErrSyntax, 100001},
	} {
		wantFault(t, c.text, c.code, c.line)
	}
}

func TestP27_2TooManyRows(t *testing.T) {
	full := strings.Repeat("# remark\nup 1\n", 10000)
	l, m, f := Parse([]byte(full), 77)
	if f != (api.Fault{}) || len(l) != 10000 || len(m) != 0 {
		t.Errorf("10000 rows are %d, %v", len(l), f)
	}
	if l, _, f := Parse([]byte(full+"# TYPE up gauge\n\n"), 77); f != (api.Fault{}) || len(l) != 10000 {
		t.Errorf("10000 rows and more lines are %d, %v", len(l), f)
	}
	wantFault(t, full+"up 2", api.ErrFull, 20001)
	wantFault(t, full+"\nup 2\n?", api.ErrFull, 20002)
	wantFault(t, full+"\n?\nup 2", api.ErrSyntax, 20002)
	wantFault(t, strings.Repeat("up 1\n", 10001), api.ErrFull, 10001)
}

// plainParse is what the chapter says of a text, told once more.
func plainParse(s string, now int) ([]api.Row, []api.Meta, api.Fault) {
	var rows []api.Row
	var metas []api.Meta
	for i, line := range strings.Split(s, "\n") {
		r, m, e := plainLine(line, now)
		if e != api.OK {
			return nil, nil, api.Fault{Code: e, Line: i + 1}
		}
		if len(r.Labels) > 0 {
			rows = append(rows, r)
		}
		if m.Name == "" {
			continue
		}
		at := slices.IndexFunc(metas, func(told api.Meta) bool { return told.Name == m.Name })
		if at < 0 {
			metas = append(metas, m)
		} else if m.Kind != "" {
			metas[at].Kind = m.Kind
		} else {
			metas[at].Help = m.Help
		}
	}
	return rows, metas, api.Fault{}
}

func TestP27_2OfAny(t *testing.T) {
	r := rand.New(rand.NewSource(2))
	right := 0
	for range 20000 {
		var lines []string
		for range r.Intn(40) {
			line := someLine(r)
			if _, _, e := plainLine(line, 0); e == api.OK || r.Intn(60) == 0 {
				lines = append(lines, line)
			}
		}
		s := strings.Join(lines, "\n")
		rows, metas, want := plainParse(s, 4)
		l, m, f := Parse([]byte(s), 4)
		if f != want || !sameRows(l, rows) || !slices.Equal(m, metas) {
			t.Fatalf("Parse(%q) is %v, %v, %v; want %v, %v, %v", s, l, m, f, rows, metas, want)
		}
		if f.Code == api.OK && len(l) > 0 && len(m) > 0 {
			right++
		}
	}
	if right < 1000 {
		t.Errorf("only %d had rows and Metas", right)
	}
}

func TestArgumentsAreLeftAsTheyAre(t *testing.T) {
	b := []byte("# HELP up x\nup{b=\"y\",a=\"x\"} 1\nup\n")
	twin := bytes.Clone(b)
	for n := range len(b) + 1 {
		Parse(b[:n], 5)
	}
	if !bytes.Equal(b, twin) {
		t.Errorf("the text is %q", b)
	}
	given := func() []api.Row {
		return []api.Row{row(1, 2, "__name__", "up", "a", "x"), row(1, 2, "A", "x", "__name__", "up", "a", "x"), row(3, 4, "__name__", "no name", "b", "y")}
	}
	rows, metas := given(), []api.Meta{{Name: "up", Kind: "gauge", Help: "x"}, {Name: "b"}}
	for n := range len(rows) + 1 {
		Print(rows[:n], metas[:min(n, 2)])
	}
	if !sameRows(rows, given()) || !slices.Equal(metas, []api.Meta{{Name: "up", Kind: "gauge", Help: "x"}, {Name: "b"}}) {
		t.Errorf("the rows are %v, the Metas %v", rows, metas)
	}
}

func TestArgumentsAreNotKept(t *testing.T) {
	b := []byte("# HELP up it is\n# TYPE up gauge\nup{b=\"y\",a=\"\\\"x\"} 1 2\n")
	l, m, f := Parse(b, 5)
	clear(b)
	if f != (api.Fault{}) || !sameRows(l, []api.Row{row(1, 2, "__name__", "up", "a", `"x`, "b", "y")}) || !slices.Equal(m, []api.Meta{{Name: "up", Kind: "gauge", Help: "it is"}}) {
		t.Errorf("the text is kept: %v, %v, %v", l, m, f)
	}
}

func TestAnswersAreNewMemory(t *testing.T) {
	b := []byte("up{a=\"x\"} 1 2\nup{a=\"x\"} 1 2\nup{a=\"x\"} 1 2\n")
	l, _, _ := Parse(b, 5)
	for i := range l {
		_ = append(l[i].Labels, of("z", "z", "z", "z")...)
		clear(l[i].Labels[:cap(l[i].Labels)])
		for _, other := range l[i+1:] {
			if !slices.Equal(other.Labels, of("__name__", "up", "a", "x")) {
				t.Errorf("two rows share labels: %v", l)
			}
		}
	}
	rows := []api.Row{row(1, 2, "__name__", "up", "a", "x")}
	one, _ := Print(rows, nil)
	two, _ := Print(rows, nil)
	clear(one[:cap(one)])
	if string(two) != "up{a=\"x\"} 1 2\n" || !sameRows(rows, []api.Row{row(1, 2, "__name__", "up", "a", "x")}) {
		t.Errorf("two answers share memory: %q, %v", two, rows)
	}
}

func TestP27_2GreatTexts(t *testing.T) {
	began := time.Now()
	var b bytes.Buffer
	for i := range 300000 {
		fmt.Fprintf(&b, "# TYPE n%d gauge\n# HELP n%d help\n\n", i, i/2)
	}
	_, m, f := Parse(b.Bytes(), 0)
	if f != (api.Fault{}) || len(m) != 300000 || m[0] != (api.Meta{Name: "n0", Kind: "gauge", Help: "help"}) || m[299999] != (api.Meta{Name: "n299999", Kind: "gauge"}) {
		t.Errorf("%d Metas, %v", len(m), f)
	}
	wantFault(t, strings.Repeat("x", 1<<26)+"\nup 1", api.ErrFull, 1)
	if _, _, f := Parse(bytes.Repeat([]byte{'\n'}, 1<<22), 0); f != (api.Fault{}) {
		t.Errorf("empty lines: %v", f)
	}
	if spent := time.Since(began); spent > 20*time.Second {
		t.Errorf("it took %v", spent)
	}
}
