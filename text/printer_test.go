package text

import (
	"fmt"
	"math"
	"math/rand"
	"slices"
	"strings"
	"testing"

	"dryrot/api"
	"dryrot/labels"
)

// wantPrint holds rows and Metas against the text that they are.
func wantPrint(t *testing.T, l []api.Row, m []api.Meta, want string) {
	t.Helper()
	if b, e := Print(l, m); e != api.OK || string(b) != want {
		t.Errorf("Print(%s, %s) is %s, %v; want %s", brief(l), brief(m), brief(b), e, brief(want))
	}
}

func TestP27_3Rows(t *testing.T) {
	wantPrint(t, nil, nil, "")
	wantPrint(t, []api.Row{}, []api.Meta{}, "")
	for want, r := range map[string]api.Row{
		"up 1 2\n":                                              row(1, 2, "__name__", "up"),
		"up{a=\"x\"} 1 2\n":                                     row(1, 2, "__name__", "up", "a", "x"),
		"up{A=\"x\",a=\"y\"} 1 2\n":                             row(1, 2, "A", "x", "__name__", "up", "a", "y"),
		"up{A=\"x\"} 1 2\n":                                     row(1, 2, "A", "x", "__name__", "up"),
		"{a=\"x\"} 1 2\n":                                       row(1, 2, "a", "x"),
		"{__name__=\"no name\"} 1 2\n":                          row(1, 2, "__name__", "no name"),
		"{__name__=\"1\",a=\"x\"} 1 2\n":                        row(1, 2, "__name__", "1", "a", "x"),
		"{A=\"x\",__name__=\"é\"} 1 2\n":                        row(1, 2, "A", "x", "__name__", "é"),
		"{a=\"\\\"\\\\\",b=\" \"} 1 2\n":                        row(1, 2, "a", `"\`, "b", " "),
		"up 18446744073709551615 0\n":                           row(math.MaxUint64, 0, "__name__", "up"),
		"up 0 -9223372036854775808\n":                           row(0, math.MinInt, "__name__", "up"),
		"up 0 9223372036854775807\n":                            row(0, math.MaxInt, "__name__", "up"),
		strings.Repeat("n", 24) + " 1 -1\n":                     row(1, -1, "__name__", strings.Repeat("n", 24)),
		"{__name__=\"" + strings.Repeat("n", 25) + "\"} 1 -1\n": row(1, -1, "__name__", strings.Repeat("n", 25)),
	} {
		wantPrint(t, []api.Row{r}, nil, want)
		wantPrint(t, []api.Row{r, r}, []api.Meta{{Name: "a", Kind: "gauge"}}, "# TYPE a gauge\n"+want+want)
	}
	wantPrint(t, []api.Row{row(1, 9, "b", "x"), row(2, 8, "a", "x")}, nil, "{b=\"x\"} 1 9\n{a=\"x\"} 2 8\n")
}

func TestP27_3Metas(t *testing.T) {
	for want, m := range map[string]api.Meta{
		"":                               {Name: "up"},
		"# HELP up x\n":                  {Name: "up", Help: "x"},
		"# HELP up  \"x\\\xff\x7f \n":    {Name: "up", Help: " \"x\\\xff\x7f "},
		"# TYPE up counter\n":            {Name: "up", Kind: "counter"},
		"# TYPE up gauge\n":              {Name: "up", Kind: "gauge"},
		"# TYPE up histogram\n":          {Name: "up", Kind: "histogram"},
		"# TYPE up summary\n":            {Name: "up", Kind: "summary"},
		"# TYPE up untyped\n":            {Name: "up", Kind: "untyped"},
		"# HELP _ x\n# TYPE _ untyped\n": {Name: "_", Kind: "untyped", Help: "x"},
		"# HELP up " + strings.Repeat("h", 900) + "\n": {Name: "up", Help: strings.Repeat("h", 900)},
	} {
		wantPrint(t, nil, []api.Meta{m}, want)
		wantPrint(t, []api.Row{row(1, 2, "a", "x")}, []api.Meta{m, {Name: "b", Help: "y"}, m}, want+"# HELP b y\n"+want+"{a=\"x\"} 1 2\n")
	}
}

func TestP27_3OfWhatMayNotBePrinted(t *testing.T) {
	wrong := func(l []api.Row, m []api.Meta) {
		t.Helper()
		if b, e := Print(l, m); e != api.ErrArg || b != nil {
			t.Errorf("Print(%s, %s) is %s, %v", brief(l), brief(m), brief(b), e)
		}
	}
	right := row(1, 2, "a", "x")
	for _, words := range [][]string{nil, {"a", ""}, {"", "x"}, {"1", "x"}, {"b", "x", "a", "x"}, {"a", "x", "a", "x"}, {"a", "\n"}, {"a", "\xff"}, {"__name__", ""}, {"__name__", "up", "A", "x"}, {"a", strings.Repeat("v", 41)}, {strings.Repeat("n", 25), "x"}, {"a", "1", "b", "2", "c", "3", "d", "4", "e", "5", "f", "6", "g", "7", "h", "8", "i", "9"}} {
		bad := row(1, 2, words...)
		wrong([]api.Row{bad}, nil)
		wrong([]api.Row{right, bad}, nil)
		wrong([]api.Row{bad, right}, []api.Meta{{Name: "up"}})
	}
	for _, bad := range []api.Meta{
		{}, {Kind: "gauge"}, {Name: "1"}, {Name: "a b"}, {Name: "u-p"}, {Name: strings.Repeat("n", 25)}, {Name: "up", Kind: "what"}, {Name: "up", Kind: "Gauge"}, {Name: "up", Kind: " "}, {Name: "up", Kind: "gauge "}, {Name: "up", Help: "a\nb"}, {Name: "up", Help: "\t"}, {Name: "up", Help: "\x00"}, {Name: "up", Help: "x\x1f"}, {Name: "up", Help: strings.Repeat("h", 901)}, {Name: "up", Help: strings.Repeat("é", 451)},
	} {
		wrong(nil, []api.Meta{bad})
		wrong(nil, []api.Meta{{Name: "up"}, bad})
		wrong([]api.Row{right}, []api.Meta{bad, {Name: "up"}})
	}
}

// someLabels is labels that may be, with a name among them or not.
func someLabels(r *rand.Rand) []api.Label {
	points := []rune{'"', '\\', ',', '=', '{', '}', ' ', '#', 'a', '0', 0x80, 0xfc, 0x65e5, 0xfffc, 0x10ffff}
	var l []api.Label
	for _, name := range []string{"A", "Z9", "__name__", "a", "b", "c", strings.Repeat("n", 24), "z"} {
		value := string(points[r.Intn(len(points))])
		for range r.Intn(api.MaxValue) {
			if more := string(points[r.Intn(len(points))]); len(value)+len(more) <= api.MaxValue {
				value += more
			}
		}
		if name == "__name__" && r.Intn(3) > 0 {
			value = []string{"up", "_", "n9", "9", strings.Repeat("n", 24), strings.Repeat("n", 25)}[r.Intn(6)]
		}
		if r.Intn(3) > 0 {
			l = append(l, api.Label{Name: name, Value: value})
		}
	}
	if len(l) == 0 {
		return someLabels(r)
	}
	return l
}

// plainPrint is what the chapter says of a row's line, told once more.
func plainPrint(r api.Row) string {
	var inner []string
	name := ""
	for _, label := range r.Labels {
		if label.Name == "__name__" && labels.Name(label.Value) {
			name = label.Value
			continue
		}
		inner = append(inner, label.Name+"="+labels.Quote(label.Value))
	}
	if len(inner) > 0 {
		name += "{" + strings.Join(inner, ",") + "}"
	}
	return fmt.Sprintf("%s %d %d\n", name, r.V, r.T)
}

func TestP27_4ParseOfPrint(t *testing.T) {
	r := rand.New(rand.NewSource(3))
	for range 3000 {
		var rows []api.Row
		var metas []api.Meta
		want := ""
		for i := range r.Intn(4) {
			m := api.Meta{Name: fmt.Sprint("m", i), Kind: []string{"", "counter", "gauge", "histogram", "summary", "untyped"}[r.Intn(6)], Help: strings.Repeat("h é", r.Intn(100))}
			if m.Help != "" {
				want += "# HELP " + m.Name + " " + m.Help + "\n"
			}
			if m.Kind != "" {
				want += "# TYPE " + m.Name + " " + m.Kind + "\n"
			}
			if m.Help+m.Kind != "" {
				metas = append(metas, m)
			}
		}
		for range r.Intn(6) {
			row := api.Row{Labels: someLabels(r), T: int(r.Uint64() >> r.Intn(64)), V: r.Uint64() >> r.Intn(64)}
			rows = append(rows, row)
			want += plainPrint(row)
		}
		wantPrint(t, rows, metas, want)
		l, m, f := Parse([]byte(want), 5)
		if f != (api.Fault{}) || !sameRows(l, rows) || !slices.Equal(m, metas) {
			t.Fatalf("Parse(%s) is %s, %s, %v", brief(want), brief(l), brief(m), f)
		}
	}
}

func TestP27_4OfTheLongestRow(t *testing.T) {
	var l []api.Label
	for i := range 8 {
		l = append(l, api.Label{Name: strings.Repeat("n", 23) + fmt.Sprint(i), Value: strings.Repeat(`"`, 40)})
	}
	rows := []api.Row{{Labels: l, T: math.MinInt, V: math.MaxUint64}}
	b, e := Print(rows, []api.Meta{{Name: strings.Repeat("n", 24), Help: strings.Repeat("h", 900)}})
	if got, m, f := Parse(b, 0); e != api.OK || f != (api.Fault{}) || !sameRows(got, rows) || len(m) != 1 {
		t.Errorf("Parse(%s) is %v, %v, %v", brief(b), got, m, f)
	}
}
