package world

import (
	"fmt"
	"math"
	"reflect"
	"slices"
	"testing"

	"dryrot/api"
	"dryrot/disk"
)

const (
	least    = math.MinInt
	greatest = math.MaxInt
)

// of is labels by name, value, name, value ..
func of(words ...string) []api.Label {
	var l []api.Label
	for i := 0; i < len(words); i += 2 {
		l = append(l, api.Label{Name: words[i], Value: words[i+1]})
	}
	return l
}

func row(t int, v uint64, words ...string) api.Row {
	return api.Row{Labels: of(words...), T: t, V: v}
}

// rows is n rows of one series from a time on, each with a value of its own.
func rows(from, n int, words ...string) []api.Row {
	var l []api.Row
	for i := range n {
		l = append(l, row(from+i, uint64(from+i)*0x9e3779b97f4a7c15, words...))
	}
	return l
}

// series is rows of one series as that.
func series(l ...api.Row) api.Series {
	s := api.Series{Labels: l[0].Labels}
	for _, r := range l {
		s.Samples = append(s.Samples, api.Sample{T: r.T, V: r.V})
	}
	return s
}

func is(name, value string) []api.Matcher {
	return []api.Matcher{{Kind: api.Is, Name: name, Value: value}}
}

func appends(l ...api.Row) api.Step { return api.Step{Kind: api.StepAppend, Rows: l} }

func deletes(m []api.Matcher, from, to int) api.Step {
	return api.Step{Kind: api.StepDelete, Matchers: m, From: from, To: to}
}

// kind is a step that is nothing beside its kind.
func kind(k int) api.Step { return api.Step{Kind: k} }

// times is a step of a number.
func times(k, n int) api.Step { return api.Step{Kind: k, N: n} }

func rots(name string, i, at, mask int) api.Step {
	return api.Step{Kind: api.StepRot, Name: name, N: i, From: at, To: mask}
}

func selects(m []api.Matcher, from, to int) api.Step {
	return api.Step{Kind: api.StepSelect, Matchers: m, From: from, To: to}
}

func all() api.Step { return selects(nil, least, greatest) }

func names(of string) api.Step { return api.Step{Kind: api.StepNames, Name: of} }

func brief(x any) string { return fmt.Sprintf("%.400s", fmt.Sprintf("%+v", x)) }

func fresh(t *testing.T, room int) *World {
	t.Helper()
	w, code := New(room)
	if code != api.OK {
		t.Fatalf("New(%d): %d", room, int(code))
	}
	return w
}

// want has steps done, each of which must come to a code, and to nothing beside it where that is none of OK.
func want(t *testing.T, w *World, code api.Errno, steps ...api.Step) {
	t.Helper()
	for _, s := range steps {
		r := w.Do(s)
		if r.Code != code {
			t.Fatalf("%s: %d, not %d", brief(s), int(r.Code), int(code))
		}
		if code != api.OK && !reflect.DeepEqual(r, api.Reply{Code: code}) {
			t.Fatalf("%s: beside %d there is %s", brief(s), int(code), brief(r))
		}
	}
}

func must(t *testing.T, w *World, steps ...api.Step) {
	t.Helper()
	want(t, w, api.OK, steps...)
}

func sameSeries(a, b []api.Series) bool {
	return slices.EqualFunc(a, b, func(x, y api.Series) bool {
		return slices.Equal(x.Labels, y.Labels) && slices.Equal(x.Samples, y.Samples)
	})
}

func sameReply(a, b api.Reply) bool {
	return a.Code == b.Code && sameSeries(a.Answer.Series, b.Answer.Series) && slices.Equal(a.Answer.Gaps, b.Answer.Gaps) && slices.Equal(a.Names, b.Names)
}

func wantTold(t *testing.T, w *World, s api.Step, wanted []api.Series, gaps ...api.Gap) {
	t.Helper()
	r := w.Do(s)
	if !sameReply(r, api.Reply{Answer: api.Answer{Series: wanted, Gaps: gaps}}) {
		t.Errorf("%s: %s, not %s with gaps %v", brief(s), brief(r), brief(wanted), gaps)
	}
}

func wantNames(t *testing.T, w *World, s api.Step, wanted ...string) {
	t.Helper()
	r := w.Do(s)
	if !sameReply(r, api.Reply{Names: wanted}) {
		t.Errorf("%s: %s, not %q", brief(s), brief(r), wanted)
	}
}

func wantWorst(t *testing.T, w *World, wanted int) {
	t.Helper()
	if n := w.Worst(); n != wanted {
		t.Errorf("Worst = %d, not %d: %v", n, wanted, w.Disk().Damaged())
	}
}

// wantSame holds two disks against each other.
func wantSame(t *testing.T, what string, d, wanted *disk.Disk) {
	t.Helper()
	if !reflect.DeepEqual(d, wanted) {
		t.Errorf("%s: the disk is another one: %s, not %s", what, brief(d.List()), brief(wanted.List()))
	}
}

// turned has a byte of each extent of files turned.
func turned(t *testing.T, w *World, files ...string) {
	t.Helper()
	for _, file := range files {
		n := w.Disk().Extents(file)
		if n == 0 {
			t.Fatalf("there is no %s: %v", file, w.Disk().List())
		}
		for i := range n {
			must(t, w, rots(file, i, 30, 0x41))
		}
	}
}
