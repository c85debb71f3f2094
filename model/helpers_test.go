package model

import (
	"cmp"
	"fmt"
	"math"
	"math/rand"
	"reflect"
	"slices"
	"testing"

	"dryrot/api"
	"dryrot/labels"
	"dryrot/match"
)

const (
	least    = math.MinInt
	greatest = math.MaxInt
)

// of is labels by name, value, name, value ..
func of(words ...string) []api.Label {
	var l []api.Label
	for i := 0; i < len(words); i += 2 {
		l = append(l, api.Label{Name: words[i], Value: words[i+1]})
	}
	return l
}

func row(t int, v uint64, words ...string) api.Row {
	return api.Row{Labels: of(words...), T: t, V: v}
}

// times is rows of one series, each with a value of its own.
func times(l ...int) []api.Row {
	var rows []api.Row
	for _, t := range l {
		rows = append(rows, row(t, uint64(t)*3, "a", "x"))
	}
	return rows
}

func one(kind int, name, value string) []api.Matcher {
	return []api.Matcher{{Kind: kind, Name: name, Value: value}}
}

func opAppend(l ...api.Row) api.Op { return api.Op{Kind: api.OpAppend, Rows: l} }

func opDelete(m []api.Matcher, from, to int) api.Op {
	return api.Op{Kind: api.OpDelete, Matchers: m, From: from, To: to}
}

func opKeep(n int) api.Op { return api.Op{Kind: api.OpKeep, Keep: n} }

// series is labels with samples by time, value, time, value ..
func series(l []api.Label, numbers ...int) api.Series {
	s := api.Series{Labels: l}
	for i := 0; i < len(numbers); i += 2 {
		s.Samples = append(s.Samples, api.Sample{T: numbers[i], V: uint64(numbers[i+1])})
	}
	return s
}

func same(a, b []api.Series) bool {
	return slices.EqualFunc(a, b, func(x, y api.Series) bool {
		return slices.Equal(x.Labels, y.Labels) && slices.Equal(x.Samples, y.Samples)
	})
}

func brief(x any) string { return fmt.Sprintf("%.400s", fmt.Sprintf("%+v", x)) }

// did is a new model behind operations that may be.
func did(t *testing.T, l ...api.Op) *Model {
	t.Helper()
	m := New()
	for _, o := range l {
		want(t, m, o, api.OK)
	}
	return m
}

func want(t *testing.T, m *Model, o api.Op, wanted api.Errno) {
	t.Helper()
	if e := m.Do(o); e != wanted {
		t.Fatalf("Do(%s) = %d, not %d", brief(o), int(e), int(wanted))
	}
}

func wantFloor(t *testing.T, m *Model, wanted int) {
	t.Helper()
	if m.Floor() != wanted {
		t.Errorf("Floor = %d, not %d", m.Floor(), wanted)
	}
}

func wantTold(t *testing.T, m *Model, l []api.Matcher, from, to int, wanted ...api.Series) {
	t.Helper()
	got, e := m.Select(l, from, to)
	if e != api.OK || !same(got, wanted) {
		t.Errorf("Select(%v, %d, %d) = %s, %d, not %s", l, from, to, brief(got), int(e), brief(wanted))
	}
}

func wantAll(t *testing.T, m *Model, wanted ...api.Series) {
	t.Helper()
	wantTold(t, m, nil, least, greatest, wanted...)
}

func wantWords(t *testing.T, what string, got []string, wanted ...string) {
	t.Helper()
	if !slices.Equal(got, wanted) {
		t.Errorf("%s = %q, not %q", what, got, wanted)
	}
}

// state is all that a model tells, and what it does with operations that ask for what it keeps in silence: the newest time and how long samples are kept.
func state(m *Model) []any {
	l, e := m.Select(nil, least, greatest)
	values := [][]string{}
	for _, name := range m.Names() {
		values = append(values, m.Values(name))
	}
	kept, newest := m.Copy(), m.Copy()
	kept.Do(opAppend(row(1<<61, 1, "z", "z")))
	newest.Do(opKeep(1))
	return []any{l, e, m.Names(), values, m.Floor(), kept.Floor(), newest.Floor()}
}

// plain is the chapter's words: rows, one behind the other, of which the later ones count.
type plain struct {
	rows                []api.Row
	floor, newest, kept int
}

func newPlain() *plain { return &plain{floor: least, newest: least} }

func (p *plain) do(o api.Op) api.Errno {
	switch o.Kind {
	case api.OpAppend:
		for _, r := range o.Rows {
			if r.T < p.floor {
				return api.ErrOld
			}
		}
		for _, r := range o.Rows {
			p.drop(func(x api.Row) bool { return x.T == r.T && slices.Equal(x.Labels, r.Labels) })
			p.rows = append(p.rows, r)
			p.newest = max(p.newest, r.T)
		}
	case api.OpDelete:
		p.drop(func(x api.Row) bool { return x.T >= o.From && x.T <= o.To && match.All(o.Matchers, x.Labels) })
	case api.OpKeep:
		p.kept = o.Keep
	}
	if behind := p.newest - p.kept; p.kept > 0 && p.newest != least && behind < p.newest {
		p.floor = max(p.floor, behind)
	}
	p.drop(func(x api.Row) bool { return x.T < p.floor })
	return api.OK
}

func (p *plain) drop(gone func(api.Row) bool) { p.rows = slices.DeleteFunc(p.rows, gone) }

func (p *plain) tell(m []api.Matcher, from, to int, gaps ...api.Gap) []api.Series {
	rows := slices.DeleteFunc(slices.Clone(p.rows), func(r api.Row) bool {
		hidden := slices.ContainsFunc(gaps, func(g api.Gap) bool { return g.From <= r.T && r.T <= g.To })
		return hidden || r.T < from || r.T > to || !match.All(m, r.Labels)
	})
	slices.SortFunc(rows, func(a, b api.Row) int {
		return cmp.Or(labels.Compare(a.Labels, b.Labels), cmp.Compare(a.T, b.T))
	})
	var l []api.Series
	for i, r := range rows {
		if i == 0 || !slices.Equal(rows[i-1].Labels, r.Labels) {
			l = append(l, api.Series{Labels: r.Labels})
		}
		s := &l[len(l)-1]
		s.Samples = append(s.Samples, api.Sample{T: r.T, V: r.V})
	}
	return l
}

func (p *plain) words(pick func(api.Label) string) []string {
	var l []string
	for _, r := range p.rows {
		for _, label := range r.Labels {
			if word := pick(label); word != "" {
				l = append(l, word)
			}
		}
	}
	slices.Sort(l)
	return slices.Compact(l)
}

// chance makes operations about a clock that goes on, some at the edges of all times.
type chance struct {
	*rand.Rand
	clock int
}

func newChance(seed int64) *chance { return &chance{Rand: rand.New(rand.NewSource(seed))} }

func (c *chance) time() int {
	switch c.Intn(60) {
	case 0:
		return least + c.Intn(3)
	case 1:
		return least + 1<<61
	}
	return c.clock - c.Intn(40)
}

func (c *chance) span() (int, int) {
	switch c.Intn(8) {
	case 0:
		return least, greatest
	case 1:
		return c.time(), greatest
	case 2:
		return least, c.time()
	}
	from := c.time()
	return from, from + c.Intn(60) - 5
}

func (c *chance) labels() []api.Label {
	l := of("a", fmt.Sprint("x", c.Intn(3)))
	if c.Intn(2) == 0 {
		l = append(l, api.Label{Name: "b", Value: fmt.Sprint("y", c.Intn(2))})
	}
	return l
}

func (c *chance) matchers() []api.Matcher {
	var l []api.Matcher
	for range c.Intn(3) {
		l = append(l, api.Matcher{Kind: 1 + c.Intn(4), Name: string(rune('a' + c.Intn(3))), Value: fmt.Sprint(string(rune('x'+c.Intn(2))), c.Intn(3))})
	}
	return l
}

func (c *chance) op() api.Op {
	switch c.Intn(10) {
	case 0, 1:
		from, to := c.span()
		return opDelete(c.matchers(), from, to)
	case 2:
		return opKeep([]int{0, c.Intn(300), c.Intn(60), api.MaxNumber, 1 << 61}[c.Intn(5)])
	}
	var l []api.Row
	for range 1 + c.Intn(8) {
		c.clock += c.Intn(4)
		l = append(l, api.Row{Labels: c.labels(), T: c.time(), V: c.Uint64()})
	}
	return opAppend(l...)
}

// wantStateOf holds two models against each other.
func wantStateOf(t *testing.T, what string, m, wanted *Model) {
	t.Helper()
	if a, b := state(m), state(wanted); !reflect.DeepEqual(a, b) {
		t.Errorf("%s: %s, not %s", what, brief(a), brief(b))
	}
}
