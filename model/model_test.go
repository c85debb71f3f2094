package model

import (
	"fmt"
	"reflect"
	"slices"
	"strings"
	"testing"

	"dryrot/api"
)

func TestExampleOfTheChapter(t *testing.T) {
	m := did(t, opKeep(10), opAppend(times(5, 100)...))
	wantAll(t, m, series(of("a", "x"), 100, 300))
	wantFloor(t, m, 90)
}

func TestP23_1ANewModel(t *testing.T) {
	m := New()
	wantAll(t, m)
	wantFloor(t, m, least)
	wantWords(t, "Names", m.Names())
	wantWords(t, "Values", m.Values("a"))
	want(t, m, opAppend(times(least, greatest)...), api.OK)
	wantFloor(t, m, least) // nothing is kept for ever
}

// With no time that was ever appended, the newest one is -2^63, and no floor rises.
func TestP23_1NoNewestTime(t *testing.T) {
	m := did(t, opKeep(1), opDelete(nil, 0, 1), opKeep(10))
	wantFloor(t, m, least)
	want(t, m, opAppend(times(least)...), api.OK)
	wantFloor(t, m, least)
	want(t, m, opAppend(times(least+10)...), api.OK)
	wantFloor(t, m, least)
	want(t, m, opAppend(times(least+11)...), api.OK)
	wantFloor(t, m, least+1)
}

func TestP23_1WhatMayNotBe(t *testing.T) {
	m := did(t, opKeep(50), opAppend(times(100)...))
	before := state(m)
	many := slices.Repeat(times(200), api.MaxBatch+1)
	for what, o := range map[string]api.Op{
		"no kind":             {},
		"a kind below":        {Kind: -1, Rows: times(200)},
		"a kind above":        {Kind: 4, Rows: times(200), Keep: 1},
		"a huge kind":         {Kind: greatest},
		"no rows":             {Kind: api.OpAppend},
		"empty rows":          {Kind: api.OpAppend, Rows: []api.Row{}},
		"too many rows":       opAppend(many...),
		"no labels":           opAppend(api.Row{T: 200}),
		"a wrong name":        opAppend(row(200, 1, "1", "x")),
		"an empty value":      opAppend(row(200, 1, "a", "")),
		"names that fall":     opAppend(row(200, 1, "b", "x", "a", "x")),
		"a name twice":        opAppend(row(200, 1, "a", "x", "a", "y")),
		"a wrong one behind":  opAppend(append(times(200, 201), row(202, 1, "a", "\x7f"))...),
		"old, and wrong":      opAppend(append(times(0), row(202, 1, "", "x"))...),
		"a matcher of none":   opDelete([]api.Matcher{{}}, least, greatest),
		"too many matchers":   opDelete(slices.Repeat(one(api.Is, "a", "x"), api.MaxMatch+1), least, greatest),
		"no pattern":          opDelete(one(api.Like, "a", "("), least, greatest),
		"a matcher's name":    opDelete(one(api.Not, "1", "y"), least, greatest),
		"a Keep below":        opKeep(-1),
		"the least Keep":      opKeep(least),
		"a Keep above":        opKeep(api.MaxNumber + 1),
		"the greatest Keep":   opKeep(greatest),
		"a wrong value":       opAppend(row(200, 1, "a", strings.Repeat("v", api.MaxValue+1))),
		"too many labels":     opAppend(row(200, 1, "a", "x", "b", "x", "c", "x", "d", "x", "e", "x", "f", "x", "g", "x", "h", "x", "i", "x")),
		"a kind of a matcher": opDelete(one(5, "a", "x"), least, greatest),
	} {
		want(t, m, o, api.ErrArg)
		if !reflect.DeepEqual(state(m), before) {
			t.Errorf("%s: it has changed: %s, not %s", what, brief(state(m)), brief(before))
		}
	}
}

func TestP23_1WhatIsOld(t *testing.T) {
	m := did(t, opKeep(10), opAppend(times(100)...))
	before := state(m)
	for _, l := range [][]api.Row{times(89), times(least), times(200, 89), times(89, 200), append(times(90), row(-1, 1, "new", "x"))} {
		want(t, m, opAppend(l...), api.ErrOld)
		if !reflect.DeepEqual(state(m), before) {
			t.Errorf("%s: it has changed: %s, not %s", brief(l), brief(state(m)), brief(before))
		}
	}
	want(t, m, opAppend(times(90)...), api.OK)
	wantAll(t, m, series(of("a", "x"), 90, 270, 100, 300))
}

func TestP23_1ARowInThePlaceOfAnother(t *testing.T) {
	m := did(t, opAppend(row(5, 1, "a", "x"), row(5, 2, "a", "y"), row(5, 3, "a", "x"), row(4, 4, "a", "x")))
	wantAll(t, m, series(of("a", "x"), 4, 4, 5, 3), series(of("a", "y"), 5, 2))
	want(t, m, opAppend(row(5, 9, "a", "x"), row(6, 7, "a", "x")), api.OK)
	want(t, m, opAppend(row(5, 8, "a", "x", "b", "x")), api.OK)
	wantAll(t, m, series(of("a", "x"), 4, 4, 5, 9, 6, 7), series(of("a", "x", "b", "x"), 5, 8), series(of("a", "y"), 5, 2))
}

// What counts is the floor ahead of the rows: those that a newer one of the same operation puts below it are taken, and gone.
func TestP23_1RowsBelowTheFloorOfTheirOwn(t *testing.T) {
	m := did(t, opKeep(10), opAppend(times(50)...))
	want(t, m, opAppend(times(40, 100, 89, 90)...), api.OK)
	wantAll(t, m, series(of("a", "x"), 90, 270, 100, 300))
	wantFloor(t, m, 90)
}

func TestP23_1TheNewestTimeEver(t *testing.T) {
	m := did(t, opAppend(times(100)...), opAppend(times(20)...), opDelete(nil, 50, greatest))
	wantAll(t, m, series(of("a", "x"), 20, 60))
	want(t, m, opKeep(10), api.OK)
	wantFloor(t, m, 90)
	wantAll(t, m)
	want(t, m, opAppend(times(95)...), api.OK)
	wantFloor(t, m, 90)
	want(t, m, opAppend(times(101)...), api.OK)
	wantFloor(t, m, 91)
}

func TestP23_1Deletes(t *testing.T) {
	rows := append(times(least, -5, 0, 5, greatest), row(5, 7, "a", "y", "b", "z"))
	x, y := of("a", "x"), series(of("a", "y", "b", "z"), 5, 7)
	const low, high = least, greatest
	all := series(x, low, 0, -5, -15, 0, 0, 5, 15, high, 0)
	all.Samples[0].V, all.Samples[4].V = rows[0].V, rows[4].V
	without := func(l ...int) api.Series {
		s := api.Series{Labels: x, Samples: slices.Clone(all.Samples)}
		s.Samples = slices.DeleteFunc(s.Samples, func(x api.Sample) bool { return slices.Contains(l, x.T) })
		return s
	}
	for what, c := range map[string]struct {
		o    api.Op
		left []api.Series
	}{
		"all":                      {opDelete(nil, low, high), nil},
		"no matcher, a time":       {opDelete(nil, 5, 5), []api.Series{without(5)}},
		"from above to":            {opDelete(nil, 5, 4), []api.Series{all, y}},
		"greatest to least":        {opDelete(nil, high, low), []api.Series{all, y}},
		"the least":                {opDelete(nil, low, low), []api.Series{without(low), y}},
		"the greatest":             {opDelete(nil, high, high), []api.Series{without(high), y}},
		"between":                  {opDelete(nil, -5, 0), []api.Series{without(-5, 0), y}},
		"one series":               {opDelete(one(api.Is, "a", "x"), -5, 5), []api.Series{without(-5, 0, 5), y}},
		"one without":              {opDelete(one(api.Is, "b", ""), low, high), []api.Series{y}},
		"not":                      {opDelete(one(api.Not, "a", "x"), low, high), []api.Series{all}},
		"like":                     {opDelete(one(api.Like, "a", "[xy]"), 5, 5), []api.Series{without(5)}},
		"not like":                 {opDelete(one(api.NotLike, "b", "z"), 0, 5), []api.Series{without(0, 5), y}},
		"all matchers must":        {opDelete(append(one(api.Is, "a", "y"), one(api.Is, "b", "q")...), low, high), []api.Series{all, y}},
		"fields that play no part": {api.Op{Kind: api.OpDelete, From: 0, To: 0, Keep: -9, Rows: times(7)}, []api.Series{without(0), y}},
	} {
		m := did(t, opAppend(rows...), c.o)
		if l, _ := m.Select(nil, low, high); !same(l, c.left) {
			t.Errorf("%s: %s, not %s", what, brief(l), brief(c.left))
		}
		wantFloor(t, m, least)
	}
}

// A delete takes what is there: rows behind it stay.
func TestP23_1RowsBehindADelete(t *testing.T) {
	m := did(t, opAppend(times(5)...), opDelete(nil, 0, 9), opAppend(times(6)...))
	wantAll(t, m, series(of("a", "x"), 6, 18))
}

func TestP23_1Keep(t *testing.T) {
	for _, c := range []struct{ newest, keep, floor int }{
		{100, 30, 70}, {100, 1, 99}, {100, 0, least}, {0, api.MaxNumber, -api.MaxNumber}, {-1 << 62, api.MaxNumber, least},
		{-1<<62 - 1, api.MaxNumber, least}, {-1<<62 + 1, api.MaxNumber, least + 1}, {greatest, 1, greatest - 1}, {least + 1, 1, least}, {least + 2, 1, least + 1},
	} {
		wantFloor(t, did(t, opKeep(c.keep), opAppend(times(c.newest)...)), c.floor)
		wantFloor(t, did(t, opAppend(times(c.newest)...), opKeep(c.keep)), c.floor)
	}
	m := did(t, opAppend(times(10, 60, 70, 100)...), opKeep(40))
	wantAll(t, m, series(of("a", "x"), 60, 180, 70, 210, 100, 300))
	want(t, m, opKeep(30), api.OK)
	wantAll(t, m, series(of("a", "x"), 70, 210, 100, 300))
	want(t, m, opKeep(50), api.OK)
	wantFloor(t, m, 70)
	want(t, m, opAppend(times(69)...), api.ErrOld)
	want(t, m, api.Op{Kind: api.OpKeep, Rows: times(1, 2), Matchers: []api.Matcher{{}}, From: 100, To: 100}, api.OK)
	want(t, m, opAppend(times(9000)...), api.OK)
	wantFloor(t, m, 70)
	wantAll(t, m, series(of("a", "x"), 70, 210, 100, 300, 9000, 27000))
}

func TestP23_2Select(t *testing.T) {
	m := did(t, opAppend(append(times(7, 5), row(6, 1, "a", "w"), row(5, 2, "B", "q", "a", "x"))...))
	x := series(of("a", "x"), 5, 15, 7, 21)
	wantAll(t, m, series(of("B", "q", "a", "x"), 5, 2), series(of("a", "w"), 6, 1), x)
	wantTold(t, m, []api.Matcher{}, 6, 7, series(of("a", "w"), 6, 1), series(of("a", "x"), 7, 21))
	wantTold(t, m, one(api.Is, "B", ""), 7, greatest, series(of("a", "x"), 7, 21))
	wantTold(t, m, one(api.Like, "a", "x|w"), 5, 5, series(of("B", "q", "a", "x"), 5, 2), series(of("a", "x"), 5, 15))
	wantTold(t, m, nil, 7, 5)
	wantTold(t, m, nil, greatest, least)
	wantTold(t, m, one(api.Is, "a", "z"), least, greatest)
	for _, l := range [][]api.Matcher{{{}}, one(0, "a", "x"), one(5, "a", "x"), one(api.Is, "", "x"), one(api.NotLike, "a", "["), slices.Repeat(one(api.Is, "a", "x"), api.MaxMatch+1)} {
		for _, to := range []int{greatest, 0} {
			if got, e := m.Select(l, 5, to); got != nil || e != api.ErrArg {
				t.Errorf("Select(%v, 5, %d) = %s, %d", l, to, brief(got), int(e))
			}
		}
	}
	wantTold(t, m, slices.Repeat(one(api.Is, "a", "w"), api.MaxMatch), 6, 6, series(of("a", "w"), 6, 1))
}

func TestP23_2NamesAndValues(t *testing.T) {
	m := did(t, opAppend(row(5, 1, "b", "z"), row(5, 1, "a", "y", "b", "x"), row(5, 1, "B", "é"), row(9, 1, "a", "y", "c", "10"), row(9, 1, "a", "Y", "c", "9")))
	wantWords(t, "Names", m.Names(), "B", "a", "b", "c")
	wantWords(t, "Values of a", m.Values("a"), "Y", "y")
	wantWords(t, "Values of b", m.Values("b"), "x", "z")
	wantWords(t, "Values of c", m.Values("c"), "10", "9")
	wantWords(t, "Values of B", m.Values("B"), "é")
	for _, name := range []string{"", "A", "z", "aa", "é", "x", strings.Repeat("a", 1000)} {
		wantWords(t, "Values of "+name, m.Values(name))
	}
	want(t, m, opDelete(nil, 5, 5), api.OK)
	wantWords(t, "Names", m.Names(), "a", "c")
	want(t, m, opKeep(1), api.OK)
	want(t, m, opAppend(row(20, 1, "n", "m")), api.OK)
	wantWords(t, "Names", m.Names(), "n")
	wantWords(t, "Values", m.Values("a"))
	want(t, m, opDelete(nil, 20, 20), api.OK)
	wantWords(t, "Names", m.Names())
}

func TestP23_2Copy(t *testing.T) {
	wantStateOf(t, "a copy of a new one", New().Copy(), New())
	m := did(t, opKeep(40), opAppend(append(times(100, 90, 70), row(80, 1, "b", "y"))...), opDelete(one(api.Is, "a", "x"), 100, 100))
	before := state(m)
	c := m.Copy()
	wantStateOf(t, "a copy", c, m)
	want(t, c, opAppend(times(500)...), api.OK)
	want(t, c, opKeep(7), api.OK)
	want(t, c, opDelete(nil, least, greatest), api.OK)
	if !reflect.DeepEqual(state(m), before) {
		t.Errorf("what the copy did: %s, not %s", brief(state(m)), brief(before))
	}
	c = m.Copy()
	want(t, m, opDelete(nil, 70, 70), api.OK)
	want(t, m, opAppend(row(90, 1, "a", "x"), row(800, 1, "c", "x")), api.OK)
	want(t, m, opKeep(0), api.OK)
	if !reflect.DeepEqual(state(c), before) {
		t.Errorf("what the other one did: %s, not %s", brief(state(c)), brief(before))
	}
}

func TestP23_2CopyOfMany(t *testing.T) {
	m := New()
	for i := range 200 {
		var l []api.Row
		for j := range api.MaxBatch {
			l = append(l, row(i*7+j, uint64(i), "a", fmt.Sprint(j%5)))
		}
		want(t, m, opAppend(l...), api.OK)
	}
	wantStateOf(t, "a copy", m.Copy(), m)
}

func TestNoCallMadeIt(t *testing.T) {
	for _, m := range []*Model{nil, {}} {
		for _, o := range []api.Op{opAppend(times(5)...), opAppend(), opDelete(nil, 0, 1), opKeep(-1), {}} {
			want(t, m, o, api.ErrNil)
		}
		for _, l := range [][]api.Matcher{nil, {{}}} {
			if got, e := m.Select(l, 0, 1); got != nil || e != api.ErrNil {
				t.Errorf("Select = %v, %d", got, int(e))
			}
		}
		if m.Names() != nil || m.Values("a") != nil || m.Floor() != 0 || m.Copy() != nil {
			t.Error(m.Names(), m.Values("a"), m.Floor(), m.Copy())
		}
	}
}

// A model that chance does things to tells at each step what the chapter's words, said plainly, come to; and its floor never falls, and no sample is below it.
func TestP23_4ManyOperations(t *testing.T) {
	codes := map[api.Errno]int{}
	for seed := range int64(60) {
		c, m, p := newChance(seed), New(), newPlain()
		for range 120 {
			o, floor := c.op(), m.Floor()
			twin := m.Copy()
			code := p.do(o)
			want(t, m, o, code)
			codes[code]++
			if m.Floor() < floor || m.Floor() != p.floor {
				t.Fatalf("%s: Floor = %d, not %d, and was %d", brief(o), m.Floor(), p.floor, floor)
			}
			if below, _ := m.Select(nil, least, m.Floor()-1); m.Floor() > least && len(below) > 0 {
				t.Fatalf("%s: below the floor: %s", brief(o), brief(below))
			}
			from, to := c.span()
			l := c.matchers()
			wantTold(t, m, l, from, to, p.tell(l, from, to)...)
			wantAll(t, m, p.tell(nil, least, greatest)...)
			wantWords(t, "Names", m.Names(), p.words(func(l api.Label) string { return l.Name })...)
			for _, name := range []string{"a", "b", "c"} {
				wantWords(t, "Values", m.Values(name), p.words(func(l api.Label) string {
					if l.Name == name {
						return l.Value
					}
					return ""
				})...)
			}
			want(t, twin, o, code)
			wantStateOf(t, "a copy goes the same way", twin, m)
			if t.Failed() {
				t.Fatalf("seed %d, behind %s", seed, brief(o))
			}
		}
	}
	if codes[api.ErrOld] < 20 || codes[api.OK] < 1000 {
		t.Error(codes)
	}
}
