package stats

import (
	"fmt"
	"math"
	"math/rand"
	"slices"
	"testing"

	"dryrot/api"
)

func wantAdd(t *testing.T, a, b, want api.Stats) {
	t.Helper()
	for range 2 {
		if s, e := Add(a, b); e != api.OK || !same(s, want) {
			t.Errorf("Add(%+v, %+v) is %+v, %v; want %+v", a, b, s, e, want)
		}
		a, b = b, a
	}
}

func wantNoAdd(t *testing.T, a, b api.Stats, want api.Errno) {
	t.Helper()
	for range 2 {
		if s, e := Add(a, b); e != want || s.Names != nil || s.Pairs != nil || !same(s, api.Stats{}) {
			t.Errorf("Add(%+v, %+v) is %+v, %v; want %v", a, b, s, e, want)
		}
		a, b = b, a
	}
}

func TestP30_3Together(t *testing.T) {
	wantAdd(t, api.Stats{}, api.Stats{}, api.Stats{})
	a := whole(2, 5, 3, "a 2, b 1", `a="x" 1, a="y" 1, b="x" 1`)
	wantAdd(t, a, api.Stats{}, a)
	wantAdd(t, a, api.Stats{Names: []api.Count{}, Pairs: []api.Count{}}, a)
	wantAdd(t, a, whole(4, 9, 2, "b 4, c 1", `b="x" 3, c="z" 1`), whole(6, 14, 4, "b 5, a 2, c 1", `b="x" 4, a="x" 1, a="y" 1, c="z" 1`))
	wantAdd(t, a, a, whole(4, 10, 3, "a 4, b 2", `a="x" 2, a="y" 2, b="x" 2`))
	// Values is how many Pairs there are, whatever the two tell.
	wantAdd(t, whole(1, 1, 50, "", `a="x" 1`), whole(1, 1, 0, "", `a="x" 1`), whole(2, 2, 1, "", `a="x" 2`))
	wantAdd(t, whole(0, 0, 50, "a 1", ""), whole(0, 0, 7, "a 1", ""), whole(0, 0, 0, "a 2", ""))
	// A name in Names and one in Pairs are two things.
	wantAdd(t, whole(0, 0, 0, "a 1", "a 5"), whole(0, 0, 0, "b 1", "a 6"), whole(0, 0, 1, "a 1, b 1", "a 11"))
	// Nothing says that the lists fall, that none of their counts is 0, or what the names are.
	wantAdd(t, whole(0, 0, 0, "a 0, b 1, c 2", ""), whole(0, 0, 0, "d 0, c 0", ""), whole(0, 0, 0, "c 2, b 1, a 0, d 0", ""))
	wantAdd(t, whole(0, 0, 0, "", "x 0"), whole(0, 0, 0, "", " 0, \xff 0"), whole(0, 0, 3, "", " 0, x 0, \xff 0"))
	wantAdd(t, whole(0, 0, 0, "a 1, b 1", ""), whole(0, 0, 0, "b 1, a 1", ""), whole(0, 0, 0, "a 2, b 2", ""))
}

func TestP30_3WhatMayNotBe(t *testing.T) {
	right := whole(2, 5, 3, "a 2, b 1", `a="x" 1, a="y" 1, b="x" 1`)
	full := whole(api.MaxNumber, api.MaxNumber, 1, fmt.Sprint("a ", math.MaxInt), fmt.Sprint("b ", math.MaxInt))
	for _, wrong := range []api.Stats{
		{Series: -1}, {Samples: -1}, {Values: -1}, {Series: math.MinInt}, {Samples: math.MinInt}, {Values: math.MinInt},
		whole(0, 0, 0, "a -1", ""), whole(0, 0, 0, "a 1, b 2, c -1", ""), whole(0, 0, 0, "", "a -1"), whole(0, 0, 0, "", fmt.Sprint("a 1, b 2, c ", math.MinInt)),
		whole(0, 0, 0, "a 1, a 1", ""), whole(0, 0, 0, "a 1, b 2, a 0", ""), whole(0, 0, 0, "", "a 1, b 3, b 1"), whole(0, 0, 0, "", " 1,  1"), whole(0, 0, 0, "a 0, a 0", "b 1"),
		{Series: -1, Samples: math.MaxInt}, {Series: math.MaxInt, Samples: -1},
	} {
		for _, other := range []api.Stats{right, {}, full, wrong, {Series: math.MaxInt, Samples: math.MaxInt, Values: math.MaxInt}} {
			wantNoAdd(t, wrong, other, api.ErrArg)
		}
	}
}

func TestP30_3AsManyAsMayBe(t *testing.T) {
	const most = api.MaxNumber
	for _, n := range []int{0, 1, 5, most / 2, most - 1, most} {
		number := fmt.Sprint("a ", n)
		rest, beyond := fmt.Sprint("a ", most-n), fmt.Sprint("a ", most-n+1)
		wantAdd(t, api.Stats{Series: n}, api.Stats{Series: most - n}, api.Stats{Series: most})
		wantNoAdd(t, api.Stats{Series: n}, api.Stats{Series: most - n + 1}, api.ErrFull)
		wantAdd(t, api.Stats{Samples: n}, api.Stats{Samples: most - n}, api.Stats{Samples: most})
		wantNoAdd(t, api.Stats{Samples: n}, api.Stats{Samples: most - n + 1}, api.ErrFull)
		wantAdd(t, whole(0, 0, 0, number, ""), whole(0, 0, 0, rest, ""), whole(0, 0, 0, fmt.Sprint("a ", most), ""))
		wantNoAdd(t, whole(0, 0, 0, number, ""), whole(0, 0, 0, "b 3, "+beyond, ""), api.ErrFull)
		wantAdd(t, whole(0, 0, 0, "", number), whole(0, 0, 0, "", rest), whole(0, 0, 1, "", fmt.Sprint("a ", most)))
		wantNoAdd(t, whole(0, 0, 0, "", number), whole(0, 0, 0, "", beyond+", b 3"), api.ErrFull)
	}
	for _, n := range []int{most + 1, math.MaxInt} {
		for _, other := range []int{0, 1, most, math.MaxInt} {
			wantNoAdd(t, api.Stats{Series: n}, api.Stats{Series: other}, api.ErrFull)
			wantNoAdd(t, api.Stats{Samples: n}, api.Stats{Samples: other}, api.ErrFull)
			wantNoAdd(t, whole(0, 0, 0, fmt.Sprint("a ", n), ""), whole(0, 0, 0, fmt.Sprint("a ", other), ""), api.ErrFull)
			wantNoAdd(t, whole(0, 0, 0, "", fmt.Sprint("a ", n)), whole(0, 0, 0, "", fmt.Sprint("b ", other)), api.ErrFull)
		}
		wantNoAdd(t, whole(0, 0, 0, fmt.Sprint("a ", n), ""), api.Stats{}, api.ErrFull)
		// Values have no bound, since they are counted anew.
		wantAdd(t, api.Stats{Values: n}, api.Stats{Values: n}, api.Stats{})
	}
	wantAdd(t, whole(0, 0, 0, fmt.Sprint("a ", most), ""), whole(0, 0, 0, fmt.Sprint("b ", most), ""), whole(0, 0, 0, fmt.Sprint("a ", most, ", b ", most), ""))
	wantAdd(t, whole(0, 0, 0, fmt.Sprint("a ", most), ""), whole(0, 0, 0, "", fmt.Sprint("a ", most)), whole(0, 0, 1, fmt.Sprint("a ", most), fmt.Sprint("a ", most)))
}

// plain is what the chapter says of Of with room for all, told once more.
func plain(l []api.Series) api.Stats {
	var s api.Stats
	var names []string
	var pairs []api.Label
	l = slices.DeleteFunc(slices.Clone(l), func(one api.Series) bool { return len(one.Samples) == 0 })
	for _, one := range l {
		s.Series, s.Samples = s.Series+1, s.Samples+len(one.Samples)
		for _, label := range one.Labels {
			if !slices.Contains(names, label.Name) {
				names = append(names, label.Name)
			}
			if !slices.Contains(pairs, label) {
				pairs = append(pairs, label)
			}
		}
	}
	has := func(fits func(api.Label) bool) int {
		n := 0
		for _, one := range l {
			if slices.ContainsFunc(one.Labels, fits) {
				n++
			}
		}
		return n
	}
	for _, name := range names {
		s.Names = append(s.Names, api.Count{Name: name, N: has(func(label api.Label) bool { return label.Name == name })})
	}
	for _, pair := range pairs {
		s.Pairs = append(s.Pairs, api.Count{Name: fmt.Sprintf("%s=%q", pair.Name, pair.Value), N: has(func(label api.Label) bool { return label == pair })})
	}
	s.Values = len(s.Pairs)
	s.Names, s.Pairs = plainTop(s.Names, len(s.Names)), plainTop(s.Pairs, len(s.Pairs))
	return s
}

// plainTop takes the first of the greatest ones out of a list, so many times.
func plainTop(l []api.Count, most int) []api.Count {
	l = slices.Clone(l)
	var top []api.Count
	for range min(max(most, 0), len(l)) {
		best := 0
		for i, c := range l {
			if c.N > l[best].N || c.N == l[best].N && c.Name < l[best].Name {
				best = i
			}
		}
		top = append(top, l[best])
		l = slices.Delete(l, best, best+1)
	}
	return top
}

func plainHeavy(l []api.Series, values int) []api.Count {
	var heavy []api.Count
	all := plain(l)
	for _, c := range all.Names {
		n := 0
		for _, p := range all.Pairs {
			if p.Name[0] == c.Name[0] {
				n++
			}
		}
		if n > values {
			heavy = append(heavy, api.Count{Name: c.Name, N: n})
		}
	}
	return plainTop(heavy, len(heavy))
}

// someSeries is series whose names are of one letter each; their labels may come twice, in any order.
func someSeries(r *rand.Rand) []api.Series {
	var l []api.Series
	for range r.Intn(8) {
		var texts []string
		for range r.Intn(5) {
			texts = append(texts, []string{"a", "b", "c"}[r.Intn(3)], []string{"x", "y", `"`, `\`, ""}[r.Intn(5)])
		}
		l = append(l, series(r.Intn(3), texts...))
	}
	return l
}

func TestP30_2OfAny(t *testing.T) {
	r := rand.New(rand.NewSource(1))
	for range 10000 {
		l := someSeries(r)
		want := plain(l)
		for most := -1; most < 17; most += 1 + r.Intn(4) {
			some := want
			some.Names, some.Pairs = want.Names[:min(max(0, most), len(want.Names))], want.Pairs[:min(max(0, most), len(want.Pairs))]
			wantOf(t, l, most, some)
		}
		for values := -1; values < 6; values++ {
			wantCounts(t, fmt.Sprintf("Heavy(%v, %d)", l, values), Heavy(l, values), countTexts(plainHeavy(l, values)))
		}
	}
}

func TestP30_1OfAny(t *testing.T) {
	r := rand.New(rand.NewSource(2))
	for range 10000 {
		var l []api.Count
		for range r.Intn(12) {
			l = append(l, api.Count{Name: []string{"a", "b", "ab", ""}[r.Intn(4)], N: r.Intn(5) - 2})
		}
		most := r.Intn(14) - 1
		wantCounts(t, fmt.Sprintf("Top(%v, %d)", l, most), Top(l, most), countTexts(plainTop(l, most)))
	}
}

func TestP30_5PartsTogetherAreTheWhole(t *testing.T) {
	r := rand.New(rand.NewSource(3))
	for range 20000 {
		l := someSeries(r)
		var a, b []api.Series
		for _, one := range l {
			if r.Intn(2) == 0 {
				a = append(a, one)
			} else {
				b = append(b, one)
			}
		}
		all := 8 * len(l)
		wantAdd(t, Of(a, all), Of(b, all), Of(l, all))
	}
}

func TestArgumentsAreLeftAsTheyAre(t *testing.T) {
	l := counts("b 1, a 2, c 3, z 9, y 9")
	wantCounts(t, "Top", Top(l[:3], 2), "c 3, a 2")
	wantCounts(t, "the list", l, "b 1, a 2, c 3, z 9, y 9")
	a := api.Stats{Names: l[:2], Pairs: l[2:4]}
	b := api.Stats{Names: l[3:4], Pairs: l[1:2]}
	wantAdd(t, a, b, api.Stats{Values: 3, Names: counts("z 9, a 2, b 1"), Pairs: counts("z 9, c 3, a 2")})
	wantCounts(t, "the list", l, "b 1, a 2, c 3, z 9, y 9")
	many := []api.Series{series(2, "b", "x", "a", "y", "q", "q"), series(3, "a", "y"), series(1, "q", "q")}
	many[0].Labels = many[0].Labels[:2]
	before := fmt.Sprint(many, many[0].Labels[:3])
	wantOf(t, many[:2], 9, whole(2, 5, 2, "a 2, b 1", `a="y" 2, b="x" 1`))
	wantCounts(t, "Heavy", Heavy(many[:2], 0), "a 1, b 1")
	if after := fmt.Sprint(many, many[0].Labels[:3]); after != before {
		t.Errorf("%s is %s now", before, after)
	}
}

// scribble writes over counts, and over the room behind them.
func scribble(l []api.Count) {
	for i := range l[:cap(l)] {
		l[:cap(l)][i] = api.Count{Name: "w", N: 99}
	}
}

func TestAnswersAreNewMemory(t *testing.T) {
	l := counts("b 1, a 2, c 3")
	scribble(Top(l, 3))
	scribble(Top(l, 1))
	scribble(Top(l, 0))
	wantCounts(t, "the list", l, "b 1, a 2, c 3")
	a := whole(1, 1, 1, "a 1", `a="x" 1`)
	for _, b := range []api.Stats{{}, a, whole(1, 1, 1, "b 1", `b="x" 1`)} {
		s, _ := Add(a, b)
		pairs := countTexts(s.Pairs)
		scribble(s.Names)
		wantCounts(t, "Pairs", s.Pairs, pairs)
		scribble(s.Pairs)
		wantCounts(t, "Names", a.Names, "a 1")
		wantCounts(t, "Pairs", a.Pairs, `a="x" 1`)
	}
	s := Of([]api.Series{series(1, "a", "x", "b", "y")}, 1)
	scribble(s.Names)
	wantCounts(t, "Pairs", s.Pairs, `a="x" 1`)
}
