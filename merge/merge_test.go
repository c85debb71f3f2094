package merge

import (
	"fmt"
	"math"
	"math/rand"
	"slices"
	"testing"
	"time"

	"dryrot/api"
)

// brief is the beginning of a thing's words, since some are long.
func brief(x any) string { return fmt.Sprintf("%.300s", fmt.Sprintf("%v", x)) }

// of is samples of these times, all of one value.
func of(v uint64, times ...int) []api.Sample {
	var l []api.Sample
	for _, t := range times {
		l = append(l, api.Sample{T: t, V: v})
	}
	return l
}

// every is n samples from a time on, each a step behind the one ahead.
func every(v uint64, from, step, n int) []api.Sample {
	l := make([]api.Sample, n)
	for i := range l {
		l[i] = api.Sample{T: from + i*step, V: v}
	}
	return l
}

func ranked(rank int, samples ...api.Sample) api.Ranked {
	return api.Ranked{Rank: rank, Samples: samples}
}

func gap(from, to int) api.Gap { return api.Gap{From: from, To: to} }

func isIn(gaps []api.Gap, t int) bool {
	return slices.ContainsFunc(gaps, func(g api.Gap) bool { return g.From <= t && t <= g.To })
}

func valueAt(l []api.Sample, t int) (uint64, bool) {
	for _, s := range l {
		if s.T == t {
			return s.V, true
		}
	}
	return 0, false
}

// plainMerged is what the chapter says of merged samples, told once more: time by time.
func plainMerged(l []api.Ranked, floor int, gaps []api.Gap) []api.Sample {
	var times []int
	for _, r := range l {
		for _, s := range r.Samples {
			times = append(times, s.T)
		}
	}
	slices.Sort(times)
	var told []api.Sample
	for _, t := range slices.Compact(times) {
		best, value := math.MinInt, uint64(0)
		for _, r := range l {
			if v, ok := valueAt(r.Samples, t); ok && r.Rank >= best {
				best, value = r.Rank, v
			}
		}
		if t >= floor && !isIn(gaps, t) {
			told = append(told, api.Sample{T: t, V: value})
		}
	}
	return told
}

// someTime is a time of a few, at either end of all times too.
func someTime(r *rand.Rand) int {
	return []int{r.Intn(30), r.Intn(30), r.Intn(30), math.MinInt + r.Intn(4), math.MaxInt - r.Intn(4)}[r.Intn(5)]
}

// someSamples is samples whose times rise.
func someSamples(r *rand.Rand) []api.Sample {
	var l []api.Sample
	for range r.Intn(12) {
		l = append(l, api.Sample{T: someTime(r), V: r.Uint64()})
	}
	slices.SortFunc(l, func(a, b api.Sample) int {
		if a.T < b.T {
			return -1
		}
		return 1
	})
	return slices.CompactFunc(l, func(a, b api.Sample) bool { return a.T == b.T })
}

func someRanked(r *rand.Rand, n int) []api.Ranked {
	var l []api.Ranked
	for range r.Intn(n + 1) {
		l = append(l, ranked([]int{0, 1, 2, -1, math.MinInt, math.MaxInt}[r.Intn(6)], someSamples(r)...))
	}
	return l
}

// someGaps is gaps, some of which have no time.
func someGaps(r *rand.Rand, n int) []api.Gap {
	var l []api.Gap
	for range r.Intn(n + 1) {
		from := someTime(r)
		to := []int{someTime(r), from, from + r.Intn(4)}[r.Intn(3)]
		l = append(l, gap(from, to))
	}
	return l
}

// open is a cursor over what may be merged.
func open(t *testing.T, l []api.Ranked, floor int, gaps ...api.Gap) *Cursor {
	t.Helper()
	c, e := Open(l, floor, gaps)
	if e != api.OK || c == nil {
		t.Fatalf("Open(%s, %d, %s): %v", brief(l), floor, brief(gaps), e)
	}
	return c
}

// wantAll holds all merged samples, told by All and told one by one, against these.
func wantAll(t *testing.T, l []api.Ranked, floor int, gaps []api.Gap, want []api.Sample) {
	t.Helper()
	if all := open(t, l, floor, gaps...).All(); !slices.Equal(all, want) {
		t.Errorf("%s, floor %d, gaps %s, is %s; want %s", brief(l), floor, brief(gaps), brief(all), brief(want))
	}
	c := open(t, l, floor, gaps...)
	var all []api.Sample
	for s, ok := c.Next(); ok; s, ok = c.Next() {
		all = append(all, s)
	}
	if !slices.Equal(all, want) {
		t.Errorf("%s, floor %d, gaps %s, is one by one %s; want %s", brief(l), floor, brief(gaps), brief(all), brief(want))
	}
}

func TestExampleOfTheChapter(t *testing.T) {
	l := []api.Ranked{ranked(1, of(10, 1, 3)...), ranked(2, of(20, 3)...)}
	wantAll(t, l, math.MinInt, nil, []api.Sample{{T: 1, V: 10}, {T: 3, V: 20}})
	slices.Reverse(l)
	wantAll(t, l, math.MinInt, nil, []api.Sample{{T: 1, V: 10}, {T: 3, V: 20}})
}

func TestP26_1Ranks(t *testing.T) {
	for _, c := range []struct {
		ranks []int
		want  uint64 // the place of the list that counts
	}{
		{[]int{0}, 0}, {[]int{1, 2}, 1}, {[]int{2, 1}, 0}, {[]int{2, 2}, 1}, {[]int{2, 2, 1}, 1}, {[]int{2, 1, 2, 1}, 2}, {[]int{7, 7, 7, 7}, 3},
		{[]int{math.MinInt, math.MaxInt}, 1}, {[]int{math.MaxInt, math.MinInt}, 0}, {[]int{math.MinInt}, 0}, {[]int{math.MinInt, math.MinInt}, 1}, {[]int{-1, 0}, 1}, {[]int{0, -1}, 0}, {[]int{-2, -1, -3}, 1}, {[]int{math.MaxInt, math.MaxInt, 5}, 1},
	} {
		var l []api.Ranked
		for place, rank := range c.ranks {
			l = append(l, ranked(rank, of(uint64(place), 5)...), ranked(math.MaxInt))
		}
		wantAll(t, l, 0, nil, of(c.want, 5))
	}
	l := []api.Ranked{ranked(3, of(1, 1, 4, 6)...), ranked(5, of(2, 2, 4)...), ranked(3, of(3, 1, 2, 6, 7)...)}
	wantAll(t, l, 0, nil, []api.Sample{{T: 1, V: 3}, {T: 2, V: 2}, {T: 4, V: 2}, {T: 6, V: 3}, {T: 7, V: 3}})
}

func TestP26_1FloorAndGaps(t *testing.T) {
	l := []api.Ranked{ranked(1, of(7, math.MinInt, 0, 1, 2, 3, 4, 5, math.MaxInt)...)}
	for _, c := range []struct {
		floor int
		gaps  []api.Gap
		want  []int
	}{
		{math.MinInt, nil, []int{math.MinInt, 0, 1, 2, 3, 4, 5, math.MaxInt}},
		{math.MinInt + 1, nil, []int{0, 1, 2, 3, 4, 5, math.MaxInt}},
		{2, nil, []int{2, 3, 4, 5, math.MaxInt}},
		{6, nil, []int{math.MaxInt}},
		{math.MaxInt, nil, []int{math.MaxInt}},
		{0, []api.Gap{gap(1, 3)}, []int{0, 4, 5, math.MaxInt}},
		{0, []api.Gap{gap(3, 1)}, []int{0, 1, 2, 3, 4, 5, math.MaxInt}},
		{0, []api.Gap{gap(3, 3), gap(5, 5)}, []int{0, 1, 2, 4, math.MaxInt}},
		{0, []api.Gap{gap(5, 5), gap(3, 3), gap(4, 3), gap(math.MaxInt, math.MinInt)}, []int{0, 1, 2, 4, math.MaxInt}},
		{0, []api.Gap{gap(0, 5), gap(2, 3)}, []int{math.MaxInt}},
		{0, []api.Gap{gap(2, 3), gap(0, 5), gap(1, 1)}, []int{math.MaxInt}},
		{0, []api.Gap{gap(1, 2), gap(2, 4)}, []int{0, 5, math.MaxInt}},
		{0, []api.Gap{gap(1, 2), gap(3, 4)}, []int{0, 5, math.MaxInt}},
		{3, []api.Gap{gap(0, 1), gap(4, 4)}, []int{3, 5, math.MaxInt}},
		{math.MinInt, []api.Gap{gap(math.MinInt, math.MinInt)}, []int{0, 1, 2, 3, 4, 5, math.MaxInt}},
		{math.MinInt, []api.Gap{gap(math.MaxInt, math.MaxInt)}, []int{math.MinInt, 0, 1, 2, 3, 4, 5}},
		{math.MinInt, []api.Gap{gap(math.MinInt, math.MaxInt)}, nil},
		{math.MaxInt, []api.Gap{gap(5, math.MaxInt)}, nil},
	} {
		wantAll(t, l, c.floor, c.gaps, of(7, c.want...))
	}
	wantAll(t, []api.Ranked{ranked(1, of(1, 1, 2)...), ranked(2, of(2, 2, 3)...)}, 2, []api.Gap{gap(3, 3)}, of(2, 2))
}

func TestP26_1OfNothing(t *testing.T) {
	for _, l := range [][]api.Ranked{nil, {}, {ranked(1)}, {ranked(1, of(1)...), {}}, make([]api.Ranked, 40)} {
		wantAll(t, l, math.MinInt, nil, nil)
		wantAll(t, l, 5, []api.Gap{gap(1, 3)}, nil)
	}
}

func TestP26_1OfWhatMayNotBeMerged(t *testing.T) {
	wrong := [][]api.Ranked{make([]api.Ranked, 41), make([]api.Ranked, 1<<20), slices.Repeat([]api.Ranked{ranked(1, of(1, 1, 2)...)}, 41)}
	for _, times := range [][]int{{1, 1}, {2, 1}, {1, 2, 2}, {1, 3, 2}, {math.MaxInt, math.MinInt}, {math.MinInt, math.MinInt}, {math.MaxInt, math.MaxInt}, {1, 2, 3, 4, 5, 4}} {
		bad := ranked(1, of(3, times...)...)
		wrong = append(wrong, []api.Ranked{bad}, []api.Ranked{ranked(2, of(1, 5)...), bad}, []api.Ranked{bad, ranked(0, of(1, 5)...)}, append(make([]api.Ranked, 39), bad))
	}
	for _, l := range wrong {
		for _, gaps := range [][]api.Gap{nil, {gap(math.MinInt, math.MaxInt)}, {gap(2, 1)}} {
			if c, e := Open(l, math.MaxInt, gaps); e != api.ErrArg || c != nil {
				t.Errorf("Open(%s) is %v, %v", brief(l), c, e)
			}
		}
	}
	full := slices.Repeat([]api.Ranked{ranked(1, of(1, 1, 2)...)}, 40)
	full[39].Samples = of(2, math.MinInt, 2, math.MaxInt)
	wantAll(t, full, math.MinInt, nil, []api.Sample{{T: math.MinInt, V: 2}, {T: 1, V: 1}, {T: 2, V: 2}, {T: math.MaxInt, V: 2}})
}

// wantSeek holds one step of a cursor against what is wanted: no list, one sample.
func wantSeek(t *testing.T, c *Cursor, at int, want ...api.Sample) {
	t.Helper()
	s, ok := c.Seek(at)
	if ok != (len(want) == 1) || ok && s != want[0] || !ok && s != (api.Sample{}) {
		t.Errorf("Seek(%d) is %v, %v; want %v", at, s, ok, want)
	}
}

func wantNext(t *testing.T, c *Cursor, want ...api.Sample) {
	t.Helper()
	s, ok := c.Next()
	if ok != (len(want) == 1) || ok && s != want[0] || !ok && s != (api.Sample{}) {
		t.Errorf("Next is %v, %v; want %v", s, ok, want)
	}
}

func TestP26_1Seek(t *testing.T) {
	at := func(t int) api.Sample { return api.Sample{T: t, V: 9} }
	l := []api.Ranked{ranked(1, of(9, math.MinInt, 10, 20)...), ranked(2, of(9, 0, 15, 30, math.MaxInt)...)}
	c := open(t, l, math.MinInt, gap(12, 16))
	wantSeek(t, c, math.MinInt, at(math.MinInt))
	wantSeek(t, c, math.MinInt, at(0)) // the one ahead was told
	wantSeek(t, c, 11, at(20))
	wantSeek(t, c, 0, at(30))
	wantSeek(t, c, math.MaxInt, at(math.MaxInt))
	wantSeek(t, c, math.MaxInt)
	wantNext(t, c)
	c = open(t, l, 1, gap(21, math.MaxInt))
	wantSeek(t, c, 21)
	wantSeek(t, c, math.MaxInt) // what finds nothing tells nothing
	wantNext(t, c, at(10))
	wantSeek(t, c, 15, at(15))
	if rest := c.All(); !slices.Equal(rest, of(9, 20)) {
		t.Errorf("All behind 15 is %v", rest)
	}
	wantNext(t, c)
	wantSeek(t, c, 0)
	if rest := c.All(); len(rest) != 0 {
		t.Errorf("All behind All is %v", rest)
	}
}

func TestP26_1OfAny(t *testing.T) {
	r := rand.New(rand.NewSource(1))
	for range 3000 {
		l, gaps, floor := someRanked(r, 6), someGaps(r, 4), someTime(r)
		all := plainMerged(l, floor, gaps)
		wantAll(t, l, floor, gaps, all)
		c := open(t, l, floor, gaps...)
		for range 12 {
			at := someTime(r)
			if i := slices.IndexFunc(all, func(s api.Sample) bool { return s.T >= at }); i >= 0 {
				wantSeek(t, c, at, all[i])
				all = all[i+1:]
			} else {
				wantSeek(t, c, at)
			}
			if r.Intn(4) == 0 && len(all) > 0 {
				wantNext(t, c, all[0])
				all = all[1:]
			}
		}
		if rest := c.All(); !slices.Equal(rest, all) {
			t.Fatalf("All is %v, want %v", rest, all)
		}
		wantNext(t, c)
	}
}

func TestNoCallMadeIt(t *testing.T) {
	var none *Cursor
	for _, c := range []*Cursor{none, {}} {
		wantNext(t, c)
		wantSeek(t, c, 0)
		wantSeek(t, c, math.MinInt)
		wantSeek(t, c, math.MaxInt)
		if l := c.All(); l != nil {
			t.Errorf("All is %v", l)
		}
	}
}

func TestP26_4OneMoreListBelowAllOthers(t *testing.T) {
	r := rand.New(rand.NewSource(2))
	for range 1000 {
		l, gaps, floor := someRanked(r, 5), someGaps(r, 3), someTime(r)
		for i := range l {
			l[i].Rank = max(l[i].Rank, -5)
		}
		want := plainMerged(l, floor, gaps)
		low := ranked(math.MinInt)
		for _, s := range plainMerged(l, math.MinInt, nil) {
			if r.Intn(3) > 0 {
				low.Samples = append(low.Samples, api.Sample{T: s.T, V: 1})
			}
		}
		wantAll(t, slices.Insert(slices.Clone(l), r.Intn(len(l)+1), low), floor, gaps, want)
	}
}

func TestArgumentsAreLeftAsTheyAre(t *testing.T) {
	given := func() []api.Ranked {
		return []api.Ranked{ranked(2, of(1, 1, 3, 5, 7)...), ranked(1, of(2, 1, 2, 3, 9)...), ranked(2, of(3, 3, 4)...)}
	}
	l, twin := given(), given()
	room := []api.Gap{gap(6, 7), gap(9, 8), gap(5, 5), gap(2, 3), gap(1, 1)}
	gaps := slices.Clone(room)
	for n := range len(gaps) + 1 {
		for m := range len(l) + 1 {
			c := open(t, l[:m], 2, gaps[:n]...)
			c.Seek(3)
			c.All()
		}
		Touches(gaps[:n], 4, 4)
		Joined(gaps[:n])
	}
	for n := range 5 {
		Sample(l[0].Samples[:n], 0, 9, 1, 4)
	}
	for i, r := range l {
		if r.Rank != twin[i].Rank || !slices.Equal(r.Samples, twin[i].Samples) {
			t.Errorf("list %d is %v", i, r)
		}
	}
	if !slices.Equal(gaps, room) {
		t.Errorf("gaps are %v", gaps)
	}
}

func TestArgumentsAreNotKept(t *testing.T) {
	l, gaps := []api.Ranked{ranked(2, of(1, 1, 3, 5, 7)...), ranked(1, of(2, 1, 2, 3, 9)...)}, []api.Gap{gap(4, 6)}
	want := plainMerged(l, 2, gaps)
	c := open(t, l, 2, gaps...)
	one := open(t, l[:1], math.MinInt)
	clear(l[0].Samples)
	clear(l[1].Samples)
	clear(l)
	clear(gaps)
	if all := c.All(); !slices.Equal(all, want) {
		t.Errorf("an argument is kept: %v, want %v", all, want)
	}
	if all := one.All(); !slices.Equal(all, of(1, 1, 3, 5, 7)) {
		t.Errorf("an argument is kept: %v", all)
	}
}

func TestAnswersAreNewMemory(t *testing.T) {
	samples := of(5, 1, 2, 3, 4)
	c := open(t, []api.Ranked{ranked(1, samples...)}, 0)
	c.Next()
	rest := c.All()
	clear(rest[:cap(rest)])
	sampled, _ := Sample(samples, 1, 4, 1, 1)
	clear(sampled[:cap(sampled)])
	gaps := []api.Gap{gap(1, 2), gap(5, 6)}
	joined := Joined(gaps)
	clear(joined[:cap(joined)])
	if !slices.Equal(samples, of(5, 1, 2, 3, 4)) || !slices.Equal(gaps, []api.Gap{gap(1, 2), gap(5, 6)}) {
		t.Errorf("an answer shares memory: %v, %v", samples, gaps)
	}
	wantNext(t, c)
}

func TestP26_1GreatLists(t *testing.T) {
	began := time.Now()
	var l []api.Ranked
	for i := range 40 {
		l = append(l, ranked(i%3, every(uint64(i), i%4, 4, 50000)...))
	}
	var gaps []api.Gap
	for i := range 50000 {
		gaps = append(gaps, gap(4*i, 4*i), gap(4*i+1, 4*i+1))
	}
	slices.Reverse(gaps)
	c := open(t, l, 2, gaps...)
	if all := c.All(); len(all) != 100000 || all[0] != (api.Sample{T: 2, V: 38}) || all[99999] != (api.Sample{T: 199999, V: 35}) {
		t.Errorf("%d samples, %s", len(all), brief(all))
	}
	if joined := Joined(gaps); len(joined) != 50000 || joined[0] != gap(0, 1) {
		t.Errorf("%d gaps", len(joined))
	}
	if spent := time.Since(began); spent > 20*time.Second {
		t.Errorf("it took %v", spent)
	}
}

func TestHeapOfAnyThings(t *testing.T) {
	r := rand.New(rand.NewSource(3))
	for range 200 {
		words := heap[string]{ahead: func(a, b string) bool { return a < b }}
		var kept []string
		for range 100 {
			if r.Intn(3) > 0 || len(kept) == 0 {
				word := fmt.Sprint(r.Intn(50))
				words.push(word)
				kept = append(kept, word)
				continue
			}
			slices.Sort(kept)
			if word := words.pop(); word != kept[0] {
				t.Fatalf("pop is %s, want %s", word, kept[0])
			}
			kept = kept[1:]
		}
	}
}
