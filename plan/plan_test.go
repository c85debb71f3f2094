package plan

import (
	"fmt"
	"math"
	"math/rand"
	"slices"
	"testing"

	"dryrot/api"
)

// of is a block that may be, with its number for its rank.
func of(number, level int) api.Footer {
	return api.Footer{Number: number, Gen: 1, Level: level, Rank: number, Min: 1, Max: 9, Bytes: 10}
}

// with is a block as it is but for what change does.
func with(f api.Footer, change func(f *api.Footer)) api.Footer {
	f.Parents = slices.Clone(f.Parents)
	change(&f)
	return f
}

// levels is blocks of numbers from 1, of these levels.
func levels(l ...int) []api.Footer {
	var blocks []api.Footer
	for i, level := range l {
		blocks = append(blocks, of(i+1, level))
	}
	return blocks
}

func sameBlock(a, b api.Footer) bool {
	return a.Number == b.Number && a.Gen == b.Gen && a.Level == b.Level && a.Rank == b.Rank && a.Min == b.Min && a.Max == b.Max && a.Bytes == b.Bytes && slices.Equal(a.Parents, b.Parents)
}

func same(a, b []api.Footer) bool { return slices.EqualFunc(a, b, sameBlock) }

// brief is the beginning of a thing's words, since some are long.
func brief(x any) string { return fmt.Sprintf("%.300s", fmt.Sprintf("%+v", x)) }

// rightBlocks is blocks each of which may be, the edges among them.
func rightBlocks() []api.Footer {
	var l []api.Footer
	for _, change := range []func(f *api.Footer){
		func(f *api.Footer) {},
		func(f *api.Footer) { f.Number = 1 }, func(f *api.Footer) { f.Number = api.MaxNumber },
		func(f *api.Footer) { f.Rank = 1 }, func(f *api.Footer) { f.Rank = api.MaxNumber },
		func(f *api.Footer) { f.Gen = api.MaxNumber },
		func(f *api.Footer) { f.Level = 1 }, func(f *api.Footer) { f.Level = 2 }, func(f *api.Footer) { f.Level = 3 },
		func(f *api.Footer) { f.Bytes = 0 }, func(f *api.Footer) { f.Bytes = 1 }, func(f *api.Footer) { f.Bytes = 1<<31 - 1 },
		func(f *api.Footer) { f.Min = 9 }, func(f *api.Footer) { f.Min, f.Max = math.MinInt, math.MaxInt }, func(f *api.Footer) { f.Min, f.Max = math.MinInt, math.MinInt }, func(f *api.Footer) { f.Min, f.Max = math.MaxInt, math.MaxInt }, func(f *api.Footer) { f.Min, f.Max = 0, 0 },
		func(f *api.Footer) { f.Bytes, f.Min, f.Max = 0, 3, 4 },
		func(f *api.Footer) { f.Parents = []int{1, 2, 3} }, func(f *api.Footer) { f.Parents = []int{-1, 7, 7, math.MaxInt, 0} },
	} {
		l = append(l, with(of(7, 1), change))
	}
	return l
}

// wrongBlocks is blocks none of which may be.
func wrongBlocks() []api.Footer {
	l := []api.Footer{{}}
	for _, n := range []int{0, -1, api.MaxNumber + 1, math.MinInt, math.MaxInt} {
		l = append(l, with(of(7, 1), func(f *api.Footer) { f.Number = n }), with(of(7, 1), func(f *api.Footer) { f.Rank = n }), with(of(7, 1), func(f *api.Footer) { f.Gen = n }))
	}
	for _, n := range []int{0, -1, 4, math.MinInt, math.MaxInt} {
		l = append(l, with(of(7, 1), func(f *api.Footer) { f.Level = n }))
	}
	for _, n := range []int{-1, 1 << 31, math.MinInt, math.MaxInt} {
		l = append(l, with(of(7, 1), func(f *api.Footer) { f.Bytes = n }))
	}
	return append(l, with(of(7, 1), func(f *api.Footer) { f.Min = 10 }), with(of(7, 1), func(f *api.Footer) { f.Min, f.Max = math.MaxInt, math.MinInt }), with(of(7, 1), func(f *api.Footer) { f.Min, f.Max, f.Bytes = 1, 0, 0 }))
}

func TestP16_1CanOfOne(t *testing.T) {
	if !Can(nil) || !Can([]api.Footer{}) {
		t.Error("none may not be")
	}
	for _, f := range rightBlocks() {
		if !Can([]api.Footer{f}) {
			t.Errorf("Can(%+v) = false", f)
		}
	}
	for _, f := range wrongBlocks() {
		if Can([]api.Footer{f}) {
			t.Errorf("Can(%+v) = true", f)
		}
		ahead, behind := of(1, 1), with(of(1000, 1), func(f *api.Footer) { f.Rank = api.MaxNumber })
		if Can([]api.Footer{ahead, f}) || Can([]api.Footer{f, behind}) || Can([]api.Footer{ahead, f, behind}) {
			t.Errorf("Can(.. %+v ..) = true", f)
		}
	}
}

func TestP16_1CanOfSeveral(t *testing.T) {
	b := func(number, rank int) api.Footer { return with(of(number, 1), func(f *api.Footer) { f.Rank = rank }) }
	for _, l := range [][]api.Footer{
		levels(1, 1, 1, 1), levels(3, 2, 1), levels(1, 3, 1, 2), {b(9, 1), b(3, 2), b(7, 3)}, {b(1, 1), b(2, api.MaxNumber)}, {b(api.MaxNumber, 5), b(1, 6)},
	} {
		if !Can(l) {
			t.Errorf("Can(%+v) = false", l)
		}
	}
	for _, l := range [][]api.Footer{
		{b(1, 1), b(2, 1)}, {b(1, 2), b(2, 1)}, {b(1, 1), b(2, 3), b(3, 2)}, {b(1, 1), b(2, 3), b(3, 3)}, {b(1, 1), b(1, 2)}, {b(1, 1), b(2, 2), b(1, 3)}, {b(3, 1), b(2, 2), b(1, 3), b(2, 4)},
		{with(b(1, 1), func(f *api.Footer) { f.Gen = 5 }), b(1, 2)},
	} {
		if Can(l) {
			t.Errorf("Can(%+v) = true", l)
		}
	}
}

func TestP16_1CanOfMany(t *testing.T) {
	const many = 200000
	l := make([]api.Footer, many)
	for i := range l {
		l[i] = of(many-i, 1)
		l[i].Rank = i + 1
	}
	if !Can(l) {
		t.Error("many may not be")
	}
	l[many-1].Number = many
	if Can(l) {
		t.Error("the first one and the last one have one number")
	}
}

func wantNumbers(t *testing.T, what string, l, want []int) {
	t.Helper()
	if !slices.Equal(l, want) {
		t.Errorf("%s = %v, not %v", what, l, want)
	}
}

func TestP16_1Expired(t *testing.T) {
	b := func(number, most, bytes int) api.Footer {
		return api.Footer{Number: number, Rank: number, Gen: 1, Level: 1, Min: math.MinInt, Max: most, Bytes: bytes}
	}
	for _, c := range []struct {
		l     []api.Footer
		floor int
		want  []int
	}{
		{nil, 5, nil}, {nil, math.MaxInt, nil},
		{[]api.Footer{b(1, 4, 1), b(2, 5, 1), b(3, 6, 1)}, 5, []int{1}}, {[]api.Footer{b(1, 4, 1), b(2, 5, 1), b(3, 6, 1)}, 4, nil}, {[]api.Footer{b(1, 4, 1), b(2, 5, 1), b(3, 6, 1)}, 7, []int{1, 2, 3}},
		{[]api.Footer{b(9, 1, 1), b(3, 8, 1), b(7, 2, 1)}, 5, []int{9, 7}}, {[]api.Footer{b(9, 1, 1), b(3, 8, 0), b(7, 2, 1)}, 5, []int{9, 3, 7}}, {[]api.Footer{b(1, 9, 0), b(2, 9, 1)}, math.MinInt, []int{1}},
		{[]api.Footer{b(1, math.MinInt, 1)}, math.MinInt, nil}, {[]api.Footer{b(1, math.MinInt, 1)}, math.MinInt + 1, []int{1}}, {[]api.Footer{b(1, math.MaxInt, 1), b(2, math.MaxInt-1, 1)}, math.MaxInt, []int{2}},
		{[]api.Footer{b(0, 1, -1), b(-4, 1, 1), b(-4, 1, 1), b(5, 9, -1)}, 5, []int{0, -4, -4}},
	} {
		wantNumbers(t, fmt.Sprintf("Expired(%+v, %d)", c.l, c.floor), Expired(c.l, c.floor), c.want)
	}
}

func TestP16_2Merge(t *testing.T) {
	for _, c := range []struct {
		levels, want []int
	}{
		{nil, nil}, {[]int{1}, nil}, {[]int{1, 1}, nil}, {[]int{1, 1, 1}, []int{1, 2, 3}}, {[]int{2, 2, 2}, []int{1, 2, 3}}, {[]int{3, 3, 3}, nil}, {[]int{1, 1, 2}, nil}, {[]int{2, 1, 1}, nil}, {[]int{1, 2, 1}, nil},
		{[]int{1, 1, 1, 1}, []int{1, 2, 3}}, {[]int{2, 1, 1, 1}, []int{2, 3, 4}}, {[]int{1, 1, 2, 1, 1}, nil}, {[]int{1, 1, 2, 1}, nil}, {[]int{3, 3, 3, 2, 2, 2, 1, 1, 1}, []int{4, 5, 6}}, {[]int{3, 3, 3, 3, 1, 1, 1}, []int{5, 6, 7}}, {[]int{2, 2, 1, 1, 1, 2, 2, 2}, []int{3, 4, 5}},
		{[]int{4, 4, 4}, nil}, {[]int{math.MaxInt, math.MaxInt, math.MaxInt}, nil}, {[]int{0, 0, 0}, []int{1, 2, 3}}, {[]int{1, -7, -7, -7}, []int{2, 3, 4}}, {[]int{math.MinInt, math.MinInt, math.MinInt}, []int{1, 2, 3}},
	} {
		wantNumbers(t, fmt.Sprintf("Merge of %v", c.levels), Merge(levels(c.levels...)), c.want)
	}
	wantNumbers(t, "Merge of what may not be", Merge([]api.Footer{{Number: 9, Level: 1, Rank: 7}, {Number: -3, Level: 1}, {Number: 9, Level: 1}}), []int{9, -3, 9})
}

func wantMerged(t *testing.T, l []api.Footer, number, gen int, want api.Footer) {
	t.Helper()
	if f, e := Merged(l, number, gen); !sameBlock(f, want) || e != api.OK {
		t.Errorf("Merged(%+v, %d, %d) = %+v, %d", l, number, gen, f, int(e))
	}
}

func TestP16_2Merged(t *testing.T) {
	b := func(number, level, rank int) api.Footer {
		return api.Footer{Number: number, Gen: 5, Level: level, Rank: rank, Min: -3, Max: 8, Bytes: 50, Parents: []int{77}}
	}
	wantMerged(t, levels(1, 1, 1), 4, 2, api.Footer{Number: 4, Gen: 2, Level: 2, Rank: 3, Parents: []int{1, 2, 3}})
	wantMerged(t, []api.Footer{b(9, 2, 4), b(3, 2, 6), b(7, 2, 20)}, 1, 1, api.Footer{Number: 1, Gen: 1, Level: 3, Rank: 20, Parents: []int{9, 3, 7}})
	wantMerged(t, levels(1, 1, 1), api.MaxNumber, api.MaxNumber, api.Footer{Number: api.MaxNumber, Gen: api.MaxNumber, Level: 2, Rank: 3, Parents: []int{1, 2, 3}})
	wantMerged(t, levels(1, 1, 1), 2, 1, api.Footer{Number: 2, Gen: 1, Level: 2, Rank: 3, Parents: []int{1, 2, 3}})
}

func wantNoMerged(t *testing.T, l []api.Footer, number, gen int) {
	t.Helper()
	if f, e := Merged(l, number, gen); !sameBlock(f, api.Footer{}) || e != api.ErrArg {
		t.Errorf("Merged(%s, %d, %d) = %+v, %d", brief(l), number, gen, f, int(e))
	}
}

func TestP16_2MergedOfWhatMayNotBe(t *testing.T) {
	for _, l := range [][]int{nil, {1}, {1, 1}, {1, 1, 1, 1}, {3, 3, 3}, {1, 1, 2}, {2, 1, 1}, {1, 2, 1}, {2, 2, 3}, {0, 0, 0}, {-1, -1, -1}, {4, 4, 4}, {math.MinInt, math.MinInt, math.MinInt}} {
		wantNoMerged(t, levels(l...), 9, 9)
	}
	for _, wrong := range wrongBlocks() {
		for place := range 3 {
			l := levels(1, 1, 1)
			wrong.Level = 1
			if Can([]api.Footer{wrong}) {
				continue
			}
			l[place] = wrong
			wantNoMerged(t, l, 9, 9)
		}
	}
	x := levels(1, 1, 1)
	wantNoMerged(t, []api.Footer{x[0], x[2], x[1]}, 9, 9)
	wantNoMerged(t, []api.Footer{x[0], x[1], with(x[2], func(f *api.Footer) { f.Number = 1 })}, 9, 9)
	wantNoMerged(t, []api.Footer{x[0], x[1], with(x[2], func(f *api.Footer) { f.Rank = 2 })}, 9, 9)
	for _, n := range []int{0, -1, api.MaxNumber + 1, math.MinInt, math.MaxInt} {
		wantNoMerged(t, x, n, 9)
		wantNoMerged(t, x, 9, n)
	}
}

// Whatever Merge tells of blocks that may be, Merged takes.
func TestP16_2MergedOfWhatMergeTells(t *testing.T) {
	r := rand.New(rand.NewSource(162))
	for range 3000 {
		var l []api.Footer
		for i := range r.Intn(9) {
			l = append(l, of(i+1, 1+r.Intn(3)))
		}
		told := Merge(l)
		if len(told) == 0 {
			continue
		}
		group := l[told[0]-1 : told[2]]
		wantMerged(t, group, 50, 60, api.Footer{Number: 50, Gen: 60, Level: group[0].Level + 1, Rank: told[2], Parents: told})
	}
}

// born is a block of a number, a generation and parents.
func born(number, gen int, parents ...int) api.Footer {
	return with(of(number, 1), func(f *api.Footer) { f.Gen, f.Parents = gen, parents })
}

func wantLive(t *testing.T, l []api.Footer, gen, floor int, want ...api.Footer) {
	t.Helper()
	if live := Live(l, gen, floor); !same(live, want) {
		t.Errorf("Live(%+v, %d, %d) = %+v, not %+v", l, gen, floor, live, want)
	}
}

func TestP16_3LiveByGeneration(t *testing.T) {
	l := []api.Footer{born(1, 1), born(2, 5), born(3, 9)}
	wantLive(t, nil, 5, 5)
	wantLive(t, l, 0, 0)
	wantLive(t, l, 4, 0, l[0])
	wantLive(t, l, 5, 0, l[:2]...)
	wantLive(t, l, 8, 0, l[:2]...)
	wantLive(t, l, 9, 0, l...)
	wantLive(t, l, math.MaxInt, 0, l...)
	wantLive(t, l, math.MinInt, 0)
	wantLive(t, []api.Footer{born(1, math.MinInt), born(2, math.MaxInt)}, math.MinInt, 0, born(1, math.MinInt))
}

func TestP16_3LiveByParents(t *testing.T) {
	l := []api.Footer{born(1, 1), born(2, 2), born(3, 3), born(4, 4), born(5, 6, 1, 2, 3)}
	wantLive(t, l, 5, 0, l[:4]...)
	wantLive(t, l, 6, 0, l[3:]...)
	wantLive(t, []api.Footer{l[4], l[1], l[0]}, 6, 0, l[4])
	chain := []api.Footer{born(1, 1), born(2, 2, 1), born(3, 3, 2)}
	wantLive(t, chain, 1, 0, chain[0])
	wantLive(t, chain, 2, 0, chain[1])
	wantLive(t, chain, 3, 0, chain[2])
	circle := []api.Footer{born(1, 1, 2), born(2, 1, 1)}
	wantLive(t, circle, 1, 0)
	wantLive(t, []api.Footer{born(1, 1), born(2, 1, 7, 8)}, 1, 0, born(1, 1), born(2, 1, 7, 8))
	wantLive(t, []api.Footer{born(0, 1), born(-1, 1), born(2, 1, 0, -1, 0)}, 1, 0, born(2, 1, 0, -1, 0))
}

// A block is no parent of another one by naming itself; of another one of its number it is.
func TestP16_3LiveOfWhatNamesItself(t *testing.T) {
	wantLive(t, []api.Footer{born(1, 1, 1)}, 1, 0, born(1, 1, 1))
	wantLive(t, []api.Footer{born(1, 1, 1, 1, 1), born(2, 1)}, 1, 0, born(1, 1, 1, 1, 1), born(2, 1))
	wantLive(t, []api.Footer{born(1, 1, 1), born(2, 1, 1)}, 1, 0, born(2, 1, 1))
	wantLive(t, []api.Footer{born(1, 1), born(1, 1, 1)}, 1, 0, born(1, 1, 1))
	wantLive(t, []api.Footer{born(1, 1, 1), born(1, 1)}, 1, 0, born(1, 1, 1))
	wantLive(t, []api.Footer{born(1, 1, 1), born(1, 1, 1)}, 1, 0)
	wantLive(t, []api.Footer{born(1, 1), born(1, 1)}, 1, 0, born(1, 1), born(1, 1))
	wantLive(t, []api.Footer{born(1, 1), born(1, 9, 1)}, 1, 0, born(1, 1))
}

func TestP16_3LiveByFloor(t *testing.T) {
	at := func(number, most, bytes int) api.Footer {
		return with(of(number, 1), func(f *api.Footer) { f.Min, f.Max, f.Bytes = math.MinInt, most, bytes })
	}
	l := []api.Footer{at(1, 4, 1), at(2, 5, 1), at(3, 6, 1), at(4, 0, 0)}
	wantLive(t, l, 1, 4, l...)
	wantLive(t, l, 1, 5, l[1:]...)
	wantLive(t, l, 1, 6, l[2:]...)
	wantLive(t, l, 1, 7, l[3])
	wantLive(t, l, 1, math.MaxInt, l[3])
	wantLive(t, l, 1, math.MinInt, l...)
	wantLive(t, []api.Footer{at(1, math.MaxInt, 1), at(2, math.MinInt, 1)}, 1, math.MaxInt, at(1, math.MaxInt, 1))
	wantLive(t, []api.Footer{at(1, 4, -1)}, 1, 5)
}

// A block below the floor, or one without bytes, replaces its parents as any other does.
func TestP16_3LiveOfParentsOfWhatDoesNotCount(t *testing.T) {
	low := with(born(2, 1, 1), func(f *api.Footer) { f.Max = 3 })
	wantLive(t, []api.Footer{born(1, 1), low}, 1, 5)
	none := with(born(2, 1, 1), func(f *api.Footer) { f.Min, f.Max, f.Bytes = 0, 0, 0 })
	wantLive(t, []api.Footer{born(1, 1), none}, 1, 5, none)
}

func TestP16_3LiveByRank(t *testing.T) {
	b := func(number, rank int) api.Footer { return with(of(number, 1), func(f *api.Footer) { f.Rank = rank }) }
	wantLive(t, []api.Footer{b(1, 9), b(2, 3), b(3, math.MaxInt), b(4, -1), b(5, math.MinInt)}, 1, 0, b(5, math.MinInt), b(4, -1), b(2, 3), b(1, 9), b(3, math.MaxInt))
	var l, want []api.Footer
	for i := range 100 {
		l = append(l, b(1000-i, 7-i%3))
	}
	for rank := 5; rank <= 7; rank++ {
		for _, f := range l {
			if f.Rank == rank {
				want = append(want, f)
			}
		}
	}
	wantLive(t, l, 1, 0, want...)
}

// someBlocks is blocks of few numbers, ranks and generations, with parents of all kinds.
func someBlocks(r *rand.Rand) []api.Footer {
	var l []api.Footer
	for range r.Intn(8) {
		f := api.Footer{Number: r.Intn(9), Gen: r.Intn(4), Level: r.Intn(4), Rank: r.Intn(4), Min: r.Intn(9), Max: r.Intn(9), Bytes: r.Intn(3)}
		for range r.Intn(4) {
			f.Parents = append(f.Parents, r.Intn(9))
		}
		l = append(l, f)
	}
	return l
}

// plainLive is Live as the chapter says it, place by place.
func plainLive(l []api.Footer, gen, floor int) []api.Footer {
	var live []api.Footer
	for rank := range 4 {
		for i, f := range l {
			parent := false
			for j, g := range l {
				parent = parent || i != j && g.Gen <= gen && slices.Contains(g.Parents, f.Number)
			}
			if f.Rank == rank && f.Gen <= gen && !parent && (f.Max >= floor || f.Bytes == 0) {
				live = append(live, f)
			}
		}
	}
	return live
}

func TestP16_3LiveOfAny(t *testing.T) {
	r := rand.New(rand.NewSource(163))
	for range 50000 {
		l, gen, floor := someBlocks(r), r.Intn(5), r.Intn(9)
		wantLive(t, l, gen, floor, plainLive(l, gen, floor)...)
	}
}

func TestP16_3LiveOfMany(t *testing.T) {
	const many = 100000
	l := make([]api.Footer, many)
	for i := range l {
		l[i] = born(many-i, 1, 1, many)
	}
	if live := Live(l, 1, 0); len(live) != many-2 || live[0].Number != 2 || live[many-3].Number != many-1 {
		t.Errorf("%d are live", len(live))
	}
}

func TestP16_4ExampleOfTheChapter(t *testing.T) {
	if f := Floor(0, 100, 30); f != 70 {
		t.Errorf("Floor(0, 100, 30) = %d", f)
	}
}

func TestP16_4Floor(t *testing.T) {
	const least, most = math.MinInt, math.MaxInt
	for _, c := range []struct{ floor, newest, keep, want int }{
		{69, 100, 30, 70}, {70, 100, 30, 70}, {71, 100, 30, 71}, {5, 100, 0, 5}, {5, 100, -1, 5}, {5, 100, least, 5}, {5, 100, 1, 99}, {-50, -20, 10, -30}, {-50, 20, 100, -50}, {-500, 20, 100, -80},
		{5, least, 1, 5}, {least, least, 1, least}, {least, least, most, least}, {least, least, 0, least}, {most, most, 1, most}, {least, most, 1, most - 1}, {least, most, most, 0}, {-5, most, most, 0},
		{least, least + 5, 4, least + 1}, {least, least + 5, 5, least}, {least, least + 5, 6, least}, {7, least + 5, 6, 7}, {least, -1, most, least}, {least, -2, most, least}, {3, -2, most, 3}, {least, 0, most, -most}, {least, 0, 1 << 62, -1 << 62}, {least, -1 << 62, 1 << 62, least}, {least, -1<<62 - 1, 1 << 62, least}, {least, most, -1, least}, {least, most, least, least}, {0, least, -1, 0},
	} {
		if f := Floor(c.floor, c.newest, c.keep); f != c.want {
			t.Errorf("Floor(%d, %d, %d) = %d, not %d", c.floor, c.newest, c.keep, f, c.want)
		}
	}
}

func TestP16_5TheFloorNeverFalls(t *testing.T) {
	edges := []int{math.MinInt, math.MinInt + 1, -1 << 62, -7, -1, 0, 1, 7, 1 << 62, math.MaxInt - 1, math.MaxInt}
	for _, floor := range edges {
		for _, newest := range edges {
			for _, keep := range edges {
				f := Floor(floor, newest, keep)
				if f < floor || f > floor && (f > newest || f+keep != newest) || Floor(f, newest, keep) != f {
					t.Errorf("Floor(%d, %d, %d) = %d", floor, newest, keep, f)
				}
			}
		}
	}
}

func TestP16_6LiveOfWhatIsLiveIsIt(t *testing.T) {
	r := rand.New(rand.NewSource(166))
	for range 20000 {
		l, gen, floor := someBlocks(r), r.Intn(5), r.Intn(9)
		live := Live(l, gen, floor)
		wantLive(t, live, gen, floor, live...)
	}
}

// What Merged makes of three takes their place, once its generation counts.
func TestP16_6LiveBehindAMerge(t *testing.T) {
	l := levels(1, 1, 1, 1)
	f, e := Merged(l[:3], 5, 2)
	if e != api.OK {
		t.Fatalf("Merged = %d", int(e))
	}
	all := append(slices.Clone(l), f)
	wantLive(t, all, 1, 0, l...)
	wantLive(t, all, 2, 0, f, l[3])
	if !Can(Live(all, 2, 0)) {
		t.Error("what is live may not be")
	}
}

func TestArgumentsAreLeftAsTheyAre(t *testing.T) {
	r := rand.New(rand.NewSource(16))
	for range 2000 {
		room := append(someBlocks(r), levels(1, 1, 1)...)
		for i, f := range room {
			room[i].Parents = append(slices.Clone(f.Parents), 91, 92)[:len(f.Parents)]
		}
		var twin []api.Footer
		for _, f := range room {
			twin = append(twin, with(f, func(x *api.Footer) { x.Parents = slices.Clone(f.Parents[:len(f.Parents)+2]) }))
		}
		for _, l := range [][]api.Footer{room[:len(room)-2], room[len(room)-3:]} {
			Can(l)
			Expired(l, 5)
			Merge(l)
			Merged(l, 9, 9)
			Live(l, 3, 5)
		}
		for i, f := range room {
			if whole := with(f, func(x *api.Footer) { x.Parents = f.Parents[:len(f.Parents)+2] }); !sameBlock(whole, twin[i]) {
				t.Fatalf("changed: %+v", whole)
			}
		}
	}
}

func scribble(l []int) {
	for i := range l[:cap(l)] {
		l[:cap(l)][i] = 1234
	}
}

func TestAnswersAreNewMemory(t *testing.T) {
	l := levels(1, 1, 1)
	for i := range l {
		l[i].Parents = []int{50, 51, 52}
	}
	first, second := Live(l, 1, 0), Live(l, 1, 0)
	for i, f := range first {
		scribble(f.Parents)
		for _, other := range first[i+1:] {
			if !slices.Equal(other.Parents, []int{50, 51, 52}) {
				t.Fatal("two blocks of an answer share memory")
			}
		}
	}
	clear(first[:cap(first)])
	for i, f := range l {
		if !slices.Equal(f.Parents, []int{50, 51, 52}) || !sameBlock(second[i], f) {
			t.Fatalf("Live shares memory: %+v", f)
		}
	}
	merged, _ := Merged(l, 9, 9)
	scribble(merged.Parents)
	scribble(Merge(l))
	scribble(Expired(l, 50))
	again, _ := Merged(l, 9, 9)
	wantNumbers(t, "Merged once more", again.Parents, []int{1, 2, 3})
	wantNumbers(t, "Merge once more", Merge(l), []int{1, 2, 3})
	wantNumbers(t, "Expired once more", Expired(l, 50), []int{1, 2, 3})
}
