package merge

import (
	"math"
	"math/big"
	"math/rand"
	"slices"
	"testing"

	"dryrot/api"
)

// plainSample is what the chapter says of samples at steps, in numbers without a bound; false, if there are too many times.
func plainSample(l []api.Sample, from, to, step, back int) ([]api.Sample, bool) {
	whole := func(n int) *big.Int { return big.NewInt(int64(n)) }
	var told []api.Sample
	times := 0
	for t := whole(from); t.Cmp(whole(to)) <= 0; t.Add(t, whole(step)) {
		if times++; times > 200 {
			return nil, false
		}
		for _, s := range slices.Backward(l) {
			if age := new(big.Int).Sub(t, whole(s.T)); age.Sign() >= 0 && age.Cmp(whole(back)) < 0 {
				told = append(told, api.Sample{T: int(t.Int64()), V: s.V})
				break
			}
		}
	}
	return told, true
}

func wantSample(t *testing.T, l []api.Sample, from, to, step, back int, want []api.Sample) {
	t.Helper()
	if got, e := Sample(l, from, to, step, back); e != api.OK || !slices.Equal(got, want) {
		t.Errorf("Sample(%s, %d, %d, %d, %d) is %s, %v; want %s", brief(l), from, to, step, back, brief(got), e, brief(want))
	}
}

func wantNoSample(t *testing.T, l []api.Sample, from, to, step, back int, want api.Errno) {
	t.Helper()
	if got, e := Sample(l, from, to, step, back); e != want || got != nil {
		t.Errorf("Sample(%s, %d, %d, %d, %d) is %s, %v; want %v", brief(l), from, to, step, back, brief(got), e, want)
	}
}

func TestP26_2StepsAndBack(t *testing.T) {
	l := []api.Sample{{T: 10, V: 1}, {T: 12, V: 2}, {T: 20, V: 3}}
	for _, c := range []struct {
		from, to, step, back int
		want                 []api.Sample
	}{
		{9, 9, 1, 100, nil},
		{10, 10, 1, 1, []api.Sample{{T: 10, V: 1}}},
		{10, 10, 1, 0, nil},
		{10, 13, 1, 0, nil},
		{11, 11, 1, 1, nil},
		{11, 11, 1, 2, []api.Sample{{T: 11, V: 1}}},
		{11, 11, 5, math.MaxInt, []api.Sample{{T: 11, V: 1}}},
		{12, 12, 1, 1, []api.Sample{{T: 12, V: 2}}},
		{12, 12, 1, 9, []api.Sample{{T: 12, V: 2}}},
		{8, 22, 2, 3, []api.Sample{{T: 10, V: 1}, {T: 12, V: 2}, {T: 14, V: 2}, {T: 20, V: 3}, {T: 22, V: 3}}},
		{8, 23, 5, 4, []api.Sample{{T: 13, V: 2}, {T: 23, V: 3}}},
		{8, 23, 5, 100, []api.Sample{{T: 13, V: 2}, {T: 18, V: 2}, {T: 23, V: 3}}},
		{8, 22, 5, 100, []api.Sample{{T: 13, V: 2}, {T: 18, V: 2}}},
		{19, 21, 1, 8, []api.Sample{{T: 19, V: 2}, {T: 20, V: 3}, {T: 21, V: 3}}},
		{19, 21, 1, 7, []api.Sample{{T: 20, V: 3}, {T: 21, V: 3}}},
		{10, 30, math.MaxInt, 5, []api.Sample{{T: 10, V: 1}}},
		{math.MinInt, math.MaxInt, math.MaxInt, math.MaxInt, []api.Sample{{T: math.MaxInt - 1, V: 3}}},
		{math.MaxInt, math.MaxInt, 1, math.MaxInt - 19, []api.Sample{{T: math.MaxInt, V: 3}}},
		{math.MaxInt, math.MaxInt, 1, math.MaxInt - 20, nil},
		{math.MinInt, math.MinInt, 1, math.MaxInt, nil},
	} {
		wantSample(t, l, c.from, c.to, c.step, c.back, c.want)
	}
}

func TestP26_2TimesFarFromOneAnother(t *testing.T) {
	l := of(4, math.MinInt)
	wantSample(t, l, math.MinInt, math.MinInt, 1, 1, of(4, math.MinInt))
	wantSample(t, l, math.MinInt, math.MinInt, 1, 0, nil)
	wantSample(t, l, -2, -1, 1, math.MaxInt, of(4, -2)) // -1 is MaxInt behind it
	wantSample(t, l, 0, 0, 1, math.MaxInt, nil)
	wantSample(t, l, math.MaxInt, math.MaxInt, 1, math.MaxInt, nil)
	wantSample(t, of(4, math.MaxInt), math.MaxInt-1, math.MaxInt, 1, 1, of(4, math.MaxInt))
	wantSample(t, nil, math.MinInt, math.MaxInt, math.MaxInt, math.MaxInt, nil)
}

func TestP26_2AsManyTimesAsMayBe(t *testing.T) {
	l := of(1, 0)
	long := every(1, 0, 1, 200)
	wantSample(t, l, 0, 199, 1, 1000, long)
	wantNoSample(t, l, 0, 200, 1, 1000, api.ErrMany)
	wantSample(t, l, 0, 1999, 10, 10000, every(1, 0, 10, 200))
	wantNoSample(t, l, 0, 2000, 10, 10000, api.ErrMany)
	wantNoSample(t, nil, 0, 200, 1, 0, api.ErrMany)
	wantNoSample(t, nil, math.MinInt, math.MaxInt, 1, 0, api.ErrMany)
	wantNoSample(t, nil, math.MinInt, math.MaxInt, math.MaxInt/100, 0, api.ErrMany)
	wantNoSample(t, nil, math.MaxInt-200, math.MaxInt, 1, 0, api.ErrMany)
	wantSample(t, of(1, math.MaxInt-500), math.MaxInt-199, math.MaxInt, 1, 1000, every(1, math.MaxInt-199, 1, 200))
	wantSample(t, of(1, math.MinInt), math.MinInt, math.MinInt+199, 1, 1000, every(1, math.MinInt, 1, 200))
}

func TestP26_2OfWhatMayNotBe(t *testing.T) {
	l := of(1, 1, 2)
	for _, step := range []int{0, -1, math.MinInt} {
		wantNoSample(t, l, 0, 5, step, 3, api.ErrArg)
		wantNoSample(t, l, 0, 500, step, 3, api.ErrArg)
	}
	for _, back := range []int{-1, math.MinInt} {
		wantNoSample(t, l, 0, 5, 1, back, api.ErrArg)
		wantNoSample(t, l, 0, 500, 1, back, api.ErrArg)
	}
	wantNoSample(t, l, 1, 0, 1, 3, api.ErrArg)
	wantNoSample(t, l, math.MaxInt, math.MinInt, 1, 3, api.ErrArg)
	wantNoSample(t, nil, 5, 4, 1, 3, api.ErrArg)
	for _, times := range [][]int{{1, 1}, {2, 1}, {1, 2, 2}, {math.MaxInt, math.MinInt}} {
		wantNoSample(t, of(1, times...), 0, 5, 1, 3, api.ErrArg)
		wantNoSample(t, of(1, times...), 0, 500, 1, 3, api.ErrArg)
		wantNoSample(t, of(1, times...), 0, 5, 1, 0, api.ErrArg)
	}
}

func TestP26_2OfAny(t *testing.T) {
	r := rand.New(rand.NewSource(4))
	many := 0
	for range 4000 {
		l := someSamples(r)
		from := someTime(r)
		to := []int{someTime(r), from + r.Intn(250)}[r.Intn(2)]
		step := []int{1, 1 + r.Intn(9), 1 + r.Intn(9), math.MaxInt/150 + r.Intn(1<<40), math.MaxInt/90 + r.Intn(1<<40), math.MaxInt - r.Intn(3)}[r.Intn(6)]
		back := []int{0, 1, r.Intn(20), r.Intn(20), math.MaxInt - r.Intn(40), r.Int()}[r.Intn(6)]
		if from > to {
			wantNoSample(t, l, from, to, step, back, api.ErrArg)
			continue
		}
		if want, ok := plainSample(l, from, to, step, back); ok {
			wantSample(t, l, from, to, step, back, want)
		} else {
			wantNoSample(t, l, from, to, step, back, api.ErrMany)
			many++
		}
	}
	if many < 100 || many > 3000 {
		t.Errorf("%d have too many times", many)
	}
}

func TestP26_2OfManySamples(t *testing.T) {
	l := every(3, 0, 2, 1000000)
	wantSample(t, l, 1, 1999900, 10000, 2, every(3, 1, 10000, 200))
	wantSample(t, l, 1, 1999900, 10000, 1, nil)
}
