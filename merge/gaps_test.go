package merge

import (
	"math"
	"math/rand"
	"slices"
	"testing"

	"dryrot/api"
)

func wantTouches(t *testing.T, gaps []api.Gap, from, to int, want bool) {
	t.Helper()
	if Touches(gaps, from, to) != want {
		t.Errorf("Touches(%v, %d, %d) is %v", gaps, from, to, !want)
	}
}

func TestP26_3Touches(t *testing.T) {
	for _, c := range []struct {
		from, to int
		want     bool
	}{
		{5, 9, true}, {6, 8, true}, {1, 20, true}, {1, 5, true}, {9, 20, true}, {5, 5, true}, {9, 9, true}, {1, 4, false}, {10, 20, false}, {4, 4, false}, {10, 10, false},
		{9, 5, false}, {7, 6, false}, {20, 1, false}, {math.MinInt, math.MaxInt, true}, {math.MaxInt, math.MinInt, false}, {math.MinInt, 4, false}, {math.MinInt, 5, true}, {9, math.MaxInt, true}, {10, math.MaxInt, false},
	} {
		wantTouches(t, []api.Gap{gap(5, 9)}, c.from, c.to, c.want)
		wantTouches(t, []api.Gap{gap(9, 5), gap(5, 9), gap(6, 6)}, c.from, c.to, c.want)
		wantTouches(t, []api.Gap{gap(c.from, c.to)}, 5, 9, c.want)
		wantTouches(t, []api.Gap{gap(9, 5)}, c.from, c.to, false)
		wantTouches(t, nil, c.from, c.to, false)
	}
	two := []api.Gap{gap(1, 2), gap(5, 6)}
	wantTouches(t, two, 3, 4, false)
	wantTouches(t, two, 2, 4, true)
	wantTouches(t, two, 3, 5, true)
	wantTouches(t, []api.Gap{gap(math.MaxInt, math.MaxInt)}, math.MaxInt, math.MaxInt, true)
	wantTouches(t, []api.Gap{gap(math.MinInt, math.MinInt)}, math.MinInt, math.MinInt, true)
	wantTouches(t, []api.Gap{gap(math.MinInt, math.MinInt)}, math.MinInt+1, math.MaxInt, false)
	wantTouches(t, []api.Gap{gap(4, 6), gap(8, 9)}, 6, 8, true)
	wantTouches(t, []api.Gap{gap(4, 6), gap(8, 9)}, 7, 7, false)
}

func wantJoined(t *testing.T, gaps []api.Gap, want ...api.Gap) {
	t.Helper()
	if l := Joined(gaps); !slices.Equal(l, want) {
		t.Errorf("Joined(%v) is %v, want %v", gaps, l, want)
	}
}

func TestP26_3Joined(t *testing.T) {
	wantJoined(t, nil)
	wantJoined(t, []api.Gap{})
	wantJoined(t, []api.Gap{gap(2, 1)})
	wantJoined(t, []api.Gap{gap(2, 1), gap(math.MaxInt, math.MinInt), gap(0, -1)})
	wantJoined(t, []api.Gap{gap(2, 2)}, gap(2, 2))
	wantJoined(t, []api.Gap{gap(5, 6), gap(1, 2)}, gap(1, 2), gap(5, 6))
	wantJoined(t, []api.Gap{gap(1, 2), gap(4, 5)}, gap(1, 2), gap(4, 5))
	wantJoined(t, []api.Gap{gap(1, 2), gap(3, 5)}, gap(1, 5))
	wantJoined(t, []api.Gap{gap(3, 5), gap(1, 2)}, gap(1, 5))
	wantJoined(t, []api.Gap{gap(1, 3), gap(3, 5)}, gap(1, 5))
	wantJoined(t, []api.Gap{gap(1, 9), gap(3, 5)}, gap(1, 9))
	wantJoined(t, []api.Gap{gap(3, 5), gap(1, 9), gap(10, 10), gap(12, 12)}, gap(1, 10), gap(12, 12))
	wantJoined(t, []api.Gap{gap(1, 9), gap(3, 5), gap(7, 12)}, gap(1, 12))
	wantJoined(t, []api.Gap{gap(1, 1), gap(1, 7), gap(1, 3), gap(1, 1)}, gap(1, 7))
	wantJoined(t, []api.Gap{gap(1, 2), gap(3, 2), gap(4, 5)}, gap(1, 2), gap(4, 5)) // what has no time joins nothing
	wantJoined(t, []api.Gap{gap(5, math.MaxInt), gap(math.MaxInt, math.MaxInt)}, gap(5, math.MaxInt))
	wantJoined(t, []api.Gap{gap(math.MinInt, math.MinInt), gap(math.MaxInt, math.MaxInt)}, gap(math.MinInt, math.MinInt), gap(math.MaxInt, math.MaxInt))
	wantJoined(t, []api.Gap{gap(math.MinInt, math.MaxInt), gap(math.MinInt, 5), gap(math.MaxInt, math.MaxInt)}, gap(math.MinInt, math.MaxInt))
	wantJoined(t, []api.Gap{gap(math.MaxInt, math.MaxInt), gap(0, math.MaxInt-1), gap(math.MinInt, -1)}, gap(math.MinInt, math.MaxInt))
	wantJoined(t, []api.Gap{gap(math.MinInt, math.MinInt), gap(math.MinInt, math.MinInt)}, gap(math.MinInt, math.MinInt))
	wantJoined(t, []api.Gap{gap(math.MaxInt, math.MaxInt), gap(math.MaxInt-1, math.MaxInt-1), gap(math.MaxInt-3, math.MaxInt-3)}, gap(math.MaxInt-3, math.MaxInt-3), gap(math.MaxInt-1, math.MaxInt))
}

// edges is times at which gaps may begin or end, and those beside them.
func edges(gaps []api.Gap) []int {
	var l []int
	for _, g := range gaps {
		l = append(l, g.From-1, g.From, g.From+1, g.To-1, g.To, g.To+1)
	}
	return l
}

func TestP26_5JoinedHaveTheSameTimes(t *testing.T) {
	r := rand.New(rand.NewSource(5))
	for range 3000 {
		gaps := someGaps(r, 7)
		joined := Joined(gaps)
		for _, at := range append(edges(gaps), edges(joined)...) {
			if isIn(gaps, at) != isIn(joined, at) {
				t.Fatalf("Joined(%v) is %v: %d", gaps, joined, at)
			}
			to := someTime(r)
			wantTouches(t, gaps, at, to, Touches(joined, at, to))
			wantTouches(t, gaps, at, at, isIn(joined, at))
		}
		for i, g := range joined {
			if g.From > g.To || i > 0 && (joined[i-1].To >= g.From || joined[i-1].To+1 == g.From) {
				t.Fatalf("Joined(%v) is %v", gaps, joined)
			}
		}
		if again := Joined(joined); !slices.Equal(again, joined) {
			t.Errorf("Joined(%v) is %v", joined, again)
		}
	}
}
