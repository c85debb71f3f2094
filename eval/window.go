package eval

import (
	"cmp"
	"math"
	"slices"
	"sort"

	"dryrot/api"
)

// window is times from one to another; none, if the former is the later one.
type window struct{ from, to int }

// windowOf is the window of a selector at a time.
func windowOf(selector api.Query, t int) window {
	wide := selector.Range
	if wide == 0 {
		wide = api.Look
	}
	to, is := earlier(t, selector.Offset)
	if !is {
		return window{from: 1, to: 0}
	}
	from, _ := earlier(to, wide-1)
	return window{from: from, to: to}
}

// earlier is the time that is so much ahead of another, and true; the least of all times, and false, if that lies below it.
func earlier(t, by int) (int, bool) {
	if t < math.MinInt+by {
		return math.MinInt, false
	}
	return t - by, true
}

// cut is those of samples, whose times rise, that lie in the window.
func (w window) cut(l []api.Sample) []api.Sample {
	first := sort.Search(len(l), func(i int) bool { return l[i].T >= w.from })
	rest := l[first:]
	return rest[:sort.Search(len(rest), func(i int) bool { return rest[i].T > w.to })]
}

// gaps is gaps that have a time, by From, each with the greatest To of all up to it: so the last one that begins in time tells whether any goes on for long enough.
type gaps []api.Gap

func gapsOf(l []api.Gap) gaps {
	var sorted gaps
	for _, g := range l {
		if g.From <= g.To {
			sorted = append(sorted, g)
		}
	}
	slices.SortFunc(sorted, func(a, b api.Gap) int { return cmp.Compare(a.From, b.From) })
	for i := range sorted {
		sorted[i].To = max(sorted[i].To, sorted[max(i-1, 0)].To)
	}
	return sorted
}

// touch tells whether a time is in one of the gaps, and in the window.
func (l gaps) touch(w window) bool {
	begun := sort.Search(len(l), func(i int) bool { return l[i].From > w.to })
	return w.from <= w.to && begun > 0 && l[begun-1].To >= w.from
}
