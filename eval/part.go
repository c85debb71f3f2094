package eval

import (
	"slices"

	"dryrot/api"
	"dryrot/labels"
	"dryrot/match"
)

// part is a part of a query, made ready for an answer: all labels that its points may have, rising, no two the same, and its points at a time, by their places.
type part struct {
	labels [][]api.Label
	at     func(t int) ([]point, api.Errno)
}

// point is a value of the labels that stand at a place of its part.
type point struct {
	place int
	v     uint64
}

// partOf makes a tree that may be ready.
func partOf(q api.Query, l []api.Series) part {
	switch q.Kind {
	case api.QuerySelect:
		return selected(q, l)
	case api.QueryCall:
		return called(q, l)
	case api.QueryFold:
		return folded(q, partOf(q.Kids[0], l))
	case api.QueryJoin:
		return joined(q, partOf(q.Kids[0], l), partOf(q.Kids[1], l))
	}
	return number(q.Number, [][]api.Label{nil})
}

// number is a point of that value of each of these labels, at any time.
func number(n uint64, all [][]api.Label) part {
	return part{labels: all, at: func(int) ([]point, api.Errno) {
		points := make([]point, len(all))
		for place := range points {
			points[place] = point{place: place, v: n}
		}
		return points, api.OK
	}}
}

// selected is the last sample in the window of each series that fits.
func selected(q api.Query, l []api.Series) part {
	series := fitting(q, l)
	lastOne := func(in []api.Sample) uint64 { return in[len(in)-1].V }
	return part{labels: labelsOf(series), at: func(t int) ([]point, api.Errno) {
		return inWindow(series, windowOf(q, t), lastOne), api.OK
	}}
}

// called is what a call makes of each series' samples in the window.
func called(q api.Query, l []api.Series) part {
	selector := q.Kids[0]
	series := fitting(selector, l)
	all, places := numbered(bare(labelsOf(series)))
	made, _ := ofCall(q.Name)
	return part{labels: all, at: func(t int) ([]point, api.Errno) {
		spots, e := spread(inWindow(series, windowOf(selector, t), made.ofSamples), places[0], len(all))
		return gathered(spots), e
	}}
}

// fitting is the series that fit a selector.
func fitting(q api.Query, l []api.Series) []api.Series {
	var fit []api.Series
	for _, s := range l {
		if (q.Name == "" || labels.Get(s.Labels, "__name__") == q.Name) && match.All(q.Matchers, s.Labels) {
			fit = append(fit, s)
		}
	}
	return fit
}

func labelsOf(l []api.Series) [][]api.Label {
	all := make([][]api.Label, len(l))
	for i, s := range l {
		all[i] = s.Labels
	}
	return all
}

// inWindow is a point of each series that has samples in a window: what is made of these.
func inWindow(l []api.Series, w window, made func([]api.Sample) uint64) []point {
	var points []point
	for place, s := range l {
		if in := w.cut(s.Samples); len(in) > 0 {
			points = append(points, point{place: place, v: made(in)})
		}
	}
	return points
}

// folded is what a fold makes of the values of a part's points of the same labels.
func folded(q api.Query, kid part) part {
	all, places := numbered(only(kid.labels, heeded(q)))
	made, _ := ofFold(q.Name)
	return part{labels: all, at: func(t int) ([]point, api.Errno) {
		l, e := kid.at(t)
		runs := make([]run, len(all))
		for _, p := range l {
			runs[places[0][p.place]].take(made, p.v)
		}
		var points []point
		for place, r := range runs {
			if r.taken > 0 {
				points = append(points, point{place: place, v: r.sofar})
			}
		}
		return points, e
	}}
}

// heeded tells of names of labels which ones a fold heeds.
func heeded(q api.Query) func(name string) bool {
	return func(name string) bool {
		isListed := slices.Contains(q.Labels, name)
		if q.Without {
			return !isListed && name != "__name__"
		}
		return isListed
	}
}
