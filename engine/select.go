package engine

import (
	"cmp"
	"math"
	"slices"

	"dryrot/api"
	"dryrot/block"
	"dryrot/disk"
	"dryrot/head"
	"dryrot/match"
	"dryrot/tomb"
)

// Select is what is told of the series that matchers fit, and of a range of times.
func (e *Engine) Select(m []api.Matcher, from, to int) (api.Answer, api.Errno) {
	if code := e.ready(); code != api.OK {
		return api.Answer{}, code
	}
	if !match.Can(m) {
		return api.Answer{}, api.ErrArg
	}
	if from > to {
		return api.Answer{}, api.OK
	}
	older, gaps := e.state.stored(e.disk, m, from, to)
	series := head.Merge(older, e.state.head.Select(m, from, to))
	return api.Answer{Series: outside(series, gaps), Gaps: gaps}, api.OK
}

// stored is what the blocks have, one behind the other, and the gaps of those that can't be read.
func (s *state) stored(d *disk.Disk, m []api.Matcher, from, to int) ([]api.Series, []api.Gap) {
	var series []api.Series
	var gaps []api.Gap
	for _, f := range s.blocks {
		if f.Bytes == 0 || f.Max < s.Floor || f.Max < from || f.Min > to {
			continue
		}
		l, code := block.Select(d, f, m, from, to)
		if code != api.OK {
			gaps = append(gaps, api.Gap{From: max(f.Min, from), To: min(f.Max, to)})
			continue
		}
		series = append(series, s.left(l, f.Rank)...)
	}
	return series, joined(gaps)
}

// left is what deletes and the floor leave of a block's series. It is written over what is handed in, which nobody else has.
func (s *state) left(l []api.Series, rank int) []api.Series {
	for i, one := range l {
		deletes := s.heeded(one.Labels, rank)
		l[i].Samples = slices.DeleteFunc(one.Samples, func(x api.Sample) bool {
			return x.T < s.Floor || tomb.Hits(deletes, one.Labels, x.T, rank)
		})
	}
	return l
}

// heeded is the deletes that can hit a series of a rank: patterns are tried once a series, not once a sample.
func (s *state) heeded(l []api.Label, rank int) []api.Delete {
	var heeded []api.Delete
	for _, d := range s.deletes {
		if d.Upto >= rank && match.All(d.Matchers, l) {
			heeded = append(heeded, d)
		}
	}
	return heeded
}

// joined is gaps that rise, of any: those that meet, or touch, as one. The time ahead of one that begins behind another's end is asked for, since there may be none behind that end.
func joined(gaps []api.Gap) []api.Gap {
	slices.SortFunc(gaps, func(a, b api.Gap) int { return cmp.Compare(a.From, b.From) })
	var l []api.Gap
	for _, g := range gaps {
		last := len(l) - 1
		if last < 0 || g.From > l[last].To && g.From-1 > l[last].To {
			l = append(l, g)
			continue
		}
		l[last].To = max(l[last].To, g.To)
	}
	return l
}

// outside is series without the samples of gaps, written over what is handed in.
func outside(l []api.Series, gaps []api.Gap) []api.Series {
	if len(gaps) == 0 {
		return l
	}
	for i := range l {
		l[i].Samples = slices.DeleteFunc(l[i].Samples, func(x api.Sample) bool { return isIn(gaps, x.T) })
	}
	return slices.DeleteFunc(l, func(s api.Series) bool { return len(s.Samples) == 0 })
}

func isIn(gaps []api.Gap, t int) bool {
	return slices.ContainsFunc(gaps, func(g api.Gap) bool { return g.From <= t && t <= g.To })
}

// Names is all names of labels.
func (e *Engine) Names() ([]string, api.Errno) {
	return e.told(func(l api.Label) (string, bool) { return l.Name, true })
}

// Values is all values of a label.
func (e *Engine) Values(name string) ([]string, api.Errno) {
	return e.told(func(l api.Label) (string, bool) { return l.Value, l.Name == name && l.Value != "" })
}

// told is what pick takes of all labels, each once, rising. A gap may hide a series, so there must be none.
func (e *Engine) told(pick func(l api.Label) (string, bool)) ([]string, api.Errno) {
	a, code := e.Select(nil, math.MinInt, math.MaxInt)
	if code != api.OK {
		return nil, code
	}
	if len(a.Gaps) > 0 {
		return nil, api.ErrDegraded
	}
	var l []string
	for _, s := range a.Series {
		for _, label := range s.Labels {
			if word, ok := pick(label); ok {
				l = append(l, word)
			}
		}
	}
	slices.Sort(l)
	return slices.Compact(l), api.OK
}
