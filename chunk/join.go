package chunk

import (
	"cmp"
	"iter"
	"slices"

	"dryrot/api"
	"dryrot/labels"
)

// Join is the series, those of the same labels as one: later samples go over earlier ones.
func Join(l []api.Series) []api.Series {
	var joined []api.Series
	for group := range groups(l) {
		samples := overlaid(group)
		if len(samples) > 0 {
			joined = append(joined, api.Series{Labels: slices.Clone(group[0].Labels), Samples: samples})
		}
	}
	return joined
}

// groups parts series into those of the same labels, by labels, each group's in the order of the list.
func groups(l []api.Series) iter.Seq[[]api.Series] {
	sorted := slices.Clone(l)
	slices.SortStableFunc(sorted, compareLabels)
	return func(yield func([]api.Series) bool) {
		from := 0
		for to := 1; to <= len(sorted); to++ {
			if to < len(sorted) && compareLabels(sorted[from], sorted[to]) == 0 {
				continue
			}
			if !yield(sorted[from:to]) {
				return
			}
			from = to
		}
	}
}

func compareLabels(a, b api.Series) int { return labels.Compare(a.Labels, b.Labels) }

// overlaid is all samples of series, by time; of those of one time the last one.
func overlaid(l []api.Series) []api.Sample {
	var all []api.Sample
	for _, s := range l {
		all = append(all, s.Samples...)
	}
	slices.SortStableFunc(all, compareTimes)
	var last []api.Sample
	for i, s := range all {
		if i+1 == len(all) || all[i+1].T != s.T {
			last = append(last, s)
		}
	}
	return last
}

func compareTimes(a, b api.Sample) int { return cmp.Compare(a.T, b.T) }
