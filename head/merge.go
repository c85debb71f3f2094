package head

import (
	"cmp"
	"slices"

	"dryrot/api"
	"dryrot/labels"
)

// Merge is series of two lists: the second one's samples go over the first one's.
func Merge(a, b []api.Series) []api.Series {
	return rising(append(ownSeries(a), ownSeries(b)...), compareLabels, joined)
}

// ownSeries is series in memory of their own, each one's samples rising, without those that have none.
func ownSeries(l []api.Series) []api.Series {
	var own []api.Series
	for _, s := range l {
		if len(s.Samples) > 0 {
			samples := rising(s.Samples, compareTimes, later)
			own = append(own, api.Series{Labels: slices.Clone(s.Labels), Samples: samples})
		}
	}
	return own
}

func compareLabels(a, b api.Series) int { return labels.Compare(a.Labels, b.Labels) }

func compareTimes(a, b api.Sample) int { return cmp.Compare(a.T, b.T) }

// joined is two series of the same labels as one.
func joined(a, b api.Series) api.Series {
	return api.Series{Labels: a.Labels, Samples: merged(a.Samples, b.Samples, compareTimes, later)}
}

// later is the one of two samples of one time that counts.
func later(_, b api.Sample) api.Sample { return b }

// merged is two lists that rise as one that does, in memory of its own: of a thing of each that are the same, join makes one.
func merged[T any](a, b []T, compare func(x, y T) int, join func(x, y T) T) []T {
	all := make([]T, 0, len(a)+len(b))
	for len(a) > 0 && len(b) > 0 {
		order := compare(a[0], b[0])
		switch {
		case order < 0:
			all, a = append(all, a[0]), a[1:]
		case order > 0:
			all, b = append(all, b[0]), b[1:]
		default:
			all, a, b = append(all, join(a[0], b[0])), a[1:], b[1:]
		}
	}
	return append(append(all, a...), b...)
}

// rising is any list as one that rises, in memory of its own. Its halves are merged with the latter one behind, so that join is handed things in the list's order.
func rising[T any](l []T, compare func(x, y T) int, join func(x, y T) T) []T {
	if rises(l, compare) {
		return slices.Clone(l)
	}
	half := len(l) / 2
	return merged(rising(l[:half], compare, join), rising(l[half:], compare, join), compare, join)
}

// rises tells whether each thing of a list is above the one ahead of it.
func rises[T any](l []T, compare func(x, y T) int) bool {
	for i := 1; i < len(l); i++ {
		if compare(l[i-1], l[i]) >= 0 {
			return false
		}
	}
	return true
}
