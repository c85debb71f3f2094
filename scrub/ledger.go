package scrub

import (
	"cmp"
	"slices"

	"dryrot/api"
)

// Note is a ledger with extents added, or taken out.
func Note(ledger []api.Spot, l []api.Spot, in bool) []api.Spot {
	if in {
		return rising(slices.Concat(ledger, l))
	}
	return without(rising(ledger), rising(l))
}

// rising is the extents of any list, rising, each once.
func rising(l []api.Spot) []api.Spot {
	sorted := slices.Clone(l)
	slices.SortFunc(sorted, compareSpots)
	return slices.Compact(sorted)
}

// without is the extents of one list that another one has not; both rise.
func without(l, others []api.Spot) []api.Spot {
	var left []api.Spot
	for _, spot := range l {
		if _, isThere := slices.BinarySearchFunc(others, spot, compareSpots); !isThere {
			left = append(left, spot)
		}
	}
	return left
}

func compareSpots(a, b api.Spot) int {
	return cmp.Or(cmp.Compare(a.Name, b.Name), cmp.Compare(a.Index, b.Index))
}
