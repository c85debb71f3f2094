package merge

import (
	"cmp"
	"slices"

	"dryrot/api"
)

// Touches tells whether a range of times meets gaps.
func Touches(gaps []api.Gap, from, to int) bool {
	return slices.ContainsFunc(gaps, func(g api.Gap) bool { return hasTime(api.Gap{From: max(g.From, from), To: min(g.To, to)}) })
}

func hasTime(g api.Gap) bool { return g.From <= g.To }

// Joined is gaps, those that meet or touch as one.
func Joined(gaps []api.Gap) []api.Gap {
	var sorted, joined []api.Gap
	for _, g := range gaps {
		if hasTime(g) {
			sorted = append(sorted, g)
		}
	}
	slices.SortFunc(sorted, func(a, b api.Gap) int { return cmp.Compare(a.From, b.From) })
	for _, g := range sorted {
		if last := len(joined) - 1; last >= 0 && goesOn(joined[last], g) {
			joined[last].To = max(joined[last].To, g.To)
		} else {
			joined = append(joined, g)
		}
	}
	return joined
}

// goesOn tells whether a gap begins in one that begins no later, or right behind it; it is asked whether they meet first, so that From - 1 is a time.
func goesOn(a, b api.Gap) bool { return b.From <= a.To || b.From-1 == a.To }
