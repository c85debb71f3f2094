package stats

import (
	"slices"

	"dryrot/api"
)

// Add is what two parts that share no series have together, with all names and labels.
func Add(a, b api.Stats) (api.Stats, api.Errno) {
	if !canAdd(a) || !canAdd(b) {
		return api.Stats{}, api.ErrArg
	}
	names, isNamesFull := together(a.Names, b.Names)
	pairs, isPairsFull := together(a.Pairs, b.Pairs)
	if isAbove(a.Series, b.Series) || isAbove(a.Samples, b.Samples) || isNamesFull || isPairsFull {
		return api.Stats{}, api.ErrFull
	}
	return api.Stats{Series: a.Series + b.Series, Samples: a.Samples + b.Samples, Values: len(pairs), Names: names, Pairs: pairs}, api.OK
}

// canAdd tells whether no number is below 0, and no Name stands twice in a list.
func canAdd(s api.Stats) bool {
	return s.Series >= 0 && s.Samples >= 0 && s.Values >= 0 && canCount(s.Names) && canCount(s.Pairs)
}

func canCount(l []api.Count) bool {
	seen := map[string]struct{}{}
	for _, c := range l {
		seen[c.Name] = struct{}{}
	}
	return len(seen) == len(l) && !slices.ContainsFunc(l, func(c api.Count) bool { return c.N < 0 })
}

// isAbove tells whether two numbers, none of them below 0, are together more than a number on the disk may be.
func isAbove(a, b int) bool { return uint64(a)+uint64(b) > api.MaxNumber }

// together is of each name what two lists have of it, the greatest first; true, if one of these is too great.
func together(a, b []api.Count) ([]api.Count, bool) {
	counts, isFull := map[string]int{}, false
	for _, c := range slices.Concat(a, b) {
		isFull = isFull || isAbove(counts[c.Name], c.N)
		counts[c.Name] += c.N
	}
	var l []api.Count
	for name, n := range counts {
		l = append(l, api.Count{Name: name, N: n})
	}
	return Top(l, len(l)), isFull
}
