package model

import (
	"cmp"
	"slices"
	"sort"

	"dryrot/api"
)

// Outside is series without the samples of times in gaps.
func Outside(l []api.Series, gaps []api.Gap) []api.Series {
	reaches := reachesOf(gaps)
	var told []api.Series
	for _, s := range l {
		var left []api.Sample
		for _, x := range s.Samples {
			if !isIn(reaches, x.T) {
				left = append(left, x)
			}
		}
		if len(left) > 0 {
			told = append(told, api.Series{Labels: slices.Clone(s.Labels), Samples: left})
		}
	}
	return told
}

// reachesOf is gaps by where they begin, rising, each one's end the furthest of all up to it: so the last one that begins up to a time tells alone whether one of them has it.
func reachesOf(gaps []api.Gap) []api.Gap {
	reaches := slices.Clone(gaps)
	slices.SortFunc(reaches, func(a, b api.Gap) int { return cmp.Compare(a.From, b.From) })
	for i := 1; i < len(reaches); i++ {
		reaches[i].To = max(reaches[i].To, reaches[i-1].To)
	}
	return reaches
}

func isIn(reaches []api.Gap, t int) bool {
	begun := sort.Search(len(reaches), func(i int) bool { return reaches[i].From > t })
	return begun > 0 && reaches[begun-1].To >= t
}
