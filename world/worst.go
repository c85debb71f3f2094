package world

import (
	"strings"

	"dryrot/api"
)

// Worst is how many extents of one group are damaged at most.
func (w *World) Worst() int {
	if !w.isMade() {
		return 0
	}
	worst := 0
	damaged := map[api.Group]int{}
	for _, spot := range w.disk.Damaged() {
		g := groupOf(spot)
		if g.Kind == 0 {
			continue
		}
		damaged[g]++
		worst = max(worst, damaged[g])
	}
	return worst
}

// groupOf is the group that an extent stands in, whatever its generation; one of no Kind, if its file is none of a pair or a stripe.
func groupOf(s api.Spot) api.Group {
	at := strings.LastIndexByte(s.Name, '.')
	if at < 0 {
		return api.Group{}
	}
	switch s.Name[at+1:] {
	case "a", "b":
		return api.Group{Kind: api.GroupPair, Name: s.Name[:at], Index: s.Index}
	case "0", "1", "2", "p":
		return api.Group{Kind: api.GroupStripe, Name: s.Name[:at], Index: s.Index}
	}
	return api.Group{}
}
