package query

import (
	"slices"

	"dryrot/api"
)

// Same tells whether two trees are the same. If they are, they have as many parts, so one of them is counted alone.
func Same(a, b api.Query) bool { return isSmall(a) && isSame(a, b) }

// isSmall tells whether a tree has MaxQuery parts at most.
func isSmall(q api.Query) bool { return partsLeft(q, api.MaxQuery) >= 0 }

// partsLeft is how many of so many parts a tree leaves; below 0, as soon as they don't do, so that a tree that goes on for ever is left.
func partsLeft(q api.Query, parts int) int {
	parts--
	for _, kid := range q.Kids {
		if parts < 0 {
			break
		}
		parts = partsLeft(kid, parts)
	}
	return parts
}

func isSame(a, b api.Query) bool { return isAlike(a, b) && slices.EqualFunc(a.Kids, b.Kids, isSame) }

// isAlike tells whether two queries are the same but for their Kids.
func isAlike(a, b api.Query) bool {
	return a.Kind == b.Kind && a.Name == b.Name && slices.Equal(a.Matchers, b.Matchers) && a.Range == b.Range && a.Offset == b.Offset && slices.Equal(a.Labels, b.Labels) && a.Without == b.Without && a.Number == b.Number
}

// Reach is how far back a tree looks at most.
func Reach(q api.Query) int {
	reach := 0
	for _, selector := range Selects(q) {
		window := selector.Range
		if window == 0 {
			window = api.Look
		}
		reach = max(reach, window+selector.Offset)
	}
	return reach
}

// Selects is all selectors of a tree, from left to right.
func Selects(q api.Query) []api.Query {
	if !Can(q) {
		return nil
	}
	return selectors(q)
}

// selectors is those of a tree that may be, in memory of their own: the lists that a selector has without use may have room, and so are left out.
func selectors(q api.Query) []api.Query {
	if q.Kind == api.QuerySelect {
		return []api.Query{{Kind: q.Kind, Name: q.Name, Matchers: append([]api.Matcher(nil), q.Matchers...), Range: q.Range, Offset: q.Offset}}
	}
	var all []api.Query
	for _, kid := range q.Kids {
		all = append(all, selectors(kid)...)
	}
	return all
}
