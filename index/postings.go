package index

import (
	"iter"
	"slices"

	"dryrot/api"
	"dryrot/labels"
	"dryrot/match"
)

// postings is places of entries. It is either listed or others: a matcher that asks what a label is not fits most entries, and is told by the few that it does not fit.
type postings interface {
	// through goes through the places, rising.
	through() iter.Seq[int]
}

// listed is places, rising, each once.
type listed []int

func (p listed) through() iter.Seq[int] { return slices.Values(p) }

// others is all places below count that are not listed.
type others struct {
	count int
	but   listed
}

func (p others) through() iter.Seq[int] {
	return func(yield func(int) bool) {
		but := p.but
		for place := range p.count {
			if len(but) > 0 && but[0] == place {
				but = but[1:]
				continue
			}
			if !yield(place) {
				return
			}
		}
	}
}

// meet is the places that both have. What was asked for and is not listed can only be others, so that is not asked again.
func meet(a, b postings) postings {
	x, xListed := a.(listed)
	y, yListed := b.(listed)
	switch {
	case xListed && yListed:
		return listed(Meet(x, y))
	case xListed:
		return listed(Minus(x, b.(others).but))
	case yListed:
		return listed(Minus(y, a.(others).but))
	}
	all, more := a.(others), b.(others)
	return others{count: all.count, but: Union(all.but, more.but)}
}

// fitting is the places of the entries that a matcher fits. It hangs on the value of one label alone, so each value is asked once; entries without that label all go as labels without any do.
func fitting(l []api.Entry, m api.Matcher) postings {
	fitsWithout := match.One(m, nil)
	var unlike listed // the places that do not go as those without the label
	for value, places := range byValue(l, m.Name) {
		if match.One(m, []api.Label{{Name: m.Name, Value: value}}) != fitsWithout {
			unlike = append(unlike, places...)
		}
	}
	slices.Sort(unlike)
	if fitsWithout {
		return others{count: len(l), but: unlike}
	}
	return unlike
}

// byValue is, of each value of a label, the places of the entries that have it, rising.
func byValue(l []api.Entry, name string) map[string][]int {
	holders := map[string][]int{}
	for place, entry := range l {
		value := labels.Get(entry.Labels, name)
		if value != "" {
			holders[value] = append(holders[value], place)
		}
	}
	return holders
}
