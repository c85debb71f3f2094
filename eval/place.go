package eval

import (
	"slices"

	"dryrot/api"
	"dryrot/labels"
)

// only is of each list the labels of names that are heeded.
func only(l [][]api.Label, heeds func(name string) bool) [][]api.Label {
	all := make([][]api.Label, len(l))
	for i, one := range l {
		all[i] = slices.DeleteFunc(slices.Clone(one), func(label api.Label) bool { return !heeds(label.Name) })
	}
	return all
}

// bare is the labels without __name__.
func bare(l [][]api.Label) [][]api.Label {
	return only(l, func(name string) bool { return name != "__name__" })
}

// numbered gives labels places: all of them, rising, no two the same, and of each list where its labels stand.
func numbered(lists ...[][]api.Label) ([][]api.Label, [][]int) {
	all := slices.Concat(lists...)
	slices.SortFunc(all, labels.Compare)
	all = slices.CompactFunc(all, func(a, b []api.Label) bool { return labels.Compare(a, b) == 0 })
	places := make([][]int, len(lists))
	for i, l := range lists {
		for _, one := range l {
			place, _ := slices.BinarySearchFunc(all, one, labels.Compare)
			places[i] = append(places[i], place)
		}
	}
	return all, places
}

// spot is a place, and the value of the point that fell on it, if one did.
type spot struct {
	isTaken bool
	v       uint64
}

// spread lays points on n other places; ErrTwice, if two fall on one.
func spread(l []point, places []int, n int) ([]spot, api.Errno) {
	spots := make([]spot, n)
	for _, p := range l {
		at := &spots[places[p.place]]
		if at.isTaken {
			return nil, api.ErrTwice
		}
		*at = spot{isTaken: true, v: p.v}
	}
	return spots, api.OK
}

// gathered is the points of the places that are taken.
func gathered(l []spot) []point {
	var points []point
	for place, s := range l {
		if s.isTaken {
			points = append(points, point{place: place, v: s.v})
		}
	}
	return points
}
