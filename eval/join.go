package eval

import (
	"cmp"
	"slices"

	"dryrot/api"
)

// joined is a join of two parts.
func joined(q api.Query, left, right part) part {
	switch q.Name {
	case "and":
		return kept(left, right, true)
	case "unless":
		return kept(left, right, false)
	case "or":
		return either(left, right)
	}
	// A number stands for a point of each of the other one's labels.
	if q.Kids[0].Kind == api.QueryNumber {
		left = number(q.Kids[0].Number, distinct(bare(right.labels)))
	}
	if q.Kids[1].Kind == api.QueryNumber {
		right = number(q.Kids[1].Number, distinct(bare(left.labels)))
	}
	return reckoned(sign(q.Name), left, right)
}

func distinct(l [][]api.Label) [][]api.Label {
	all, _ := numbered(l)
	return all
}

// sign is what a join of + - * makes of two values.
func sign(name string) func(a, b uint64) uint64 {
	switch name {
	case "+":
		return func(a, b uint64) uint64 { return a + b }
	case "-":
		return func(a, b uint64) uint64 { return a - b }
	}
	return func(a, b uint64) uint64 { return a * b }
}

// both is the points of two parts at a time.
func both(left, right part, t int) ([]point, []point, api.Errno) {
	l, e := left.at(t)
	if e != api.OK {
		return nil, nil, e
	}
	r, e := right.at(t)
	return l, r, e
}

// reckoned is a join of + - *: of each bare labels that both parts have a point of.
func reckoned(made func(a, b uint64) uint64, left, right part) part {
	all, places := numbered(bare(left.labels), bare(right.labels))
	return part{labels: all, at: func(t int) ([]point, api.Errno) {
		l, r, e := both(left, right, t)
		if e != api.OK {
			return nil, e
		}
		ofLeft, e := spread(l, places[0], len(all))
		ofRight, f := spread(r, places[1], len(all))
		if e != api.OK || f != api.OK {
			return nil, api.ErrTwice
		}
		for place, s := range ofRight {
			ofLeft[place].isTaken = ofLeft[place].isTaken && s.isTaken
			ofLeft[place].v = made(ofLeft[place].v, s.v)
		}
		return gathered(ofLeft), api.OK
	}}
}

// kept is a join of and, and of unless: the left points whose bare labels a right one has, or none has.
func kept(left, right part, isIn bool) part {
	all, places := numbered(bare(left.labels), bare(right.labels))
	return part{labels: left.labels, at: func(t int) ([]point, api.Errno) {
		l, r, e := both(left, right, t)
		has := marked(r, places[1], len(all))
		return slices.DeleteFunc(l, func(p point) bool { return has[places[0][p.place]] != isIn }), e
	}}
}

// marked tells of n other places on which of them points fall.
func marked(l []point, places []int, n int) []bool {
	marks := make([]bool, n)
	for _, p := range l {
		marks[places[p.place]] = true
	}
	return marks
}

// either is a join of or. Of no labels two points come about: those of the same labels have the same bare ones, too.
func either(left, right part) part {
	bares, barePlaces := numbered(bare(left.labels), bare(right.labels))
	all, places := numbered(left.labels, right.labels)
	return part{labels: all, at: func(t int) ([]point, api.Errno) {
		l, r, e := both(left, right, t)
		has := marked(l, barePlaces[0], len(bares))
		var points []point
		for _, p := range l {
			points = append(points, point{place: places[0][p.place], v: p.v})
		}
		for _, p := range r {
			if !has[barePlaces[1][p.place]] {
				points = append(points, point{place: places[1][p.place], v: p.v})
			}
		}
		slices.SortFunc(points, func(a, b point) int { return cmp.Compare(a.place, b.place) })
		return points, e
	}}
}
