package postings

import (
	"slices"

	"dryrot/api"
)

// end is above all numbers: it is told where there is none.
const end = maxNumber + 1

// walker goes through the numbers of a set: from tells the least one that is n or more, n being 0 to end.
type walker interface {
	from(n int) int
}

// list is the walker of numbers that rise.
type list []int

func (l list) from(n int) int {
	at, _ := slices.BinarySearch(l, n)
	if at == len(l) {
		return end
	}
	return l[at]
}

// and is the walker of what all of several have; there is at least one.
type and []walker

// from hands the number from one to the next, till a round ends with the number that it began with: then all have it.
func (a and) from(n int) int {
	for {
		at := n
		for _, kid := range a {
			at = kid.from(at)
		}
		if at == n {
			return at
		}
		n = at
	}
}

// or is the walker of what one of several has.
type or []walker

func (o or) from(n int) int {
	least := end
	for _, kid := range o {
		least = min(least, kid.from(n))
	}
	return least
}

// not is the walker of what the first one has, and none of the others.
type not struct {
	first  walker
	others or
}

func (w not) from(n int) int {
	at := w.first.from(n)
	for at < end && w.others.from(at) == at {
		at = w.first.from(at + 1)
	}
	return at
}

// mindful is a walker that keeps what it was asked last: from there to what it told, the answer is the same. So one that is asked step by step goes its way but once.
type mindful struct {
	walker
	asked, told int
	over        int // from there on there is none
}

// remember is a walker that minds what it was asked: as yet nothing, since no number is from 0 to -1.
func remember(w walker) walker { return &mindful{walker: w, told: -1, over: end} }

func (m *mindful) from(n int) int {
	if n >= m.over {
		return end
	}
	if n >= m.asked && n <= m.told {
		return m.told
	}
	m.asked, m.told = n, m.walker.from(n)
	if m.told == end {
		m.over = n
	}
	return m.told
}

// planter makes the walkers of a set, and counts its sets: so it ends with a set that has itself for a kid, too.
type planter struct{ sets int }

// plant is the walker of a set; none, if the set may not be.
func plant(s api.Set) (walker, bool) {
	p := planter{}
	return p.set(s, 1)
}

func (p *planter) set(s api.Set, depth int) (walker, bool) {
	p.sets++
	if p.sets > api.MaxSet || depth > api.MaxNest {
		return nil, false
	}
	if s.Kind == api.SetList {
		l, e := Unpack(s.Packed)
		return remember(list(l)), e == api.OK
	}
	kids, ok := p.kids(s.Kids, depth+1)
	if !ok {
		return nil, false
	}
	return parent(s.Kind, kids)
}

func (p *planter) kids(l []api.Set, depth int) ([]walker, bool) {
	var kids []walker
	for _, s := range l {
		kid, ok := p.set(s, depth)
		if !ok {
			return nil, false
		}
		kids = append(kids, kid)
	}
	return kids, true
}

// parent is the walker of a kind of set with these kids; none, if there is no such kind, or it must have a kid.
func parent(kind int, kids []walker) (walker, bool) {
	switch {
	case kind == api.SetOr, kind == api.SetAnd && len(kids) == 0: // without kids, neither of them has any number
		return remember(or(kids)), true
	case kind == api.SetAnd:
		return remember(and(kids)), true
	case kind == api.SetNot && len(kids) > 0:
		return remember(not{first: kids[0], others: kids[1:]}), true
	}
	return nil, false
}
