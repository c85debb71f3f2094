package regex

import (
	"strings"
	"unicode/utf8"

	"dryrot/api"
)

// sign is a code point of a pattern; if a \ stands ahead of it, it means itself.
type sign struct {
	point   rune
	escaped bool
}

func (s sign) isOneOf(points string) bool {
	return !s.escaped && strings.ContainsRune(points, s.point)
}

// scan parts a pattern into its signs. It can do so ahead of all else, since a \ says the same inside a class and outside.
func scan(p string) ([]sign, bool) {
	if len(p) > api.MaxRegex {
		return nil, false
	}
	var signs []sign
	escaped := false
	for _, r := range p {
		switch {
		case r == utf8.RuneError:
			return nil, false
		case r == '\\' && !escaped:
			escaped = true
		default:
			signs = append(signs, sign{r, escaped})
			escaped = false
		}
	}
	return signs, !escaped
}

// reader makes a machine of the signs that are left.
type reader struct {
	left   []sign
	states []state
}

// read is the machine of a pattern; false, if it is none.
func read(p string) (machine, bool) {
	signs, ok := scan(p)
	if !ok {
		return machine{}, false
	}
	r := reader{left: signs}
	whole, ok := r.pattern(0)
	if !ok || len(r.left) > 0 {
		return machine{}, false
	}
	return machine{r.states, whole}, true
}

// isAt tells whether the next sign is one of these, and means more than itself.
func (r *reader) isAt(points string) bool {
	return len(r.left) > 0 && r.left[0].isOneOf(points)
}

func (r *reader) take(point string) bool {
	if !r.isAt(point) {
		return false
	}
	r.left = r.left[1:]
	return true
}

// point takes the next sign as the code point that it is, if it is none of those that may not stand for themselves.
func (r *reader) point(but string) (rune, bool) {
	if len(r.left) == 0 || r.isAt(but) {
		return 0, false
	}
	point := r.left[0].point
	r.left = r.left[1:]
	return point, true
}

func (r *reader) pattern(depth int) (part, bool) {
	whole := part{r.state(), r.state()}
	for {
		one, ok := r.sequence(depth)
		if !ok {
			return part{}, false
		}
		r.link(whole.from, one.from)
		r.link(one.to, whole.to)
		if !r.take("|") {
			return whole, true
		}
	}
}

func (r *reader) sequence(depth int) (part, bool) {
	start := r.state()
	whole := part{start, start}
	for len(r.left) > 0 && !r.isAt("|)") {
		one, ok := r.piece(depth)
		if !ok {
			return part{}, false
		}
		r.link(whole.to, one.from)
		whole.to = one.to
	}
	return whole, true
}

func (r *reader) piece(depth int) (part, bool) {
	atom, ok := r.atom(depth)
	switch {
	case !ok:
		return part{}, false
	case r.take("*"):
		return r.around(atom, true, true), true
	case r.take("+"):
		return r.around(atom, false, true), true
	case r.take("?"):
		return r.around(atom, true, false), true
	}
	return atom, true
}

func (r *reader) atom(depth int) (part, bool) {
	switch {
	case r.take("("):
		return r.group(depth)
	case r.take("["):
		return r.class()
	case r.take("."):
		return r.step(set{others: true}), true
	}
	point, ok := r.point("*+?|()[")
	return r.step(set{spans: []span{{point, point}}}), ok
}

func (r *reader) group(depth int) (part, bool) {
	if depth == api.MaxDepth {
		return part{}, false
	}
	inner, ok := r.pattern(depth + 1)
	return inner, ok && r.take(")")
}

func (r *reader) class() (part, bool) {
	s := set{others: r.take("^")}
	for !r.take("]") {
		member, ok := r.member()
		if !ok {
			return part{}, false
		}
		s.spans = append(s.spans, member)
	}
	return r.step(s), len(s.spans) > 0
}

func (r *reader) member() (span, bool) {
	first, ok := r.point("]-")
	if !ok {
		return span{}, false
	}
	if !r.take("-") {
		return span{first, first}, true
	}
	last, ok := r.point("]-")
	return span{first, last}, ok && first <= last
}

func (r *reader) state() int {
	r.states = append(r.states, state{})
	return len(r.states) - 1
}

func (r *reader) link(from, to int) {
	r.states[from].next = append(r.states[from].next, to)
}

// step is a part that takes one code point.
func (r *reader) step(s set) part {
	p := part{r.state(), r.state()}
	r.states[p.from].takes = true
	r.states[p.from].set = s
	r.link(p.from, p.to)
	return p
}

// around is a part with ways past it and back to it. It has ends of its own, so that no way that is linked to these later leads into the loop.
func (r *reader) around(inner part, past, back bool) part {
	p := part{r.state(), r.state()}
	r.link(p.from, inner.from)
	r.link(inner.to, p.to)
	if past {
		r.link(p.from, p.to)
	}
	if back {
		r.link(inner.to, inner.from)
	}
	return p
}
