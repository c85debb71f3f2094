package regex

// span is the code points from first to last.
type span struct{ first, last rune }

// set is the code points of spans, or all others.
type set struct {
	others bool
	spans  []span
}

func (s set) has(point rune) bool {
	for _, x := range s.spans {
		if x.first <= point && point <= x.last {
			return !s.others
		}
	}
	return s.others
}

// state goes on to all that are next: if it takes, over a code point of its set; else over none.
type state struct {
	takes bool
	set   set
	next  []int
}

// part is a piece of a machine: it fits what leads from its first state to its last one.
type part struct{ from, to int }

// machine is a pattern's states, and the part of them that is the whole of it.
type machine struct {
	states []state
	whole  part
}

// front is where a machine may be behind some code points. All that it may be in are kept side by side, so that a text takes no longer than it is long, times the states.
type front struct {
	states []state
	round  int
	seen   []int // of each state the last round that reached it
	taking []int // those of this round that take
	before []int // those of the round before; kept so that a long text takes no new room a code point
}

func (m machine) fits(text string) bool {
	f := front{states: m.states, round: 1, seen: make([]int, len(m.states))}
	f.reach(m.whole.from)
	for _, point := range text {
		f.pass(point)
		if len(f.taking) == 0 && f.seen[m.whole.to] != f.round {
			return false
		}
	}
	return f.seen[m.whole.to] == f.round
}

func (f *front) pass(point rune) {
	f.before, f.taking = f.taking, f.before[:0]
	f.round++
	for _, n := range f.before {
		if f.states[n].set.has(point) {
			f.goOn(n)
		}
	}
}

// reach comes to a state once a round, so that loops over no code point end.
func (f *front) reach(n int) {
	if f.seen[n] == f.round {
		return
	}
	f.seen[n] = f.round
	if f.states[n].takes {
		f.taking = append(f.taking, n)
		return
	}
	f.goOn(n)
}

func (f *front) goOn(n int) {
	for _, next := range f.states[n].next {
		f.reach(next)
	}
}
