package engine

import (
	"slices"

	"dryrot/api"
	"dryrot/scrub"
)

// Status is what it tells of itself.
func (e *Engine) Status() api.Status {
	if e.ready() != api.OK {
		return api.Status{}
	}
	s := e.state
	return api.Status{
		Anchor:  s.Anchor,
		Blocks:  slices.Clone(s.blocks),
		Deletes: copyDeletes(s.deletes),
		Ledger:  slices.Clone(s.ledger),
		Series:  len(s.head.All()),
		Groups:  len(scrub.Groups(e.disk, s.Anchor, s.blocks)),
	}
}

// copyDeletes is deletes in memory of their own.
func copyDeletes(l []api.Delete) []api.Delete {
	own := slices.Clone(l)
	for i := range own {
		own[i].Matchers = slices.Clone(own[i].Matchers)
	}
	return own
}
