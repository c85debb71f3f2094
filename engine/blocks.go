package engine

import (
	"math"
	"slices"

	"dryrot/api"
	"dryrot/block"
	"dryrot/head"
	"dryrot/plan"
)

// maxBlocks is how many blocks there are at most.
const maxBlocks = 1000

// cut makes a block of what is in memory, and begins a new segment of the log.
func (c *change) cut() error {
	series := c.head.All()
	if len(series) == 0 && c.Extents == 0 {
		return nil
	}
	blocks := c.blocks
	var fresh *draft
	if len(series) > 0 {
		if len(blocks) >= maxBlocks {
			return api.ErrFull
		}
		fresh = draftOf(api.Footer{Number: c.Next, Gen: c.Gen + 1, Level: 1, Rank: c.Next}, series)
		blocks = append(slices.Clone(blocks), fresh.bare())
	}
	return c.commit(fresh, func() {
		c.blocks, c.head = blocks, head.New()
		c.Segment, c.Extents = c.Gen, 0
	})
}

// tick lets expired blocks go; if there are none, it makes three one.
func (c *change) tick() error {
	expired := plan.Expired(c.blocks, c.Floor)
	if len(expired) > 0 {
		return c.commit(nil, func() { c.blocks = without(c.blocks, expired) })
	}
	three := plan.Merge(c.blocks)
	if len(three) == 0 {
		return nil
	}
	return c.merge(place(c.blocks, three[0]), len(three))
}

// without is blocks without those of some numbers.
func without(l []api.Footer, numbers []int) []api.Footer {
	return slices.DeleteFunc(slices.Clone(l), func(f api.Footer) bool { return slices.Contains(numbers, f.Number) })
}

// merge makes one of so many blocks from a place on. As long as one of them can't be read, they stay apart: the others are not lost by it.
func (c *change) merge(at, count int) error {
	group := c.blocks[at : at+count]
	var series []api.Series
	for _, f := range group {
		l, code := block.Select(c.disk, f, nil, math.MinInt, math.MaxInt)
		if code != api.OK {
			return nil
		}
		series = append(series, c.left(l, f.Rank)...)
	}
	shape, code := plan.Merged(group, c.Next, c.Gen+1)
	if code != api.OK {
		return code
	}
	fresh := draftOf(shape, head.Merge(nil, series))
	return c.commit(fresh, func() {
		c.blocks = slices.Concat(c.blocks[:at], []api.Footer{fresh.bare()}, c.blocks[at+count:])
	})
}
