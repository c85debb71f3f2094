package postings

import (
	"math"

	"dryrot/api"
)

// Can tells whether a set may be.
func Can(s api.Set) bool {
	_, ok := plant(s)
	return ok
}

// Cursor goes through a set's numbers. It keeps the last one that was told; its walkers can be asked from anywhere.
type Cursor struct {
	root walker
	told int
}

// Open is a cursor at the beginning of a set.
func Open(s api.Set) (*Cursor, api.Errno) {
	root, ok := plant(s)
	if !ok {
		return nil, api.ErrArg
	}
	return &Cursor{root: root, told: -1}, api.OK
}

func (c *Cursor) isMade() bool { return c != nil && c.root != nil }

// Next is the next number.
func (c *Cursor) Next() (int, bool) { return c.Seek(math.MinInt) }

// Seek is the first number from n on that was not told yet; where there is none, nothing is told, and the cursor stays.
func (c *Cursor) Seek(n int) (int, bool) {
	if !c.isMade() {
		return 0, false
	}
	at := c.root.from(min(max(n, c.told+1), end))
	if at == end {
		return 0, false
	}
	c.told = at
	return at, true
}

// All is all numbers that are left.
func (c *Cursor) All() []int {
	var all []int
	for n, ok := c.Next(); ok; n, ok = c.Next() {
		all = append(all, n)
	}
	return all
}
