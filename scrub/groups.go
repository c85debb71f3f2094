package scrub

import (
	"math"
	"slices"
	"strconv"

	"dryrot/anchor"
	"dryrot/api"
	"dryrot/disk"
	"dryrot/stripe"
	"dryrot/wal"
)

// anchorName is the pair that an anchor stands in.
const anchorName = "anchor"

// How many extents of the log may count, and how long a block's stream may be.
const (
	maxExtents = math.MaxInt32
	maxBytes   = math.MaxInt32
)

// Groups is all groups that count on a disk, in order.
func Groups(d *disk.Disk, a api.Anchor, l []api.Footer) []api.Group {
	if !isMade(d) || !anchor.Can(a) || a.Extents > maxExtents || !canCount(l) {
		return nil
	}
	manifest, tombstones := anchor.Names(a.Gen)
	groups := withPair(nil, anchorName, 1)
	groups = withPair(groups, manifest, extents(d, manifest))
	groups = withPair(groups, tombstones, extents(d, tombstones))
	groups = withPair(groups, wal.Name(a.Segment), a.Extents)
	for _, f := range l {
		groups = withBlock(groups, d, f)
	}
	return groups
}

// canCount tells whether the blocks' groups can be told: their names hang on their numbers, how many there are on their bytes.
func canCount(l []api.Footer) bool {
	for _, f := range l {
		if f.Number < 1 || f.Bytes < 0 || f.Bytes > maxBytes {
			return false
		}
	}
	return true
}

// extents is how many the longer file of a pair has; one at least, since a text that is gone altogether is one that is bad.
func extents(d *disk.Disk, name string) int {
	most := 1
	for _, file := range halves(name) {
		most = max(most, d.Extents(file))
	}
	return most
}

// withBlock is groups with those of a block behind them.
func withBlock(groups []api.Group, d *disk.Disk, f api.Footer) []api.Group {
	digits := strconv.Itoa(f.Number)
	groups = withPair(groups, "f"+digits, 1)
	groups = withPair(groups, "i"+digits, extents(d, "i"+digits))
	return withEach(groups, api.Group{Kind: api.GroupStripe, Name: "c" + digits, Gen: f.Gen}, stripe.Groups(f.Bytes))
}

// withPair is groups with the first ones of a pair behind them. A pair's groups are of any generation, so they name none.
func withPair(groups []api.Group, name string, count int) []api.Group {
	return withEach(groups, api.Group{Kind: api.GroupPair, Name: name}, count)
}

// withEach is groups with so many more that are as one, numbered from 0 on.
func withEach(groups []api.Group, one api.Group, count int) []api.Group {
	groups = slices.Grow(groups, count)
	for i := range count {
		one.Index = i
		groups = append(groups, one)
	}
	return groups
}
