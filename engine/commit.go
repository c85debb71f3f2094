package engine

import (
	"slices"

	"dryrot/anchor"
	"dryrot/api"
	"dryrot/block"
	"dryrot/disk"
	"dryrot/pair"
	"dryrot/tomb"
	"dryrot/wal"
)

// draft is a block that is to be written.
type draft struct {
	footer  api.Footer
	series  []api.Series
	extents int
	code    api.Errno // why there can be no such block: then footer has as much room in a manifest
}

// draftOf is the block of series that is shaped so. One that has no index, since it has too many chunks for one, is beyond what a disk has room for.
func draftOf(shape api.Footer, l []api.Series) *draft {
	f, code := block.Make(l, shape.Number, shape.Gen, shape.Level, shape.Rank, shape.Parents)
	if code != api.OK {
		return &draft{footer: shape, code: code}
	}
	need := block.Need(l)
	if need == 0 {
		return &draft{footer: shape, code: api.ErrFull}
	}
	return &draft{footer: f, series: l, extents: need}
}

func (b *draft) write(d *disk.Disk) api.Errno { return block.Write(d, b.footer, b.series) }

// bare is a block's footer as a manifest has it.
func (b *draft) bare() api.Footer {
	f := b.footer
	f.Parents = nil
	return f
}

// commit has what turn makes of the state be what counts, on the disk and in memory; a block that is new there is written ahead of it (nil: none is). The anchor is saved between what is written and what is removed, so that at any stop all that it tells of is there.
func (c *change) commit(fresh *draft, turn func()) (err error) {
	was := *c.state
	defer c.back(was, &err)
	c.Gen++
	turn()
	c.deletes = tomb.Prune(c.deletes, ranksOf(c.blocks))
	c.ledger = ledgerOf(c.ledger, c.blocks)
	t, code := c.texts()
	if code != api.OK {
		return code
	}
	need := t.need()
	steps := []step{t.storeTombstones, t.storeManifest}
	if fresh != nil {
		c.Next++
		need += fresh.extents
		steps = slices.Insert(steps, 0, fresh.write)
	}
	if c.disk.Free() < need {
		return api.ErrFull
	}
	if fresh != nil && fresh.code != api.OK {
		return fresh.code
	}
	if err := c.all(steps...); err != nil {
		return err
	}
	if err := c.save(); err != nil {
		return err
	}
	return c.all(c.removals(was)...)
}

// removals is the removing of what counted and counts no more.
func (c *change) removals(was state) []step {
	manifest, tombstones := anchor.Names(was.Gen)
	steps := []step{dropping(manifest), dropping(tombstones)}
	if was.Segment != c.Segment {
		steps = append(steps, dropping(wal.Name(was.Segment)))
	}
	for _, f := range was.blocks {
		if place(c.blocks, f.Number) < 0 {
			steps = append(steps, func(d *disk.Disk) api.Errno { return block.Drop(d, f.Number) })
		}
	}
	return steps
}

func dropping(name string) step {
	return func(d *disk.Disk) api.Errno { return pair.Drop(d, name) }
}

// place is where the block of a number stands among blocks; -1, if there is none.
func place(l []api.Footer, number int) int {
	return slices.IndexFunc(l, func(f api.Footer) bool { return f.Number == number })
}

func ranksOf(l []api.Footer) []int {
	var ranks []int
	for _, f := range l {
		ranks = append(ranks, f.Rank)
	}
	return ranks
}

// ledgerOf is a ledger without files that are none of the blocks'.
func ledgerOf(ledger []api.Spot, l []api.Footer) []api.Spot {
	files := blockFiles(l)
	var held []api.Spot
	for _, spot := range ledger {
		if isAmong(files, spot.Name) {
			held = append(held, spot)
		}
	}
	return held
}
