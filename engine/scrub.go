package engine

import (
	"dryrot/anchor"
	"dryrot/api"
	"dryrot/block"
	"dryrot/disk"
	"dryrot/pair"
	"dryrot/scrub"
	"dryrot/wal"
)

// maxLedger is how many extents a ledger has at most.
const maxLedger = 10000

// scrub looks after the group at the cursor, and has that go on. An error that does not stop the engine is told at the end: a group that can't be looked after must not keep the scrubber from all others.
func (c *change) scrub() error {
	groups := scrub.Groups(c.disk, c.Anchor, c.blocks)
	late := c.lookAfter(groups[c.Cursor%len(groups)])
	if stops(late) {
		return late
	}
	if err := c.goOn(len(groups)); err != nil {
		return err
	}
	return late
}

// goOn has the cursor stand at the next one of so many groups.
func (c *change) goOn(groups int) (err error) {
	defer c.back(*c.state, &err)
	c.Cursor = (c.Cursor + 1) % groups
	return c.save()
}

// lookAfter puts a group right, from what is left of it or else from memory.
func (c *change) lookAfter(g api.Group) error {
	wrote, code := scrub.Mend(c.disk, g)
	if code != api.ErrLost {
		return c.did(wrote, code)
	}
	manifest, tombstones := anchor.Names(c.Gen)
	switch {
	case g.Kind == api.GroupStripe:
		return c.note(g)
	case g.Name == anchorName: // it is saved behind this
		return nil
	case g.Name == manifest || g.Name == tombstones:
		return c.commit(nil, func() {})
	case g.Name == wal.Name(c.Segment):
		return c.cut()
	}
	return c.restore(g.Name)
}

// note has a group's extents stand in the ledger.
func (c *change) note(g api.Group) error {
	ledger := scrub.Note(c.ledger, scrub.Spots(g), true)
	if len(ledger) <= len(c.ledger) || len(ledger) > maxLedger {
		return nil
	}
	return c.commit(nil, func() { c.ledger = ledger })
}

// restore writes a block's footer or index anew.
func (c *change) restore(name string) error {
	for _, f := range c.blocks {
		switch name {
		case footerName(f.Number):
			return c.restoreFooter(f)
		case indexName(f.Number):
			return c.redo(func(d *disk.Disk) (bool, api.Errno) { return makeIndex(d, f) })
		}
	}
	return nil
}

func (c *change) restoreFooter(f api.Footer) error {
	b, code := block.Encode(f)
	if code != api.OK {
		return code
	}
	return c.redo(func(d *disk.Disk) (bool, api.Errno) {
		return true, pair.Store(d, footerName(f.Number), f.Gen, b)
	})
}

// makeIndex writes an index anew. One that can't be made is left: its stream is noted in the ledger, and told as a gap.
func makeIndex(d *disk.Disk, f api.Footer) (bool, api.Errno) {
	wrote, code := block.Index(d, f)
	if code == api.ErrLost || code == api.ErrArg {
		return false, api.OK
	}
	return wrote, code
}

// redo writes what is written in the place of something that is removed first. It is done to a copy ahead of the disk, since a disk that turns out full on the way has lost what was there.
func (c *change) redo(write func(d *disk.Disk) (bool, api.Errno)) error {
	if _, code := write(c.disk.Copy()); code == api.ErrFull {
		return code
	}
	return c.did(write(c.disk))
}
