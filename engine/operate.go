package engine

import (
	"slices"

	"dryrot/anchor"
	"dryrot/api"
	"dryrot/plan"
	"dryrot/record"
	"dryrot/wal"
)

// maxDeletes is how many deletes there are at most.
const maxDeletes = 10000

// operate has an operation count: its record stands in the log, then the anchor tells of that, then it is done in memory. What is done there is read from the record, as it will be by who opens the disk. Nothing must be undone: an error ahead of the log's first extent has turned nothing, any other one stops the engine.
func (c *change) operate(o api.Op) error {
	rec, code := record.Encode(o)
	if code != api.OK {
		return code
	}
	if slices.ContainsFunc(o.Rows, c.isOld) {
		return api.ErrOld
	}
	if !c.hasRoom(o.Kind, len(rec)) {
		return api.ErrFull
	}
	count, code := wal.Append(c.disk, c.Segment, c.Extents, c.LSN+1, rec)
	if err := c.did(code == api.OK || c.hasBegun(), code); err != nil {
		return err
	}
	c.LSN++
	c.Extents += count
	c.reckon(o)
	if err := c.save(); err != nil {
		return err
	}
	own, _ := record.Decode(rec)
	c.do(own)
	return nil
}

func (s *state) isOld(row api.Row) bool { return row.T < s.Floor }

// hasRoom tells whether an operation of a record's size may be taken. Appends leave room that deletes, and what makes room again, can have.
func (c *change) hasRoom(kind, size int) bool {
	need := pairWidth * wal.Need(size)
	switch kind {
	case api.OpAppend:
		need += api.Reserve
	case api.OpDelete:
		if len(c.deletes) >= maxDeletes {
			return false
		}
	}
	return c.disk.Free() >= need
}

// pairWidth is how many files a pair has.
const pairWidth = 2

// hasBegun tells, of a record that was refused, whether its first extent was written: then the log's first file goes on behind the extents that count.
func (c *change) hasBegun() bool {
	return c.disk.Extents(pairFiles(wal.Name(c.Segment))[0]) > c.Extents
}

// reckon has newest time, floor and how long samples are kept be as an operation has them.
func (s *state) reckon(o api.Op) {
	switch o.Kind {
	case api.OpAppend:
		for _, row := range o.Rows {
			s.Newest = max(s.Newest, row.T)
		}
	case api.OpKeep:
		s.Keep = o.Keep
	default:
		return
	}
	s.Floor = plan.Floor(s.Floor, s.Newest, s.Keep)
}

// save has the anchor on the disk be the one in memory.
func (c *change) save() error {
	a, code := anchor.Save(c.disk, c.Anchor)
	if err := c.did(code == api.OK, code); err != nil {
		return err
	}
	c.Anchor = a
	return nil
}

// do does an operation in memory. The blocks are left as they are: a delete stands beside them.
func (s *state) do(o api.Op) {
	switch o.Kind {
	case api.OpAppend:
		s.head.Append(o.Rows)
		s.head.Raise(s.Floor)
	case api.OpDelete:
		s.head.Delete(o.Matchers, o.From, o.To)
		if n := len(s.blocks); n > 0 {
			s.deletes = append(s.deletes, api.Delete{Matchers: o.Matchers, From: o.From, To: o.To, Upto: s.blocks[n-1].Rank})
		}
	case api.OpKeep:
		s.head.Raise(s.Floor)
	}
}
