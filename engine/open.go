package engine

import (
	"slices"

	"dryrot/anchor"
	"dryrot/api"
	"dryrot/disk"
	"dryrot/fsck"
	"dryrot/head"
	"dryrot/pair"
	"dryrot/record"
	"dryrot/tomb"
	"dryrot/wal"
)

// newExtents is how many extents a new store has: two of each of anchor, manifest and tombstones.
const newExtents = 6

// Open opens a disk's.
func Open(d *disk.Disk) (*Engine, api.Errno) {
	var s *state
	a, code := anchor.Load(d)
	switch {
	case code == api.OK:
		s, code = reopen(d, a)
	case code == api.ErrAnchor && isNew(d):
		s, code = create(d)
	}
	if code != api.OK {
		return nil, code
	}
	return &Engine{disk: d, state: s}, api.OK
}

// isNew tells whether a disk has nothing but what the making of a new store may have left.
func isNew(d *disk.Disk) bool {
	manifest, tombstones := anchor.Names(anchor.Fresh().Gen)
	first := pairFiles(anchorName, manifest, tombstones)
	for _, file := range d.List() {
		if !slices.Contains(first, file) {
			return false
		}
	}
	return true
}

// create makes a new store. The anchor comes last, so that there is none till all that it tells of is there.
func create(d *disk.Disk) (*state, api.Errno) {
	files := d.List()
	room := d.Free()
	for _, file := range files {
		room += d.Extents(file)
	}
	if room < newExtents {
		return nil, api.ErrFull
	}
	if code := removeAll(d, files); code != api.OK {
		return nil, code
	}
	s := &state{Anchor: anchor.Fresh(), head: head.New()}
	t, _ := s.texts()
	if code := t.storeTombstones(d); code != api.OK {
		return nil, code
	}
	if code := t.storeManifest(d); code != api.OK {
		return nil, code
	}
	a, code := anchor.Save(d, s.Anchor)
	s.Anchor = a
	return s, code
}

// reopen is what stands on a disk whose anchor is this one. Nothing but the anchor is turned till all that counts has been read.
func reopen(d *disk.Disk, a api.Anchor) (*state, api.Errno) {
	if code := settle(d); code != api.OK {
		return nil, code
	}
	s := &state{Anchor: a, head: head.New()}
	operations, code := s.load(d)
	if code != api.OK {
		return nil, code
	}
	files := s.files()
	orphans := slices.DeleteFunc(d.List(), func(file string) bool { return isAmong(files, file) })
	if code := removeAll(d, orphans); code != api.OK {
		return nil, code
	}
	for _, o := range operations {
		s.do(o)
	}
	s.head.Raise(s.Floor)
	return s, api.OK
}

// settle has both files of the anchor hold it, durably: a disk that stopped without a crash may read what still waits.
func settle(d *disk.Disk) api.Errno {
	if _, code := pair.Mend(d, anchorName, anchorIndex); code != api.OK {
		return code
	}
	for _, file := range pairFiles(anchorName) {
		if code := d.Sync(file); code != api.OK {
			return code
		}
	}
	return api.OK
}

// load reads what the anchor tells of: blocks, deletes and ledger into the state, and the log's operations.
func (s *state) load(d *disk.Disk) ([]api.Op, api.Errno) {
	manifest, tombstones := anchor.Names(s.Gen)
	b, code := pair.Load(d, manifest, s.Gen)
	if code != api.OK {
		return nil, api.ErrManifest
	}
	if s.blocks, code = fsck.Read(b); code != api.OK {
		return nil, api.ErrManifest
	}
	if b, code = pair.Load(d, tombstones, s.Gen); code != api.OK {
		return nil, api.ErrTombs
	}
	if s.deletes, s.ledger, code = tomb.Decode(b); code != api.OK {
		return nil, api.ErrTombs
	}
	return s.operations(d)
}

// operations is those that the log tells of.
func (s *state) operations(d *disk.Disk) ([]api.Op, api.Errno) {
	records, code := wal.Read(d, s.Segment, s.Extents)
	if code != api.OK {
		return nil, api.ErrWal
	}
	var l []api.Op
	for _, rec := range records {
		o, code := record.Decode(rec)
		if code != api.OK {
			return nil, api.ErrWal
		}
		l = append(l, o)
	}
	return l, api.OK
}
