package engine

import (
	"dryrot/anchor"
	"dryrot/api"
	"dryrot/disk"
	"dryrot/fsck"
	"dryrot/pair"
	"dryrot/tomb"
)

// texts is what a generation has of its own: manifest and tombstones.
type texts struct {
	gen                  int
	manifest, tombstones []byte
}

// texts is the state's. There are more deletes than tombstones may have, if a log was read again behind a commit that left it as it was.
func (s *state) texts() (texts, api.Errno) {
	if len(s.deletes) > maxDeletes {
		return texts{}, api.ErrFull
	}
	tombstones, code := tomb.Encode(s.deletes, s.ledger)
	if code != api.OK {
		return texts{}, code
	}
	manifest, code := fsck.Manifest(s.blocks)
	if code != api.OK {
		return texts{}, code
	}
	return texts{gen: s.Gen, manifest: manifest, tombstones: tombstones}, api.OK
}

// need is how many extents both have.
func (t texts) need() int { return pair.Need(len(t.manifest)) + pair.Need(len(t.tombstones)) }

func (t texts) storeTombstones(d *disk.Disk) api.Errno {
	_, name := anchor.Names(t.gen)
	return pair.Store(d, name, t.gen, t.tombstones)
}

func (t texts) storeManifest(d *disk.Disk) api.Errno {
	name, _ := anchor.Names(t.gen)
	return pair.Store(d, name, t.gen, t.manifest)
}
