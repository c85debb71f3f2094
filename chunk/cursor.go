package chunk

import (
	"bytes"
	"math"

	"dryrot/api"
)

// maxAt is the greatest place that a cursor begins at.
const maxAt = math.MaxInt32

// Cursor goes through a stream, chunk by chunk.
type Cursor struct {
	made bool // by Open
	rest []byte
	at   int // where rest begins
	err  api.Errno
}

// Open is one at the beginning of bytes that begin at a place of the stream. It copies them, since they stay the caller's.
func Open(b []byte, at int) *Cursor {
	return &Cursor{made: true, rest: bytes.Clone(b), at: min(max(at, 0), maxAt)}
}

// Next is the next chunk, and whether there is one. At what is no chunk the rest is given up, so that none comes behind it.
func (c *Cursor) Next() (api.Entry, []api.Sample, bool) {
	if c == nil || len(c.rest) == 0 {
		return api.Entry{}, nil, false
	}
	s, size, ok := takeChunk(c.rest)
	if !ok {
		c.rest, c.err = nil, api.ErrForm
		return api.Entry{}, nil, false
	}
	entry := api.Entry{Labels: s.Labels, At: c.at, Size: size, Min: s.Samples[0].T, Max: s.Samples[len(s.Samples)-1].T}
	c.rest = c.rest[size:]
	c.at += size
	return entry, s.Samples, true
}

// Err is what a cursor ended by.
func (c *Cursor) Err() api.Errno {
	if c == nil || !c.made {
		return api.ErrNil
	}
	return c.err
}
