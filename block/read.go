package block

import (
	"cmp"
	"slices"

	"dryrot/api"
	"dryrot/chunk"
	"dryrot/disk"
	"dryrot/index"
	"dryrot/labels"
	"dryrot/match"
	"dryrot/pair"
	"dryrot/stripe"
)

// Select is the series of a block that matchers fit, with the samples of a range.
func Select(d *disk.Disk, f api.Footer, m []api.Matcher, from, to int) ([]api.Series, api.Errno) {
	if !isMade(d) {
		return nil, api.ErrNil
	}
	if !can(f) || !match.Can(m) {
		return nil, api.ErrArg
	}
	if from > to || f.Bytes == 0 {
		return nil, api.OK
	}
	entries, ok := entriesOf(d, f)
	if !ok {
		return nil, api.ErrLost
	}
	var found []api.Series
	for _, place := range index.Find(entries, m, from, to) {
		samples, ok := samplesOf(d, f, entries[place])
		if !ok {
			return nil, api.ErrLost
		}
		found = append(found, api.Series{Labels: entries[place].Labels, Samples: between(samples, from, to)})
	}
	return chunk.Join(found), api.OK
}

// Index writes a block's index anew, if it can't be read: whether it wrote.
func Index(d *disk.Disk, f api.Footer) (bool, api.Errno) {
	if !isMade(d) {
		return false, api.ErrNil
	}
	if !can(f) {
		return false, api.ErrArg
	}
	if _, ok := readEntries(d, f); ok {
		return false, api.OK
	}
	entries, ok := builtEntries(d, f)
	if !ok {
		return false, api.ErrLost
	}
	b, _ := index.Encode(entries)
	if e := pair.Store(d, indexName(f.Number), f.Gen, b); e != api.OK {
		return false, e
	}
	return true, api.OK
}

// entriesOf is a block's entries, as the index has them or else as the stream says; false, if neither can be read.
func entriesOf(d *disk.Disk, f api.Footer) ([]api.Entry, bool) {
	if entries, ok := readEntries(d, f); ok {
		return entries, true
	}
	return builtEntries(d, f)
}

// readEntries is the entries that the index has; false, if it can't be read, or is not that of a stream of the block's length.
func readEntries(d *disk.Disk, f api.Footer) ([]api.Entry, bool) {
	b, e := pair.Load(d, indexName(f.Number), f.Gen)
	if e != api.OK {
		return nil, false
	}
	entries, e := index.Decode(b)
	if e != api.OK || sizeOf(entries) != f.Bytes {
		return nil, false
	}
	return entries, true
}

// sizeOf is how long a stream of these entries is.
func sizeOf(entries []api.Entry) int {
	size := 0
	for _, entry := range entries {
		size += entry.Size
	}
	return size
}

// builtEntries is the entries that the whole stream has.
func builtEntries(d *disk.Disk, f api.Footer) ([]api.Entry, bool) {
	stream, e := stripe.Part(d, streamName(f.Number), f.Gen, 0, f.Bytes)
	if e != api.OK {
		return nil, false
	}
	entries, e := index.Build(stream)
	return entries, e == api.OK
}

// samplesOf is the samples of an entry's chunk. An index is asked by the chunk itself whether it says what stands there; a chunk as long as the entry leaves no room for another one.
func samplesOf(d *disk.Disk, f api.Footer, entry api.Entry) ([]api.Sample, bool) {
	b, e := stripe.Part(d, streamName(f.Number), f.Gen, entry.At, entry.Size)
	if e != api.OK {
		return nil, false
	}
	stands, samples, ok := chunk.Open(b, entry.At).Next()
	return samples, ok && isSame(stands, entry)
}

func isSame(a, b api.Entry) bool {
	return a.At == b.At && a.Size == b.Size && a.Min == b.Min && a.Max == b.Max && labels.Compare(a.Labels, b.Labels) == 0
}

// between is the samples of a range, of those of a chunk. What is cut ends where it is cut, so that nothing put behind it goes over the chunk's further samples.
func between(samples []api.Sample, from, to int) []api.Sample {
	low, _ := slices.BinarySearchFunc(samples, from, compareTime)
	high, isThere := slices.BinarySearchFunc(samples, to, compareTime)
	if isThere {
		high++
	}
	return samples[low:high:high]
}

func compareTime(s api.Sample, t int) int { return cmp.Compare(s.T, t) }
