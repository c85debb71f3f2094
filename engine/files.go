package engine

import (
	"slices"
	"strconv"

	"dryrot/anchor"
	"dryrot/api"
	"dryrot/disk"
	"dryrot/scrub"
	"dryrot/wal"
)

// Where an anchor stands: a pair's name, and the number of its extent.
const (
	anchorName  = "anchor"
	anchorIndex = 0
)

func streamName(number int) string { return "c" + strconv.Itoa(number) }

func indexName(number int) string { return "i" + strconv.Itoa(number) }

func footerName(number int) string { return "f" + strconv.Itoa(number) }

// filesOf is the files that groups of a kind and a name stand in.
func filesOf(kind int, name string) []string {
	var files []string
	for _, spot := range scrub.Spots(api.Group{Kind: kind, Name: name}) {
		files = append(files, spot.Name)
	}
	return files
}

// pairFiles is the files of pairs.
func pairFiles(names ...string) []string {
	var files []string
	for _, name := range names {
		files = append(files, filesOf(api.GroupPair, name)...)
	}
	return files
}

// blockFiles is the files of blocks, rising.
func blockFiles(l []api.Footer) []string {
	var files []string
	for _, f := range l {
		files = append(files, filesOf(api.GroupStripe, streamName(f.Number))...)
		files = append(files, pairFiles(indexName(f.Number), footerName(f.Number))...)
	}
	slices.Sort(files)
	return files
}

// files is all files that count, rising.
func (s *state) files() []string {
	manifest, tombstones := anchor.Names(s.Gen)
	files := append(blockFiles(s.blocks), pairFiles(anchorName, manifest, tombstones, wal.Name(s.Segment))...)
	slices.Sort(files)
	return files
}

// isAmong tells whether a file is one of those that rise.
func isAmong(files []string, file string) bool {
	_, found := slices.BinarySearch(files, file)
	return found
}

// removeAll removes files, one behind the other.
func removeAll(d *disk.Disk, files []string) api.Errno {
	for _, file := range files {
		if code := d.Remove(file); code != api.OK {
			return code
		}
	}
	return api.OK
}
