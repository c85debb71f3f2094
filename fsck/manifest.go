package fsck

import (
	"dryrot/api"
	"dryrot/crc"
	"dryrot/plan"
)

// How a manifest's bytes are laid out: how many blocks there are, and of each as many words of one width as it has fields there.
const (
	maxBlocks  = 1000
	countWidth = 4
	wordWidth  = 8
	wordCount  = 7
	blockWidth = wordCount * wordWidth
)

// Manifest is a manifest's bytes.
func Manifest(l []api.Footer) ([]byte, api.Errno) {
	if len(l) > maxBlocks || !plan.Can(l) {
		return nil, api.ErrArg
	}
	b := crc.Put(uint64(len(l)), countWidth)
	for _, f := range l {
		for _, word := range [wordCount]int{f.Number, f.Rank, f.Gen, f.Level, f.Bytes, f.Min, f.Max} {
			b = append(b, crc.Put(uint64(word), wordWidth)...)
		}
	}
	return b, api.OK
}

// Read is the blocks that a manifest's bytes say. Each thing in them has one form alone, so what may be is what Manifest makes.
func Read(b []byte) ([]api.Footer, api.Errno) {
	if len(b) < countWidth {
		return nil, api.ErrForm
	}
	count, _ := crc.Get(b[:countWidth])
	if count > maxBlocks || len(b) != countWidth+int(count)*blockWidth {
		return nil, api.ErrForm
	}
	var l []api.Footer
	for rest := b[countWidth:]; len(rest) > 0; rest = rest[blockWidth:] {
		l = append(l, readBlock(rest))
	}
	if !plan.Can(l) {
		return nil, api.ErrForm
	}
	return l, api.OK
}

// readBlock is the block that bytes begin with.
func readBlock(b []byte) api.Footer {
	var words [wordCount]int
	for i := range words {
		word, _ := crc.Get(b[i*wordWidth : (i+1)*wordWidth])
		words[i] = int(word)
	}
	return api.Footer{
		Number: words[0],
		Rank:   words[1],
		Gen:    words[2],
		Level:  words[3],
		Bytes:  words[4],
		Min:    words[5],
		Max:    words[6],
	}
}
