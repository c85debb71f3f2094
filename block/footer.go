package block

import (
	"math"

	"dryrot/api"
	"dryrot/crc"
)

// How long a block's stream is at most, and how many parents it has.
const (
	maxBytes   = math.MaxInt32
	maxParents = 3
)

// How a footer's bytes are laid out: words of one width, how many parents there are, and a word of each.
const (
	wordWidth  = 8
	wordCount  = 7
	countAt    = wordCount * wordWidth
	parentsAt  = countAt + 1
	maxFooter  = parentsAt + maxParents*wordWidth
	countWidth = parentsAt - countAt
)

// can tells whether a footer may be.
func can(f api.Footer) bool {
	return isNumber(f.Number) && isNumber(f.Gen) && isNumber(f.Rank) &&
		f.Level >= 1 && f.Level <= api.MaxLevel &&
		f.Bytes >= 0 && f.Bytes <= maxBytes &&
		canSpan(f) && canParents(f.Parents)
}

// canSpan tells whether a footer's times may be: a block of nothing has none.
func canSpan(f api.Footer) bool {
	if f.Bytes == 0 {
		return f.Min == 0 && f.Max == 0
	}
	return f.Min <= f.Max
}

func canParents(l []int) bool {
	for _, parent := range l {
		if !isNumber(parent) {
			return false
		}
	}
	return len(l) <= maxParents
}

func isNumber(n int) bool { return n >= 1 && n <= api.MaxNumber }

// Encode is a footer's bytes.
func Encode(f api.Footer) ([]byte, api.Errno) {
	if !can(f) {
		return nil, api.ErrArg
	}
	words := [wordCount]int{f.Number, f.Gen, f.Level, f.Rank, f.Min, f.Max, f.Bytes}
	b := putWords(nil, words[:])
	b = append(b, crc.Put(uint64(len(f.Parents)), countWidth)...)
	return putWords(b, f.Parents), api.OK
}

// putWords is numbers as bytes behind others; below 0 as two's complement.
func putWords(b []byte, l []int) []byte {
	for _, n := range l {
		b = append(b, crc.Put(uint64(n), wordWidth)...)
	}
	return b
}

// Decode is the footer that bytes say.
func Decode(b []byte) (api.Footer, api.Errno) {
	if len(b) < parentsAt || len(b) != parentsAt+int(b[countAt])*wordWidth {
		return api.Footer{}, api.ErrForm
	}
	words := takeWords(b[:countAt:countAt])
	f := api.Footer{
		Number:  words[0],
		Gen:     words[1],
		Level:   words[2],
		Rank:    words[3],
		Min:     words[4],
		Max:     words[5],
		Bytes:   words[6],
		Parents: takeWords(b[parentsAt:]),
	}
	if !can(f) {
		return api.Footer{}, api.ErrForm
	}
	return f, api.OK
}

// takeWords is the numbers that bytes say, which must be whole words.
func takeWords(b []byte) []int {
	var l []int
	for ; len(b) > 0; b = b[wordWidth:] {
		word, _ := crc.Get(b[:wordWidth])
		l = append(l, int(word))
	}
	return l
}
