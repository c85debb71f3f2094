package anchor

import (
	"dryrot/api"
	"dryrot/crc"
)

// An anchor's fields, in the order in which its bytes have them.
const (
	seqField = iota
	genField
	lsnField
	segmentField
	extentsField
	floorField
	newestField
	keepField
	nextField
	cursorField
	fieldCount
)

// fieldWidth is how many bytes a field has.
const fieldWidth = 8

// fields is an anchor as numbers in their order, so that writing and reading go by one list.
type fields [fieldCount]int

func fieldsOf(a api.Anchor) fields {
	return fields{
		seqField:     a.Seq,
		genField:     a.Gen,
		lsnField:     a.LSN,
		segmentField: a.Segment,
		extentsField: a.Extents,
		floorField:   a.Floor,
		newestField:  a.Newest,
		keepField:    a.Keep,
		nextField:    a.Next,
		cursorField:  a.Cursor,
	}
}

func (f fields) anchor() api.Anchor {
	return api.Anchor{
		Seq:     f[seqField],
		Gen:     f[genField],
		LSN:     f[lsnField],
		Segment: f[segmentField],
		Extents: f[extentsField],
		Floor:   f[floorField],
		Newest:  f[newestField],
		Keep:    f[keepField],
		Next:    f[nextField],
		Cursor:  f[cursorField],
	}
}

// words is numbers as bytes, one behind the other; below 0 as two's complement.
func words(numbers ...int) []byte {
	var b []byte
	for _, n := range numbers {
		b = append(b, crc.Put(uint64(n), fieldWidth)...)
	}
	return b
}

// read is the fields that bytes say, which must be as many as all fields have.
func read(b []byte) fields {
	var f fields
	for i := range f {
		word, _ := crc.Get(b[i*fieldWidth : (i+1)*fieldWidth])
		f[i] = int(word)
	}
	return f
}
