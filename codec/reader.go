package codec

import (
	"dryrot/api"
	"dryrot/bits"
)

// reader goes through bits. Once something can't be read it is broken for good.
type reader struct {
	bits   api.Bits
	at     int
	broken bool
}

func readerOf(b []byte) reader {
	return reader{bits: api.Bits{B: b, N: len(b) * byteBits}}
}

// samples is as many as are asked for, or those ahead of the first one that can't be.
func (r *reader) samples(count int) []api.Sample {
	var l []api.Sample
	var ahead api.Sample
	step := 0
read:
	for i := range count {
		var s api.Sample
		switch i {
		case 0:
			s.T = int(r.take(wordBits))
			s.V = r.take(wordBits)
		default:
			step += r.takeInt()
			s.T = ahead.T + step
			s.V = ahead.V ^ r.takeTurned()
			if s.T <= ahead.T {
				break read
			}
		}
		if r.broken {
			break read
		}
		l = append(l, s)
		ahead = s
	}
	return l
}

// takeTurned takes which bits of a value are not those of the one ahead. The first and the last bit that it takes must be set, else there would be several forms of the same.
func (r *reader) takeTurned() uint64 {
	if r.take(1) == 0 {
		return 0
	}
	high := int(r.take(sizeBits))
	count := int(r.take(sizeBits)) + 1
	turned := r.take(count)
	low := wordBits - high - count
	if low < 0 || turned>>(count-1) != 1 || turned&1 != 1 {
		r.broken = true
		return 0
	}
	return turned << low
}

func (r *reader) take(count int) uint64 {
	n, e := bits.Take(r.bits, r.at, count)
	r.goOn(r.at+count, e)
	return n
}

func (r *reader) takeInt() int {
	n, behind, e := bits.TakeInt(r.bits, r.at)
	r.goOn(behind, e)
	return n
}

// goOn goes behind what was read, if it could be.
func (r *reader) goOn(behind int, e api.Errno) {
	if e != api.OK {
		r.broken = true
		return
	}
	r.at = behind
}

// atEnd tells whether nothing is left but noughts up to a whole byte.
func (r *reader) atEnd() bool {
	left := r.bits.N - r.at
	return left < byteBits && r.take(left) == 0
}
