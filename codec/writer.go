package codec

import (
	mathbits "math/bits"

	"dryrot/api"
	"dryrot/bits"
)

// byteBits is how many bits a byte has.
const byteBits = 8

// writer puts bits one behind another. Those that make no whole byte yet are kept apart, since bits copies all that stands ahead of what it puts.
type writer struct {
	whole []byte
	tail  api.Bits
}

func (w *writer) put(n uint64, count int) {
	x, _ := bits.Put(w.tail, n, count)
	w.part(x)
}

func (w *writer) putInt(n int) {
	x, _ := bits.PutInt(w.tail, n)
	w.part(x)
}

// putTurned puts which bits of a value are not those of the one ahead.
func (w *writer) putTurned(turned uint64) {
	if turned == 0 {
		w.put(0, 1)
		return
	}
	high, low := mathbits.LeadingZeros64(turned), mathbits.TrailingZeros64(turned)
	count := wordBits - high - low
	w.put(1, 1)
	w.put(uint64(high), sizeBits)
	w.put(uint64(count-1), sizeBits)
	w.put(turned>>low, count)
}

// part moves the whole bytes of a tail to those ahead of it.
func (w *writer) part(tail api.Bits) {
	full := tail.N / byteBits
	w.whole = append(w.whole, tail.B[:full]...)
	w.tail = api.Bits{B: tail.B[full:], N: tail.N % byteBits}
}

// bytes is all that was put, with noughts up to a whole byte.
func (w *writer) bytes() []byte { return append(w.whole, w.tail.B...) }
