// Package bits is layer 2: see ../../shared/doc/02-bits.md.
package bits

import (
	"dryrot/api"
)

// wordBits is the most bits that one call puts or takes.
const wordBits = 64

// lastClass is the class of the numbers that no other class has.
const lastClass = 4

// class is how a number of it is written: the bits ahead that say which class it is, how many they are, and how many bits of the number stand behind them.
type class struct {
	mark  uint64
	marks int
	width int
}

var classes = [lastClass + 1]class{
	{0b0, 1, 0},
	{0b10, 2, 7},
	{0b110, 3, 12},
	{0b1110, 4, 32},
	{0b1111, 4, wordBits},
}

// Put is x, and the lowest count bits of n behind it, the highest first.
func Put(x api.Bits, n uint64, count int) (api.Bits, api.Errno) {
	if !Can(x) || !isCount(count) {
		return api.Bits{}, api.ErrArg
	}
	y := longer(x, count)
	lay(y.B, x.N, n, count)
	return y, api.OK
}

// Take is the count bits at a place.
func Take(x api.Bits, at, count int) (uint64, api.Errno) {
	if !Can(x) || !isCount(count) || !isPlace(x, at) {
		return 0, api.ErrArg
	}
	if x.N-at < count {
		return 0, api.ErrShort
	}
	n := uint64(0)
	for i := at; i < at+count; i++ {
		n = n<<1 | uint64(x.B[i/8]>>(7-i%8)&1)
	}
	return n, api.OK
}

// PutInt is x, and a number behind it, in the least class that has it.
func PutInt(x api.Bits, n int) (api.Bits, api.Errno) {
	if !Can(x) {
		return api.Bits{}, api.ErrArg
	}
	c := classes[leastClass(n)]
	y := longer(x, c.marks+c.width)
	lay(y.B, x.N, c.mark, c.marks)
	lay(y.B, x.N+c.marks, uint64(n), c.width)
	return y, api.OK
}

// TakeInt is the number at a place, and the place behind it.
func TakeInt(x api.Bits, at int) (int, int, api.Errno) {
	if !Can(x) || !isPlace(x, at) {
		return 0, 0, api.ErrArg
	}
	number, e := classAt(x, at)
	if e != api.OK {
		return 0, 0, e
	}
	c := classes[number]
	word, e := Take(x, at+c.marks, c.width)
	if e != api.OK {
		return 0, 0, e
	}
	n := signed(word, c.width)
	if leastClass(n) != number {
		return 0, 0, api.ErrForm
	}
	return n, at + c.marks + c.width, api.OK
}

// Can tells whether bits may be: anything else would have two forms of the same bits.
func Can(x api.Bits) bool {
	if x.N < 0 || len(x.B) != bytesOf(x.N) {
		return false
	}
	over := x.N % 8
	return over == 0 || x.B[len(x.B)-1]&(0xff>>over) == 0
}

func isCount(count int) bool { return count >= 0 && count <= wordBits }

func isPlace(x api.Bits, at int) bool { return at >= 0 && at <= x.N }

// bytesOf divides ahead of rounding up: a huge count must not wrap round.
func bytesOf(count int) int {
	if count%8 == 0 {
		return count / 8
	}
	return count/8 + 1
}

// longer is x in new memory, with count noughts behind it.
func longer(x api.Bits, count int) api.Bits {
	b := make([]byte, bytesOf(x.N+count))
	copy(b, x.B)
	return api.Bits{B: b, N: x.N + count}
}

// lay sets bits only: where they go there are noughts.
func lay(b []byte, at int, n uint64, count int) {
	for i := at + count - 1; i >= at; i-- {
		b[i/8] |= byte(n&1) << (7 - i%8)
		n >>= 1
	}
}

// leastClass counts the classes that are too narrow: what is too great for one is so for each lesser one, so the cases fall through.
func leastClass(n int) int {
	narrow := 0
	switch {
	case n < -1<<31 || n > 1<<31-1:
		narrow++
		fallthrough
	case n < -2048 || n > 2047:
		narrow++
		fallthrough
	case n < -64 || n > 63:
		narrow++
		fallthrough
	case n != 0:
		narrow++
	}
	return narrow
}

// classAt counts the ones at a place; the last class has no nought behind them.
func classAt(x api.Bits, at int) (int, api.Errno) {
	for number := range lastClass {
		bit, e := Take(x, at+number, 1)
		if e != api.OK {
			return 0, e
		}
		if bit == 0 {
			return number, api.OK
		}
	}
	return lastClass, api.OK
}

// signed moves the number's highest bit to the top, so that shifting back repeats it.
func signed(word uint64, width int) int {
	return int(word<<(wordBits-width)) >> (wordBits - width)
}
