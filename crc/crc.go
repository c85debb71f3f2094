// Package crc is layer 1: see ../../shared/doc/01-crc.md.
package crc

// maxWidth is how many bytes a number of 64 bits has.
const maxWidth = 8

// steps is what two bits that are shifted out xor into the register: both shifts of the polynomial 82f63b78 at once, so that a byte takes four steps.
var steps = [4]uint32{0x00000000, 0x417b1dbc, 0x82f63b78, 0xc38d26c4}

// Sum is the CRC-32C of bytes; no bytes have the sum 0, so all of them stand behind that.
func Sum(b []byte) uint32 { return More(0, b) }

// More is the CRC-32C of any bytes with that sum, and b behind them: turning the sum's bits gives back the register that it ended with.
func More(sum uint32, b []byte) uint32 {
	register := ^sum
	for _, c := range b {
		register = shiftByte(register ^ uint32(c))
	}
	return ^register
}

func shiftByte(register uint32) uint32 {
	for range 4 {
		register = register>>2 ^ steps[register&3]
	}
	return register
}

// Put is n's lowest width bytes, the highest first.
func Put(n uint64, width int) []byte {
	width = min(max(width, 0), maxWidth)
	b := make([]byte, width)
	for i := width - 1; i >= 0; i-- {
		b[i] = byte(n)
		n >>= 8
	}
	return b
}

// Get is the number that 1 to 8 bytes say, the highest first.
func Get(b []byte) (uint64, bool) {
	if len(b) == 0 || len(b) > maxWidth {
		return 0, false
	}
	n := uint64(0)
	for _, c := range b {
		n = n<<8 | uint64(c)
	}
	return n, true
}
