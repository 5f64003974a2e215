package wire

// The sum's register holds a polynomial over two numbers, the highest bit for x to the power 0.
const (
	folded  = 0x82F63B78 // what is laid over the register where a bit goes out
	oneByte = 1 << 23    // x to the power 8: what a byte 0 multiplies the register by
)

// fourSteps is, of each four lowest bits, what four steps lay over the register.
var fourSteps = [16]uint32{
	0x00000000, 0x105EC76F, 0x20BD8EDE, 0x30E349B1,
	0x417B1DBC, 0x5125DAD3, 0x61C69362, 0x7198540D,
	0x82F63B78, 0x92A8FC17, 0xA24BB5A6, 0xB21572C9,
	0xC38D26C4, 0xD3D3E1AB, 0xE330A81A, 0xF36E6F75,
}

// Sum is the check sum of bytes.
func Sum(s string) uint32 { return On(0, s) }

// On is the check sum of bytes with that sum and these behind them.
func On(sum uint32, s string) uint32 {
	register := ^sum
	for i := range len(s) {
		register ^= uint32(s[i])
		register = register>>4 ^ fourSteps[register&15]
		register = register>>4 ^ fourSteps[register&15]
	}
	return ^register
}

// Joined is the check sum of bytes with the sum a and n bytes with the sum b behind them.
func Joined(a, b uint32, n int) uint32 {
	// In On(a, z) ^ On(0, z) the turned bits cancel out: what is left is a times oneByte to the power n,
	// and the power is reached by squares, for n may be far too great to be counted down.
	square := uint32(oneByte)
	for n > 0 {
		if n&1 != 0 {
			a = product(a, square)
		}
		square = product(square, square)
		n >>= 1
	}
	return a ^ b
}

// product multiplies two registers.
func product(a, b uint32) uint32 {
	var p uint32
	for b != 0 {
		if b&(1<<31) != 0 {
			p ^= a
		}
		b <<= 1
		a = oneStep(a)
	}
	return p
}

// oneStep is a register one step on: times x.
func oneStep(register uint32) uint32 {
	if register&1 != 0 {
		return register>>1 ^ folded
	}
	return register >> 1
}
