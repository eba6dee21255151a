// Package crc is layer 1 (checksums): see shared/doc/01-crc.md.
package crc

const (
	initial16    = 0xFFFF
	polynomial16 = 0x1021
	// polynomial32 is written with its bits reversed, because Update32 shifts to the right.
	polynomial32 = 0x82F63B78
)

// Sum16 returns the CRC-16-CCITT of b (polynomial 1021, initial value FFFF, hexadecimal).
func Sum16(b []byte) uint16 { return Update16(initial16, b) }

// Update16 continues a CRC-16-CCITT with more bytes.
func Update16(c uint16, b []byte) uint16 {
	for _, x := range b {
		// Each bit of x moves up to the top of the register together with the bit that it is
		// compared with, so the whole byte can be combined before the shifts.
		c ^= uint16(x) << 8
		for range 8 {
			c = shift16(c)
		}
	}
	return c
}

func shift16(r uint16) uint16 {
	if r&0x8000 != 0 {
		return r<<1 ^ polynomial16
	}
	return r << 1
}

// Append16 returns b followed by its CRC-16-CCITT, in new memory.
func Append16(b []byte) []byte {
	s := Sum16(b)
	r := make([]byte, 0, len(b)+2)
	r = append(r, b...)
	return append(r, byte(s>>8), byte(s))
}

// Check16 reports whether b ends with the CRC-16-CCITT of the preceding bytes.
func Check16(b []byte) bool {
	n := len(b) - 2
	if n < 0 {
		return false
	}
	return Sum16(b[:n]) == uint16(b[n])<<8|uint16(b[n+1])
}

// Sum32 returns the CRC-32C of b.
func Sum32(b []byte) uint32 { return Update32(0, b) }

// Update32 continues a CRC-32C with more bytes.
func Update32(c uint32, b []byte) uint32 {
	r := ^c
	for _, x := range b {
		// As in Update16, but the bits meet at the bottom of the register.
		r ^= uint32(x)
		for range 8 {
			r = shift32(r)
		}
	}
	return ^r
}

func shift32(r uint32) uint32 {
	if r&1 != 0 {
		return r>>1 ^ polynomial32
	}
	return r >> 1
}
