// Package crc is layer 1: see shared/doc/01-crc.md.
package crc

// halfSums are the sums of the half bytes: at h stands the Sum of the one byte h.
var halfSums = [16]uint16{
	0x0000, 0x1021, 0x2042, 0x3063, 0x4084, 0x50a5, 0x60c6, 0x70e7,
	0x8108, 0x9129, 0xa14a, 0xb16b, 0xc18c, 0xd1ad, 0xe1ce, 0xf1ef,
}

// Sum is that of bytes; More goes on with one.
func Sum(b []byte) uint16 { return More(0, b) }

func More(c uint16, b []byte) uint16 {
	for _, x := range b {
		c = half(c, x>>4)
		c = half(c, x&15)
	}
	return c
}

// half goes on with a half byte: in four shifts the lower twelve bits of c only move up, so that all that is xored into them hangs on the upper four alone.
func half(c uint16, h byte) uint16 {
	return c<<4 ^ halfSums[byte(c>>12)^h]
}
