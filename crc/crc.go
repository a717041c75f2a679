// Package crc is sums of bytes. See ../../shared/doc/02-crc.md.
package crc

import (
	"slices"

	"secateur/api"
)

// size is how many bytes a sum has.
const size = 4

// four is what four steps come to, by the lowest four bits: what these four turn, once they are gone.
var four = [16]uint32{
	0x00000000, 0x1DB71064, 0x3B6E20C8, 0x26D930AC,
	0x76DC4190, 0x6B6B51F4, 0x4DB26158, 0x5005713C,
	0xEDB88320, 0xF00F9344, 0xD6D6A3E8, 0xCB61B38C,
	0x9B64C2B0, 0x86D3D2D4, 0xA00AE278, 0xBDBDF21C,
}

// Sum is bytes' sum.
func Sum(b []byte) uint32 { return End(Add(Begin(), b...)) }

// Begin is the state ahead of all bytes.
func Begin() uint32 { return 1<<32 - 1 }

// Add is the state behind some bytes more.
func Add(s uint32, b ...byte) uint32 {
	for _, c := range b {
		s ^= uint32(c)
		s = s>>4 ^ four[s%16]
		s = s>>4 ^ four[s%16]
	}
	return s
}

// End is the sum that a state comes to.
func End(s uint32) uint32 { return ^s }

// Seal is bytes with their sum behind them.
func Seal(b []byte) []byte {
	sum := laid(Sum(b))
	return slices.Concat(b, sum[:])
}

// Open is the bytes that were sealed.
func Open(b []byte) ([]byte, api.Errno) {
	if len(b) < size {
		return nil, api.ErrShort
	}
	ahead, end := b[:len(b)-size], b[len(b)-size:]
	if [size]byte{end[0], end[1], end[2], end[3]} != laid(Sum(ahead)) {
		return nil, api.ErrSum
	}
	return slices.Clone(ahead), api.OK
}

// laid is a sum's bytes, the lowest first.
func laid(sum uint32) [size]byte {
	return [size]byte{byte(sum), byte(sum >> 8), byte(sum >> 16), byte(sum >> 24)}
}
