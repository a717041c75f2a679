// Package leb is numbers as bytes. See ../../shared/doc/01-leb.md.
package leb

import (
	"math/bits"
	"slices"

	"secateur/api"
)

const (
	more    = 128 // the bit of a byte that is not the last one
	each    = 7   // how many bits of the number a byte has
	longest = 10  // how many bytes the greatest number has
)

// Put is a number's bytes.
func Put(n uint64) []byte {
	var laid [longest]byte
	last := 0
	for ; n >= more; n >>= each {
		laid[last] = byte(n) | more
		last++
	}
	laid[last] = byte(n)
	return slices.Clone(laid[:last+1])
}

// Size is how many bytes a number has.
func Size(n uint64) int {
	return max(1, (bits.Len64(n)+each-1)/each)
}

// Take is the number that stands at a place, and the place behind it.
func Take(b []byte, at int) (uint64, int, api.Errno) {
	if at < 0 || at > len(b) {
		return 0, 0, api.ErrRange
	}
	n := uint64(0)
	for i, c := range b[at:] {
		// Nine bytes have 63 bits: there is room for one more alone.
		if i == longest-1 && c > 1 {
			return 0, 0, api.ErrForm
		}
		n |= uint64(c&^more) << (each * i)
		if c >= more {
			continue
		}
		if c == 0 && i > 0 {
			return 0, 0, api.ErrForm
		}
		return n, at + i + 1, api.OK
	}
	return 0, 0, api.ErrShort
}

// Zig is a number with a sign as one without.
func Zig(n int64) uint64 {
	if n >= 0 {
		return 2 * uint64(n)
	}
	return 2*-uint64(n) - 1
}

// Zag is the number whose Zig it is.
func Zag(n uint64) int64 {
	half := int64(n / 2)
	if n%2 == 0 {
		return half
	}
	// Not -(half+1): half+1 may be above the greatest number.
	return -half - 1
}

// Join is several numbers' bytes, one behind the other.
func Join(l ...uint64) []byte {
	var b []byte
	for _, n := range l {
		b = append(b, Put(n)...)
	}
	return b
}

// Split is the numbers whose bytes they are.
func Split(b []byte) ([]uint64, api.Errno) {
	var l []uint64
	for at := 0; at < len(b); {
		n, behind, e := Take(b, at)
		if e != api.OK {
			return nil, e
		}
		l = append(l, n)
		at = behind
	}
	return l, api.OK
}
