// Package varint encodes integers as bytes. Its promises are in the chapter doc/01-varint.md of the document.
package varint

import (
	"math/bits"

	"lamina/api"
)

const (
	maxFixed  = 8    // bytes of the largest fixed-size number
	groupBits = 7    // bits of a number that one byte of its varint carries
	more      = 0x80 // marks a byte that another byte of the same varint follows
	maxVarint = 10   // bytes of the longest varint; the last one has room for a single bit
)

// Fixed returns the size least significant bytes of n, the least significant one first (P1.1).
func Fixed(n uint64, size int) []byte {
	if !validSize(size) {
		return nil
	}
	b := make([]byte, size)
	for i := range size {
		b[i] = byte(n >> (8 * i))
	}
	return b
}

// ReadFixed reads the number that Fixed wrote with size bytes at offset (P1.1).
func ReadFixed(b []byte, offset, size int) (uint64, api.Errno) {
	if !validSize(size) || !validOffset(b, offset) {
		return 0, api.ErrArg
	}
	if len(b)-offset < size {
		return 0, api.ErrShort
	}
	n := uint64(0)
	for i := range size {
		n |= uint64(b[offset+i]) << (8 * i)
	}
	return n, api.OK
}

// Encode returns the varint encoding of n (P1.2).
func Encode(n uint64) []byte {
	// The number 0 has no significant bits, but its encoding is not empty.
	size := max(1, (BitWidth(n)+groupBits-1)/groupBits)
	b := make([]byte, size)
	for i := range size {
		b[i] = byte(n>>(groupBits*i)) | more
	}
	b[size-1] &^= more
	return b
}

// Decode reads the varint at offset and returns its number and the offset after it (P1.2).
func Decode(b []byte, offset int) (uint64, int, api.Errno) {
	if !validOffset(b, offset) {
		return 0, 0, api.ErrArg
	}
	n := uint64(0)
	for i := range len(b) - offset {
		c := b[offset+i]
		if !validGroup(i, c) {
			return 0, 0, api.ErrFormat
		}
		n |= uint64(c&^more) << (groupBits * i)
		if c < more {
			return n, offset + i + 1, api.OK
		}
	}
	return 0, 0, api.ErrShort
}

// validGroup reports whether c may be the byte with index i of a varint. No index after the tenth one is ever asked for, because a valid tenth byte is the last one.
func validGroup(i int, c byte) bool {
	if i == maxVarint-1 && c > 1 {
		return false // more than 64 bits
	}
	return i == 0 || c != 0 // a last group of 0 would make the encoding longer than needed
}

// ZigZag maps numbers of small magnitude to small unsigned numbers (P1.3).
func ZigZag(n int64) uint64 {
	doubled := uint64(n) << 1
	if n < 0 {
		return ^doubled // -2n-1, without overflow for the least n
	}
	return doubled
}

// UnZigZag is the inverse of ZigZag (P1.3).
func UnZigZag(n uint64) int64 {
	half := int64(n >> 1)
	if n&1 == 1 {
		return ^half
	}
	return half
}

// BitWidth returns the number of significant bits of n (P1.3).
func BitWidth(n uint64) int {
	return bits.Len64(n)
}

// Concat returns the concatenation of parts in new memory (P1.3).
func Concat(parts ...[]byte) []byte {
	size := 0
	for _, part := range parts {
		size += len(part)
	}
	all := make([]byte, 0, size)
	for _, part := range parts {
		all = append(all, part...)
	}
	return all
}

func validSize(size int) bool {
	return 1 <= size && size <= maxFixed
}

func validOffset(b []byte, offset int) bool {
	return 0 <= offset && offset <= len(b)
}
