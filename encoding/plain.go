package encoding

import (
	"lamina/api"
	"lamina/bitpack"
	"lamina/varint"
)

const (
	intSize   = 8 // bytes of an Int
	boolWidth = 1 // bits of a Bool
)

// encodeInts returns the bytes of each number.
func encodeInts(values []int64) []byte {
	b := make([]byte, 0, sizeOfInts(values))
	for _, n := range values {
		b = append(b, varint.Fixed(uint64(n), intSize)...)
	}
	return b
}

func sizeOfInts(values []int64) int {
	return intSize * len(values)
}

// decodeInts reads n numbers at offset and returns them and the offset after them.
func decodeInts(b []byte, offset, n int) ([]int64, int, api.Errno) {
	values := make([]int64, n)
	for i := range values {
		number, e := varint.ReadFixed(b, offset, intSize)
		if e != api.OK {
			return nil, 0, e
		}
		values[i] = int64(number)
		offset += intSize
	}
	return values, offset, api.OK
}

// encodeBools returns a bit for each number.
func encodeBools(values []int64) []byte {
	numbers := make([]uint64, len(values))
	for i, n := range values {
		numbers[i] = uint64(n)
	}
	return bitpack.Pack(numbers, boolWidth)
}

func sizeOfBools(values []int64) int {
	return bitpack.Size(len(values), boolWidth)
}

// decodeBools reads n bits at offset and returns them and the offset after their bytes.
func decodeBools(b []byte, offset, n int) ([]int64, int, api.Errno) {
	next := offset + bitpack.Size(n, boolWidth)
	numbers, e := bitpack.Unpack(b[offset:min(next, len(b))], n, boolWidth)
	if e != api.OK {
		return nil, 0, e
	}
	values := make([]int64, n)
	for i, number := range numbers {
		values[i] = int64(number)
	}
	return values, next, api.OK
}

// encodeTexts returns the length and the bytes of each string.
func encodeTexts(values []string) []byte {
	b := make([]byte, 0, sizeOfTexts(values))
	for _, s := range values {
		b = append(b, encodeLength(s)...)
		b = append(b, s...)
	}
	return b
}

func sizeOfTexts(values []string) int {
	size := 0
	for _, s := range values {
		size += len(encodeLength(s)) + len(s)
	}
	return size
}

func encodeLength(s string) []byte {
	return varint.Encode(uint64(len(s)))
}

// decodeTexts reads n strings at offset and returns them and the offset after them.
func decodeTexts(b []byte, offset, n int) ([]string, int, api.Errno) {
	values := []string{} // grows as strings are found, because n may promise more of them than b holds
	for range n {
		length, start, e := varint.Decode(b, offset)
		if e != api.OK {
			return nil, 0, e
		}
		if length > api.MaxText {
			return nil, 0, api.ErrLong
		}
		if length > uint64(len(b)-start) {
			return nil, 0, api.ErrShort
		}
		offset = start + int(length)
		values = append(values, string(b[start:offset]))
	}
	return values, offset, api.OK
}
