package varint_test

import (
	"bytes"
	"encoding/binary"
	"math"
	"math/big"
	"testing"

	"lamina/api"
	"lamina/varint"
)

// samples returns the numbers around every power of two and a fixed sequence of mixed ones of every width.
func samples() []uint64 {
	numbers := []uint64{0, 300, 258, 0x0123456789abcdef, 0xfedcba9876543210, math.MaxUint64}
	for k := range 64 {
		power := uint64(1) << k
		numbers = append(numbers, power-1, power, power+1, -power)
	}
	mixed := uint64(1)
	for i := range 1000 {
		mixed = mixed*6364136223846793005 + 1442695040888963407
		numbers = append(numbers, mixed>>(i%64))
	}
	return numbers
}

func repeat(c byte, count int, tail ...byte) []byte {
	return append(bytes.Repeat([]byte{c}, count), tail...)
}

// P1.1

func TestFixedReturnsLeastSignificantBytesFirst(t *testing.T) {
	for _, c := range []struct {
		n    uint64
		size int
		want []byte
	}{
		{258, 2, []byte{2, 1}},
		{258, 1, []byte{2}},
		{258, 3, []byte{2, 1, 0}},
		{0, 1, []byte{0}},
		{0, 8, make([]byte, 8)},
		{math.MaxUint64, 8, repeat(0xff, 8)},
		{1 << 63, 8, repeat(0, 7, 0x80)},
	} {
		if got := varint.Fixed(c.n, c.size); !bytes.Equal(got, c.want) {
			t.Errorf("Fixed(%d, %d) = %x, want %x", c.n, c.size, got, c.want)
		}
	}
	for _, n := range samples() {
		whole := binary.LittleEndian.AppendUint64(nil, n)
		for size := 1; size <= 8; size++ {
			if got := varint.Fixed(n, size); !bytes.Equal(got, whole[:size]) {
				t.Errorf("Fixed(%d, %d) = %x, want %x", n, size, got, whole[:size])
			}
		}
	}
}

func TestFixedRejectsOtherSizes(t *testing.T) {
	for _, size := range []int{math.MinInt, -8, -1, 0, 9, 10, 64, math.MaxInt} {
		if got := varint.Fixed(1, size); len(got) != 0 {
			t.Errorf("Fixed(1, %d) = %x, want nil", size, got)
		}
	}
}

func TestReadFixedReadsSizeBytesAtOffset(t *testing.T) {
	b := []byte{1, 2, 3, 4, 5, 6, 7, 8, 0xf9, 0xff}
	for offset := range len(b) {
		for size := 1; size <= 8 && offset+size <= len(b); size++ {
			padded := append(bytes.Clone(b[offset:offset+size]), make([]byte, 8-size)...)
			want := binary.LittleEndian.Uint64(padded)
			got, e := varint.ReadFixed(b, offset, size)
			if got != want || e != api.OK {
				t.Errorf("ReadFixed(%x, %d, %d) = %d, %v, want %d", b, offset, size, got, e, want)
			}
		}
	}
}

func TestReadFixedErrors(t *testing.T) {
	b := []byte{1, 2, 3}
	for _, c := range []struct {
		b            []byte
		offset, size int
		want         api.Errno
	}{
		{b, 0, 0, api.ErrArg},
		{b, 0, -1, api.ErrArg},
		{b, 0, math.MinInt, api.ErrArg},
		{b, 0, 9, api.ErrArg}, // before ErrShort
		{repeat(1, 9), 0, 9, api.ErrArg},
		{b, 0, math.MaxInt, api.ErrArg},
		{b, 3, 0, api.ErrArg},
		{b, -1, 1, api.ErrArg},
		{b, math.MinInt, 8, api.ErrArg},
		{b, 4, 1, api.ErrArg}, // before ErrShort
		{b, math.MaxInt, 8, api.ErrArg},
		{b, 5, 9, api.ErrArg},
		{nil, 1, 1, api.ErrArg},
		{nil, 0, 0, api.ErrArg},
		{nil, 0, 1, api.ErrShort},
		{b, 3, 1, api.ErrShort},
		{b, 2, 2, api.ErrShort},
		{b, 0, 4, api.ErrShort},
		{b, 0, 8, api.ErrShort},
		{repeat(1, 7), 0, 8, api.ErrShort},
		{repeat(1, 8), 1, 8, api.ErrShort},
	} {
		if got, e := varint.ReadFixed(c.b, c.offset, c.size); got != 0 || e != c.want {
			t.Errorf("ReadFixed(%x, %d, %d) = %d, %v, want 0, %v", c.b, c.offset, c.size, got, e, c.want)
		}
	}
}

// P1.2

func TestEncodeReturnsShortestGroups(t *testing.T) {
	for _, c := range []struct {
		n    uint64
		want []byte
	}{
		{0, []byte{0}},
		{1, []byte{1}},
		{127, []byte{0x7f}},
		{128, []byte{0x80, 1}},
		{300, []byte{0xac, 2}},
		{16383, []byte{0xff, 0x7f}},
		{16384, []byte{0x80, 0x80, 1}},
		{1<<63 - 1, repeat(0xff, 8, 0x7f)},
		{1 << 63, repeat(0x80, 9, 1)},
		{math.MaxUint64, repeat(0xff, 9, 1)},
	} {
		if got := varint.Encode(c.n); !bytes.Equal(got, c.want) {
			t.Errorf("Encode(%d) = %x, want %x", c.n, got, c.want)
		}
	}
	for _, n := range samples() {
		if got, want := varint.Encode(n), binary.AppendUvarint(nil, n); !bytes.Equal(got, want) {
			t.Errorf("Encode(%d) = %x, want %x", n, got, want)
		}
	}
}

func TestDecodeReturnsNumberAndNextOffset(t *testing.T) {
	for _, c := range []struct {
		b      []byte
		offset int
		n      uint64
		next   int
	}{
		{[]byte{0}, 0, 0, 1},
		{[]byte{0x7f}, 0, 127, 1},
		{[]byte{0xac, 2}, 0, 300, 2},
		{[]byte{0xac, 2, 0x80}, 0, 300, 2}, // what follows is not read
		{[]byte{0xac, 2, 0}, 2, 0, 3},
		{[]byte{9, 0xff, 0xac, 2, 9}, 2, 300, 4},
		{[]byte{0xac, 2}, 1, 2, 2},
		{repeat(0xff, 8, 0x7f), 0, 1<<63 - 1, 9},
		{repeat(0x80, 9, 1), 0, 1 << 63, 10},
		{repeat(0xff, 9, 1), 0, math.MaxUint64, 10},
		{repeat(0xff, 9, 1, 0), 0, math.MaxUint64, 10},
		{append([]byte{7}, repeat(0xff, 9, 1)...), 1, math.MaxUint64, 11},
	} {
		if n, next, e := varint.Decode(c.b, c.offset); n != c.n || next != c.next || e != api.OK {
			t.Errorf("Decode(%x, %d) = %d, %d, %v, want %d, %d", c.b, c.offset, n, next, e, c.n, c.next)
		}
	}
}

func TestDecodeErrors(t *testing.T) {
	for _, c := range []struct {
		b      []byte
		offset int
		want   api.Errno
	}{
		{nil, -1, api.ErrArg},
		{nil, 1, api.ErrArg},
		{[]byte{1}, -1, api.ErrArg},
		{[]byte{1}, 2, api.ErrArg},
		{[]byte{1}, math.MinInt, api.ErrArg},
		{[]byte{1}, math.MaxInt, api.ErrArg},
		{nil, 0, api.ErrShort},
		{[]byte{}, 0, api.ErrShort},
		{[]byte{1}, 1, api.ErrShort},
		{[]byte{0x80}, 0, api.ErrShort},
		{[]byte{1, 0x80}, 1, api.ErrShort},
		{repeat(0x80, 9), 0, api.ErrShort},
		{repeat(0xff, 9), 0, api.ErrShort},
		{[]byte{0x80, 0}, 0, api.ErrFormat},
		{[]byte{0xff, 0}, 0, api.ErrFormat},
		{[]byte{0x80, 0x80, 0}, 0, api.ErrFormat},
		{[]byte{0x80, 0, 0x80}, 0, api.ErrFormat}, // the first byte with an error decides
		{[]byte{0x80, 0, 1}, 0, api.ErrFormat},
		{[]byte{5, 0x80, 0}, 1, api.ErrFormat},
		{repeat(0xff, 8, 0), 0, api.ErrFormat},
		{repeat(0xff, 9, 0), 0, api.ErrFormat},
		{repeat(0x80, 9, 0), 0, api.ErrFormat},
	} {
		if n, next, e := varint.Decode(c.b, c.offset); n != 0 || next != 0 || e != c.want {
			t.Errorf("Decode(%x, %d) = %d, %d, %v, want 0, 0, %v", c.b, c.offset, n, next, e, c.want)
		}
	}
}

func TestDecodeRejectsTenthByteAboveOne(t *testing.T) {
	for tenth := 2; tenth <= 255; tenth++ {
		for _, tail := range [][]byte{nil, {0}, {1}, {0x80}, {0x80, 0x80, 1}} {
			b := append(repeat(0x80, 9, byte(tenth)), tail...)
			if n, next, e := varint.Decode(b, 0); n != 0 || next != 0 || e != api.ErrFormat {
				t.Errorf("Decode(%x, 0) = %d, %d, %v, want 0, 0, %v", b, n, next, e, api.ErrFormat)
			}
		}
	}
}

// P1.3

func TestZigZag(t *testing.T) {
	for _, c := range []struct {
		n    int64
		want uint64
	}{
		{0, 0}, {-1, 1}, {1, 2}, {-2, 3}, {2, 4}, {63, 126}, {-64, 127},
		{math.MaxInt64, math.MaxUint64 - 1},
		{math.MinInt64, math.MaxUint64},
		{math.MinInt64 + 1, math.MaxUint64 - 2},
	} {
		if got := varint.ZigZag(c.n); got != c.want {
			t.Errorf("ZigZag(%d) = %d, want %d", c.n, got, c.want)
		}
		if got := varint.UnZigZag(c.want); got != c.n {
			t.Errorf("UnZigZag(%d) = %d, want %d", c.want, got, c.n)
		}
	}
	for _, u := range samples() {
		n := big.NewInt(int64(u))
		want := new(big.Int).Lsh(n, 1)
		if n.Sign() < 0 {
			want.Not(want) // -2n-1
		}
		if got := varint.ZigZag(int64(u)); !want.IsUint64() || got != want.Uint64() {
			t.Errorf("ZigZag(%v) = %d, want %v", n, got, want)
		}
	}
}

func TestBitWidth(t *testing.T) {
	if got := varint.BitWidth(0); got != 0 {
		t.Errorf("BitWidth(0) = %d", got)
	}
	for width := 1; width <= 64; width++ {
		least := uint64(1) << (width - 1)
		for _, n := range []uint64{least, least | 1, least | least>>1, least - 1 + least} {
			if got := varint.BitWidth(n); got != width {
				t.Errorf("BitWidth(%d) = %d, want %d", n, got, width)
			}
		}
	}
}

func TestConcat(t *testing.T) {
	a, b := []byte("a"), []byte("bc")
	for _, c := range []struct {
		parts [][]byte
		want  string
	}{
		{nil, ""},
		{[][]byte{nil}, ""},
		{[][]byte{{}, nil}, ""},
		{[][]byte{b}, "bc"},
		{[][]byte{a, b}, "abc"},
		{[][]byte{b, a}, "bca"},
		{[][]byte{a, nil, b, {}, a}, "abca"},
		{[][]byte{nil, {0}, {0, 0xff}}, "\x00\x00\xff"},
	} {
		if got := varint.Concat(c.parts...); string(got) != c.want {
			t.Errorf("Concat(%x) = %x, want %x", c.parts, got, c.want)
		}
	}
	if got := varint.Concat(); len(got) != 0 {
		t.Errorf("Concat() = %x", got)
	}
}

func TestConcatSharesNoMemory(t *testing.T) {
	room := []byte("abcd")
	a, b := room[:1], []byte("xy") // a has capacity for b behind it
	got := varint.Concat(a, b)
	if string(got) != "axy" || string(room) != "abcd" || string(b) != "xy" {
		t.Errorf("Concat changed its arguments: %q, %q, %q", got, room, b)
	}
	for _, parts := range [][][]byte{{b}, {nil, b}, {b, nil}} {
		got := varint.Concat(parts...)
		got[0] = '!'
		if string(b) != "xy" {
			t.Errorf("Concat(%q) shares memory with its argument", parts)
			b[0] = 'x'
		}
	}
}

// P1.4

func TestFixedRoundTrip(t *testing.T) {
	for _, n := range samples() {
		if got, e := varint.ReadFixed(varint.Fixed(n, 8), 0, 8); got != n || e != api.OK {
			t.Errorf("ReadFixed(Fixed(%d, 8), 0, 8) = %d, %v", n, got, e)
		}
	}
}

func TestVarintRoundTrip(t *testing.T) {
	for _, n := range samples() {
		b := varint.Encode(n)
		if got, next, e := varint.Decode(b, 0); got != n || next != len(b) || e != api.OK {
			t.Errorf("Decode(Encode(%d), 0) = %d, %d, %v", n, got, next, e)
		}
	}
}

func TestZigZagRoundTrip(t *testing.T) {
	for _, u := range samples() {
		if got := varint.ZigZag(varint.UnZigZag(u)); got != u {
			t.Errorf("ZigZag(UnZigZag(%d)) = %d", u, got)
		}
		if got := varint.UnZigZag(varint.ZigZag(int64(u))); got != int64(u) {
			t.Errorf("UnZigZag(ZigZag(%d)) = %d", int64(u), got)
		}
	}
}

// checkCanonical fails if Decode accepts an encoding in b that Encode does not return.
func checkCanonical(t *testing.T, b []byte) {
	n, next, e := varint.Decode(b, 0)
	if e == api.OK && !bytes.Equal(varint.Encode(n), b[:next]) {
		t.Errorf("Decode(%x, 0) = %d, %d, but Encode(%d) = %x", b, n, next, n, varint.Encode(n))
	}
	if e != api.OK && (n != 0 || next != 0) {
		t.Errorf("Decode(%x, 0) = %d, %d, %v, want zero results with an error", b, n, next, e)
	}
}

func TestDecodeAcceptsOnlyShortestEncodings(t *testing.T) {
	for i := range 1 << 16 {
		checkCanonical(t, []byte{byte(i), byte(i >> 8)})
		checkCanonical(t, []byte{byte(i) | 0x80, byte(i >> 8), 1})
	}
	for count := range 12 {
		for c := range 256 {
			for _, lead := range []byte{0x80, 0x81, 0xff} {
				checkCanonical(t, repeat(lead, count, byte(c)))
				checkCanonical(t, repeat(lead, count, byte(c), 0))
				checkCanonical(t, repeat(lead, count, byte(c), 1))
			}
		}
	}
}

// P1.5

func TestEncodedSize(t *testing.T) {
	for _, n := range samples() {
		width := varint.BitWidth(n)
		want := max(1, int(math.Ceil(float64(width)/7)))
		if got := len(varint.Encode(n)); got != want {
			t.Errorf("len(Encode(%d)) = %d, want %d", n, got, want)
		}
	}
}

func TestZigZagKeepsOrderOfMagnitude(t *testing.T) {
	for _, u := range samples() {
		greater := int64(u >> 1)
		if greater == 0 {
			continue
		}
		for _, less := range []int64{greater - 1, greater / 2, 0} {
			checkOrder(t, less, greater)
			checkOrder(t, -less, greater)
			checkOrder(t, less, -greater)
			checkOrder(t, -less, -greater)
		}
		checkOrder(t, greater, math.MinInt64)
		checkOrder(t, -greater, math.MinInt64)
	}
}

func checkOrder(t *testing.T, less, greater int64) {
	if a, b := varint.ZigZag(less), varint.ZigZag(greater); a >= b {
		t.Errorf("ZigZag(%d) = %d, not less than ZigZag(%d) = %d", less, a, greater, b)
	}
}
