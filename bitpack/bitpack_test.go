package bitpack_test

import (
	"bytes"
	"math"
	"math/big"
	"slices"
	"testing"

	"lamina/api"
	"lamina/bitpack"
)

const maxCount = 1048576

// samples returns lists of numbers of every width and of several lengths.
func samples() [][]uint64 {
	lists := [][]uint64{
		nil, {}, {0}, {1}, {math.MaxUint64}, {5, 1, 7}, {0, 0, 0}, {0, 255}, {256, 0},
		slices.Repeat([]uint64{math.MaxUint64}, 17), make([]uint64, 17), {1 << 63, 1, 1 << 63}, {math.MaxUint64, 0, math.MaxUint64},
	}
	mixed := uint64(1)
	for width := range 65 {
		for _, n := range []int{1, 2, 7, 8, 9, 30} {
			list := make([]uint64, n)
			for i := range list {
				mixed = mixed*6364136223846793005 + 1442695040888963407
				list[i] = reduce(mixed^mixed>>29, width)
			}
			lists = append(lists, list)
		}
	}
	return lists
}

// reduce returns n modulo 2^width.
func reduce(n uint64, width int) uint64 {
	if width == 64 {
		return n
	}
	return n % (1 << width)
}

// pack packs by definition: the numbers are the digits, to the base 2^width, of one great number.
func pack(values []uint64, width int) []byte {
	sum := new(big.Int)
	for i, v := range values {
		digit := new(big.Int).SetUint64(reduce(v, width))
		sum.Or(sum, digit.Lsh(digit, uint(i*width)))
	}
	b := sum.FillBytes(make([]byte, size(len(values), width)))
	slices.Reverse(b)
	return b
}

// at reads the number with index i bit by bit, and reports whether all of its bits lie within b.
func at(b []byte, i, width int) (uint64, bool) {
	n := uint64(0)
	for k := range width {
		p := i*width + k
		if p/8 >= len(b) {
			return 0, false
		}
		n |= uint64(b[p/8]>>(p%8)&1) << k
	}
	return n, true
}

// size counts the bytes that n*width bits fill or begin.
func size(n, width int) int {
	bytes := n * width / 8
	if n*width%8 != 0 {
		bytes++
	}
	return bytes
}

func invalidCounts() []int {
	return []int{math.MinInt, math.MinInt + 1, -maxCount, -8, -1, maxCount + 1, maxCount + 8, 1 << 40, math.MaxInt - 1, math.MaxInt}
}

func invalidWidths() []int {
	return []int{math.MinInt, math.MinInt + 1, -64, -8, -1, 65, 66, 128, 1 << 40, math.MaxInt - 1, math.MaxInt}
}

// P6.1

func TestWidthIsTheOneOfTheWidestValue(t *testing.T) {
	for _, c := range []struct {
		values []uint64
		want   int
	}{
		{nil, 0}, {[]uint64{}, 0}, {[]uint64{0}, 0}, {[]uint64{0, 0}, 0}, {[]uint64{1}, 1}, {[]uint64{0, 255}, 8}, {[]uint64{256, 0}, 9},
		{[]uint64{5, 1, 7}, 3}, {[]uint64{1, 2, 4, 8}, 4}, {[]uint64{8, 4, 2, 1}, 4}, {[]uint64{0, 9, 0}, 4},
		{[]uint64{math.MaxUint64}, 64}, {[]uint64{1 << 63, 1}, 64}, {[]uint64{1<<63 - 1, 1}, 63},
	} {
		if got := bitpack.Width(c.values); got != c.want {
			t.Errorf("Width(%d) = %d, want %d", c.values, got, c.want)
		}
	}
	for _, values := range samples() {
		want := 0
		for _, v := range values {
			want = max(want, new(big.Int).SetUint64(v).BitLen())
		}
		if got := bitpack.Width(values); got != want {
			t.Errorf("Width(%d) = %d, want %d", values, got, want)
		}
	}
}

func TestWidthOfEveryPowerOfTwo(t *testing.T) {
	for k := range 64 {
		if got := bitpack.Width([]uint64{1, 1 << k, 0}); got != k+1 {
			t.Errorf("Width of 2^%d = %d", k, got)
		}
	}
}

func TestSizeRoundsUp(t *testing.T) {
	if got := bitpack.Size(3, 3); got != 2 {
		t.Errorf("Size(3, 3) = %d, want 2", got)
	}
	for _, n := range []int{0, 1, 2, 3, 4, 5, 6, 7, 8, 9, 16, 17, 4096, maxCount - 7, maxCount - 1, maxCount} {
		for width := range 65 {
			if got := bitpack.Size(n, width); got != size(n, width) {
				t.Errorf("Size(%d, %d) = %d, want %d", n, width, got, size(n, width))
			}
		}
	}
}

func TestSizeOutOfRangeIsZero(t *testing.T) {
	for _, n := range invalidCounts() {
		for _, width := range append(invalidWidths(), 0, 1, 8, 63, 64) {
			if got := bitpack.Size(n, width); got != 0 {
				t.Errorf("Size(%d, %d) = %d, want 0", n, width, got)
			}
		}
	}
	for _, width := range invalidWidths() {
		for _, n := range []int{0, 1, 8, 100, maxCount} {
			if got := bitpack.Size(n, width); got != 0 {
				t.Errorf("Size(%d, %d) = %d, want 0", n, width, got)
			}
		}
	}
}

// P6.2

func TestPackStoresLeastSignificantBitsFirst(t *testing.T) {
	for _, c := range []struct {
		values []uint64
		width  int
		want   []byte
	}{
		{[]uint64{5, 1, 7}, 3, []byte{0b11001101, 1}},
		{[]uint64{1}, 1, []byte{1}},
		{[]uint64{0, 1}, 1, []byte{2}},
		{[]uint64{0, 0, 0, 0, 0, 0, 0, 0, 1}, 1, []byte{0, 1}},
		{[]uint64{0x1234, 0xabcd}, 16, []byte{0x34, 0x12, 0xcd, 0xab}},
		{[]uint64{0x123, 0xabc}, 12, []byte{0x23, 0xc1, 0xab}},
		{[]uint64{0x0123456789abcdef}, 64, []byte{0xef, 0xcd, 0xab, 0x89, 0x67, 0x45, 0x23, 0x01}},
		{[]uint64{math.MaxUint64, 0, 1}, 1, []byte{5}},
		{[]uint64{13, 9, 15}, 3, []byte{0b11001101, 1}}, // 5, 1 and 7 modulo 8
		{[]uint64{5, 6}, 0, nil},
		{nil, 0, nil},
		{nil, 7, nil},
		{[]uint64{}, 64, nil},
	} {
		if got := bitpack.Pack(c.values, c.width); !bytes.Equal(got, c.want) {
			t.Errorf("Pack(%d, %d) = %x, want %x", c.values, c.width, got, c.want)
		}
	}
}

func TestPackAgreesWithTheModel(t *testing.T) {
	for _, values := range samples() {
		before := slices.Clone(values)
		for width := range 65 {
			if got, want := bitpack.Pack(values, width), pack(values, width); !bytes.Equal(got, want) {
				t.Errorf("Pack(%d, %d) = %x, want %x", values, width, got, want)
			}
		}
		if !slices.Equal(values, before) {
			t.Errorf("Pack changed %d to %d", before, values)
		}
	}
}

func TestPackOfInvalidArgumentsIsNil(t *testing.T) {
	for _, width := range invalidWidths() {
		for _, values := range [][]uint64{nil, {}, {0}, {1, 2, 3}} {
			if got := bitpack.Pack(values, width); got != nil {
				t.Errorf("Pack(%d, %d) = %x, want nil", values, width, got)
			}
		}
	}
	for _, count := range []int{maxCount + 1, 2 * maxCount} {
		for _, width := range []int{0, 1, 3, -1, 65} {
			if got := bitpack.Pack(make([]uint64, count), width); got != nil {
				t.Errorf("Pack of %d values of %d bits has %d bytes, want nil", count, width, len(got))
			}
		}
	}
}

func TestTheLargestCount(t *testing.T) {
	values := make([]uint64, maxCount)
	for i := range values {
		values[i] = uint64(i) * 0x9E3779B97F4A7C15
	}
	for _, width := range []int{0, 1, 7, 64} {
		b := bitpack.Pack(values, width)
		if len(b) != maxCount*width/8 {
			t.Fatalf("%d values of %d bits are packed in %d bytes", maxCount, width, len(b))
		}
		got, e := bitpack.Unpack(b, maxCount, width)
		if e != api.OK || len(got) != maxCount {
			t.Fatalf("Unpack of %d values of %d bits has %d values, error %d", maxCount, width, len(got), e)
		}
		for i, v := range values {
			if got[i] != reduce(v, width) || bitpack.At(b, i, width) != got[i] {
				t.Fatalf("the value with index %d and width %d is %d, want %d", i, width, got[i], reduce(v, width))
			}
		}
	}
}

func TestUnpackReturnsTheNumbers(t *testing.T) {
	for _, c := range []struct {
		b        []byte
		n, width int
		want     []uint64
	}{
		{[]byte{205, 1}, 3, 3, []uint64{5, 1, 7}},
		{nil, 0, 0, nil},
		{nil, 0, 64, nil},
		{[]byte{}, 3, 0, []uint64{0, 0, 0}},
		{[]byte{0x7f}, 1, 7, []uint64{127}},
		{[]byte{0xff}, 1, 8, []uint64{255}},
		{[]byte{0xff}, 8, 1, []uint64{1, 1, 1, 1, 1, 1, 1, 1}},
		{[]byte{0x34, 0x12, 0xcd, 0xab}, 2, 16, []uint64{0x1234, 0xabcd}},
		{bytes.Repeat([]byte{255}, 16), 2, 64, []uint64{math.MaxUint64, math.MaxUint64}},
	} {
		got, e := bitpack.Unpack(c.b, c.n, c.width)
		if e != api.OK || !slices.Equal(got, c.want) {
			t.Errorf("Unpack(%x, %d, %d) = %d, %d, want %d", c.b, c.n, c.width, got, e, c.want)
		}
	}
}

func TestUnpackOfInvalidBytes(t *testing.T) {
	for _, c := range []struct {
		b        []byte
		n, width int
		want     api.Errno
	}{
		{nil, 1, 1, api.ErrShort},
		{[]byte{205}, 3, 3, api.ErrShort},
		{[]byte{255}, 3, 3, api.ErrShort},
		{make([]byte, 7), 1, 64, api.ErrShort},
		{nil, maxCount, 64, api.ErrShort},
		{make([]byte, maxCount/8-1), maxCount, 1, api.ErrShort},
		{[]byte{205, 1, 0}, 3, 3, api.ErrLong},
		{[]byte{205, 255, 255}, 3, 3, api.ErrLong},
		{[]byte{0}, 0, 3, api.ErrLong},
		{[]byte{0}, 5, 0, api.ErrLong},
		{[]byte{255}, 0, 0, api.ErrLong},
		{make([]byte, 9), 1, 64, api.ErrLong},
		{make([]byte, maxCount/8+1), maxCount, 1, api.ErrLong},
		{[]byte{205, 3}, 3, 3, api.ErrFormat},
		{[]byte{205, 129}, 3, 3, api.ErrFormat},
		{[]byte{2}, 1, 1, api.ErrFormat},
		{[]byte{128}, 7, 1, api.ErrFormat},
		{[]byte{128}, 1, 7, api.ErrFormat},
	} {
		if got, e := bitpack.Unpack(c.b, c.n, c.width); e != c.want || len(got) != 0 {
			t.Errorf("Unpack of %d bytes, %d, %d = %d, %d, want error %d", len(c.b), c.n, c.width, got, e, c.want)
		}
	}
}

func TestUnpackOutOfRange(t *testing.T) {
	for _, b := range [][]byte{nil, {0}, {255}, {205, 3}, make([]byte, 100)} {
		for _, n := range invalidCounts() {
			for _, width := range append(invalidWidths(), 0, 1, 8, 64) {
				if got, e := bitpack.Unpack(b, n, width); e != api.ErrArg || len(got) != 0 {
					t.Errorf("Unpack(%x, %d, %d) = %d, %d", b, n, width, got, e)
				}
			}
		}
		for _, width := range invalidWidths() {
			for _, n := range []int{0, 1, 3, maxCount} {
				if got, e := bitpack.Unpack(b, n, width); e != api.ErrArg || len(got) != 0 {
					t.Errorf("Unpack(%x, %d, %d) = %d, %d", b, n, width, got, e)
				}
			}
		}
	}
}

func TestUnpackChecksEveryUnusedBit(t *testing.T) {
	for n := range 20 {
		for width := range 65 {
			b := pack(slices.Repeat([]uint64{math.MaxUint64}, n), width)
			for p := n * width; p < 8*len(b); p++ {
				b[p/8] ^= 1 << (p % 8)
				if got, e := bitpack.Unpack(b, n, width); e != api.ErrFormat || len(got) != 0 {
					t.Errorf("Unpack(%x, %d, %d) = %d, %d", b, n, width, got, e)
				}
				b[p/8] ^= 1 << (p % 8)
			}
		}
	}
}

// P6.3

func TestAtReturnsTheNumberWithAnIndex(t *testing.T) {
	for _, c := range []struct {
		b        []byte
		i, width int
		want     uint64
	}{
		{[]byte{205, 1}, 0, 3, 5},
		{[]byte{205, 1}, 1, 3, 1},
		{[]byte{205, 1}, 2, 3, 7},
		{[]byte{205, 1}, 3, 3, 0},
		{[]byte{205, 255}, 4, 3, 7}, // all bits of a byte count, used or not
		{[]byte{205, 255}, 5, 3, 0}, // the last two bits of the number are missing
		{[]byte{255}, 7, 1, 1},
		{[]byte{255}, 8, 1, 0},
		{[]byte{255}, 0, 8, 255},
		{[]byte{255}, 0, 9, 0},
		{nil, 0, 1, 0},
		{bytes.Repeat([]byte{255}, 8), 0, 64, math.MaxUint64},
		{bytes.Repeat([]byte{255}, 7), 0, 64, 0},
		{bytes.Repeat([]byte{255}, 16), 1, 64, math.MaxUint64},
		{bytes.Repeat([]byte{255}, 15), 1, 64, 0},
		{bytes.Repeat([]byte{255}, 16), 1, 63, 1<<63 - 1},
	} {
		if got := bitpack.At(c.b, c.i, c.width); got != c.want {
			t.Errorf("At(%x, %d, %d) = %d, want %d", c.b, c.i, c.width, got, c.want)
		}
	}
}

func TestAtAgreesWithTheModel(t *testing.T) {
	b := make([]byte, 40)
	for i := range b {
		b[i] = byte(i*i*31 + 17*i + 129)
	}
	for length := range len(b) + 1 {
		for width := range 65 {
			for i := range 330 {
				want, _ := at(b[:length], i, width)
				if got := bitpack.At(b[:length], i, width); got != want {
					t.Fatalf("At(%x, %d, %d) = %d, want %d", b[:length], i, width, got, want)
				}
			}
		}
	}
}

func TestAtOutOfRangeIsZero(t *testing.T) {
	indices := []int{math.MinInt, math.MinInt + 1, math.MinInt / 64, -64, -1, 1 << 40, 1 << 58, 1 << 59, 1 << 61, 1 << 62, math.MaxInt - 1, math.MaxInt}
	for _, b := range [][]byte{nil, {255}, bytes.Repeat([]byte{255}, 100)} {
		for _, i := range indices {
			for _, width := range append(invalidWidths(), 0, 1, 2, 3, 8, 32, 63, 64) {
				if got := bitpack.At(b, i, width); got != 0 {
					t.Errorf("At(%x, %d, %d) = %d, want 0", b, i, width, got)
				}
			}
		}
		for _, width := range append(invalidWidths(), 0) {
			for i := range 5 {
				if got := bitpack.At(b, i, width); got != 0 {
					t.Errorf("At(%x, %d, %d) = %d, want 0", b, i, width, got)
				}
			}
		}
	}
}

// P6.4

func TestUnpackInvertsPack(t *testing.T) {
	for _, values := range samples() {
		for width := range 65 {
			b := bitpack.Pack(values, width)
			got, e := bitpack.Unpack(b, len(values), width)
			if e != api.OK || len(got) != len(values) {
				t.Fatalf("Unpack(Pack(%d, %d)) = %d, %d", values, width, got, e)
			}
			for i, v := range values {
				if got[i] != reduce(v, width) {
					t.Errorf("Unpack(Pack(%d, %d)) = %d", values, width, got)
				}
				if bitpack.At(b, i, width) != got[i] {
					t.Errorf("At(Pack(%d, %d), %d) = %d, want %d", values, width, i, bitpack.At(b, i, width), got[i])
				}
			}
			if width >= bitpack.Width(values) && !slices.Equal(got, values) {
				t.Errorf("Unpack(Pack(%d, %d)) = %d", values, width, got)
			}
		}
	}
}

// TestAcceptedBytesArePackedAgain tries all sequences of up to two bytes, and each byte as the last one of longer sequences.
func TestAcceptedBytesArePackedAgain(t *testing.T) {
	inputs := [][]byte{nil}
	for x := range 256 {
		inputs = append(inputs, []byte{byte(x)}, []byte{7, 200, 0, 255, byte(x)})
		for y := range 256 {
			inputs = append(inputs, []byte{byte(x), byte(y)})
		}
	}
	for _, b := range inputs {
		for n := range 18 {
			for width := range 18 {
				got, e := bitpack.Unpack(b, n, width)
				if want := verdict(b, n, width); e != want {
					t.Fatalf("Unpack(%x, %d, %d) = %d, %d, want error %d", b, n, width, got, e, want)
				}
				if e == api.OK && !bytes.Equal(bitpack.Pack(got, width), b) {
					t.Fatalf("Unpack(%x, %d, %d) = %d is packed to %x", b, n, width, got, bitpack.Pack(got, width))
				}
			}
		}
	}
}

// verdict is the error that P6.2 requires for arguments in range.
func verdict(b []byte, n, width int) api.Errno {
	if len(b) < size(n, width) {
		return api.ErrShort
	}
	if len(b) > size(n, width) {
		return api.ErrLong
	}
	for p := n * width; p < 8*len(b); p++ {
		if b[p/8]>>(p%8)&1 == 1 {
			return api.ErrFormat
		}
	}
	return api.OK
}
