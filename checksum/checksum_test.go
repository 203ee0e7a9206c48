package checksum_test

import (
	"bytes"
	"encoding/binary"
	"hash/crc32"
	"math"
	"math/big"
	"testing"

	"lamina/api"
	"lamina/checksum"
)

// mixedNumbers returns a fixed sequence of numbers without visible order.
func mixedNumbers(count int) []uint64 {
	numbers := make([]uint64, count)
	n := uint64(88172645463325252)
	for i := range numbers {
		n ^= n << 13
		n ^= n >> 7
		n ^= n << 17
		numbers[i] = n
	}
	return numbers
}

// mixedBytes returns size bytes; a different start gives different bytes.
func mixedBytes(start, size int) []byte {
	b := make([]byte, size)
	for i, n := range mixedNumbers(start + size)[start:] {
		b[i] = byte(n >> 24)
	}
	return b
}

// inputs returns byte slices of every length up to 70 and some longer ones.
func inputs() [][]byte {
	all := [][]byte{nil, {0}, {0xff}, make([]byte, 32), bytes.Repeat([]byte{0xff}, 32)}
	for size := range 71 {
		all = append(all, mixedBytes(size, size))
	}
	for _, size := range []int{255, 256, 257, 1000, 4096} {
		all = append(all, mixedBytes(size, size))
	}
	for c := range 256 {
		all = append(all, []byte{byte(c)})
	}
	return all
}

// slowCRC follows the definition bit by bit.
func slowCRC(b []byte) uint32 {
	register := uint32(0xFFFFFFFF)
	for _, c := range b {
		for bit := range 8 {
			feedback := (register ^ uint32(c>>bit)) & 1
			register = register>>1 ^ feedback*0x82F63B78
		}
	}
	return register ^ 0xFFFFFFFF
}

// P2.1

func TestCRCOfKnownInputs(t *testing.T) {
	rising, falling := make([]byte, 32), make([]byte, 32)
	for i := range 32 {
		rising[i], falling[i] = byte(i), byte(31-i)
	}
	for _, c := range []struct {
		b    []byte
		want uint32
	}{
		{nil, 0},
		{[]byte("123456789"), 0xE3069283},
		{[]byte("a"), 0xC1D04330},
		{make([]byte, 32), 0x8A9136AA}, // this one and the next three are from RFC 3720
		{bytes.Repeat([]byte{0xff}, 32), 0x62A8AB43},
		{rising, 0x46DD794E},
		{falling, 0x113FDB5C},
	} {
		if got := checksum.CRC(c.b); got != c.want {
			t.Errorf("CRC(%x) = %08x, want %08x", c.b, got, c.want)
		}
	}
}

func TestCRCFollowsTheDefinition(t *testing.T) {
	castagnoli := crc32.MakeTable(crc32.Castagnoli)
	for _, b := range inputs() {
		want := slowCRC(b)
		if other := crc32.Checksum(b, castagnoli); other != want {
			t.Fatalf("the test's own checksums of %x differ: %08x and %08x", b, want, other)
		}
		if got := checksum.CRC(b); got != want {
			t.Errorf("CRC(%x) = %08x, want %08x", b, got, want)
		}
	}
}

func TestCRCOfNothingIsZero(t *testing.T) {
	for _, parts := range [][][]byte{nil, {}, {nil}, {{}}, {nil, {}, nil}} {
		if got := checksum.CRC(parts...); got != 0 {
			t.Errorf("CRC of %d empty parts = %08x, want 0", len(parts), got)
		}
	}
}

func TestCRCConcatenatesParts(t *testing.T) {
	b := mixedBytes(0, 40)
	want := slowCRC(b)
	for i := range len(b) + 1 {
		for j := i; j <= len(b); j++ {
			if got := checksum.CRC(b[:i], b[i:j], nil, b[j:]); got != want {
				t.Errorf("CRC of parts cut at %d and %d = %08x, want %08x", i, j, got, want)
			}
		}
	}
	single := make([][]byte, len(b))
	for i := range b {
		single[i] = b[i : i+1]
	}
	if got := checksum.CRC(single...); got != want {
		t.Errorf("CRC of single bytes = %08x, want %08x", got, want)
	}
}

func TestCRCDependsOnTheOrderOfParts(t *testing.T) {
	a, b := []byte("first"), []byte("second")
	if got, want := checksum.CRC(b, a), slowCRC([]byte("secondfirst")); got != want {
		t.Errorf("CRC(b, a) = %08x, want %08x", got, want)
	}
	if checksum.CRC(a, b) == checksum.CRC(b, a) {
		t.Error("CRC(a, b) equals CRC(b, a)")
	}
}

func TestUpdateContinuesAChecksum(t *testing.T) {
	for _, a := range inputs() {
		for _, b := range [][]byte{nil, {0}, {1}, {0xff}, []byte("tail"), mixedBytes(7, 33)} {
			want := slowCRC(append(bytes.Clone(a), b...))
			if got := checksum.Update(slowCRC(a), b); got != want {
				t.Errorf("Update(CRC(%x), %x) = %08x, want %08x", a, b, got, want)
			}
		}
	}
}

func TestUpdateAcceptsAnyChecksum(t *testing.T) {
	castagnoli := crc32.MakeTable(crc32.Castagnoli)
	numbers := append(mixedNumbers(200), 0, 1, math.MaxUint32, 1<<31)
	for _, n := range numbers {
		crc := uint32(n)
		if got := checksum.Update(crc, nil); got != crc {
			t.Errorf("Update(%08x, nil) = %08x", crc, got)
		}
		b := mixedBytes(int(n%50), int(n%19))
		if got, want := checksum.Update(crc, b), crc32.Update(crc, castagnoli, b); got != want {
			t.Errorf("Update(%08x, %x) = %08x, want %08x", crc, b, got, want)
		}
	}
}

// P2.2

func TestSealAppendsTheChecksumLeastSignificantByteFirst(t *testing.T) {
	for _, c := range []struct{ b, want []byte }{
		{nil, []byte{0, 0, 0, 0}},
		{[]byte{}, []byte{0, 0, 0, 0}},
		{[]byte("123456789"), []byte("123456789\x83\x92\x06\xe3")},
		{[]byte("a"), []byte("a\x30\x43\xd0\xc1")},
	} {
		if got := checksum.Seal(c.b); !bytes.Equal(got, c.want) {
			t.Errorf("Seal(%x) = %x, want %x", c.b, got, c.want)
		}
	}
	for _, b := range inputs() {
		want := binary.LittleEndian.AppendUint32(bytes.Clone(b), slowCRC(b))
		if got := checksum.Seal(b); !bytes.Equal(got, want) {
			t.Errorf("Seal(%x) = %x, want %x", b, got, want)
		}
	}
}

func TestOpenReturnsTheBytesBeforeTheChecksum(t *testing.T) {
	for _, b := range inputs() {
		sealed := binary.LittleEndian.AppendUint32(bytes.Clone(b), slowCRC(b))
		if got, e := checksum.Open(sealed); e != api.OK || !bytes.Equal(got, b) {
			t.Errorf("Open(%x) = %x, %v, want %x", sealed, got, e, b)
		}
	}
}

func TestOpenErrors(t *testing.T) {
	for _, c := range []struct {
		b    []byte
		want api.Errno
	}{
		{nil, api.ErrShort},
		{[]byte{}, api.ErrShort},
		{[]byte{0}, api.ErrShort},
		{[]byte{0, 0}, api.ErrShort},
		{[]byte{0, 0, 0}, api.ErrShort},
		{[]byte{1, 2, 3}, api.ErrShort}, // before ErrChecksum
		{[]byte{0, 0, 0, 1}, api.ErrChecksum},
		{[]byte{1, 0, 0, 0}, api.ErrChecksum},
		{[]byte{0xff, 0xff, 0xff, 0xff}, api.ErrChecksum},
		{make([]byte, 5), api.ErrChecksum},
		{[]byte("123456789\xe3\x06\x92\x83"), api.ErrChecksum},     // the most significant byte first
		{[]byte("123456789\x7c\x6d\xf9\x1c"), api.ErrChecksum},     // without the final XOR
		{[]byte("123456789\x83\x92\x06\xe3\x00"), api.ErrChecksum}, // a byte too many
		{[]byte("123456789\x83\x92\x06"), api.ErrChecksum},         // a byte too few
		{[]byte("\x83\x92\x06\xe3123456789"), api.ErrChecksum},     // the checksum in front
	} {
		if got, e := checksum.Open(c.b); len(got) != 0 || e != c.want {
			t.Errorf("Open(%x) = %x, %v, want nothing, %v", c.b, got, e, c.want)
		}
	}
}

func TestSealAndOpenReturnNewMemory(t *testing.T) {
	memory := []byte("abcdefgh")
	sealed := checksum.Seal(memory[:3])
	if string(memory) != "abcdefgh" {
		t.Errorf("Seal changed its argument's memory to %q", memory)
	}
	sealed[0] = 'z'
	if memory[0] != 'a' {
		t.Error("Seal's result shares memory with its argument")
	}
	sealed[0] = 'a'
	before := bytes.Clone(sealed)
	opened, e := checksum.Open(sealed)
	if e != api.OK || !bytes.Equal(sealed, before) {
		t.Errorf("Open: %v, and its argument is now %x", e, sealed)
	}
	if opened = append(opened, 'x'); !bytes.Equal(sealed, before) {
		t.Error("an append to Open's result writes into its argument")
	}
	opened[0] = 'z'
	if !bytes.Equal(sealed, before) {
		t.Error("Open's result shares memory with its argument")
	}
}

// P2.3

// slowMix follows the definition with integers of any size, reduced modulo 2^64.
func slowMix(n uint64) uint64 {
	modulus := new(big.Int).Lsh(big.NewInt(1), 64)
	x := new(big.Int).SetUint64(n)
	for _, step := range []struct {
		shift  uint
		factor uint64
	}{{30, 0xBF58476D1CE4E5B9}, {27, 0x94D049BB133111EB}, {31, 1}} {
		x.Xor(x, new(big.Int).Rsh(x, step.shift))
		x.Mul(x, new(big.Int).SetUint64(step.factor))
		x.Mod(x, modulus)
	}
	return x.Uint64()
}

// numbers returns those with one, two or all but one bit set and a fixed sequence of mixed ones.
func numbers() []uint64 {
	all := []uint64{0, math.MaxUint64, 0xDEADBEEFDEADBEEF, 0x0123456789ABCDEF}
	for k := range 64 {
		power := uint64(1) << k
		all = append(all, power, power-1, ^power, -power)
		for j := range k {
			all = append(all, power|1<<j)
		}
	}
	return append(all, mixedNumbers(1000)...)
}

func TestMixFollowsTheDefinition(t *testing.T) {
	if got := checksum.Mix(0); got != 0 {
		t.Errorf("Mix(0) = %x, want 0", got)
	}
	for _, n := range numbers() {
		if got, want := checksum.Mix(n), slowMix(n); got != want {
			t.Errorf("Mix(%x) = %x, want %x", n, got, want)
		}
	}
}

func TestUnmixInvertsTheDefinition(t *testing.T) {
	for _, n := range numbers() {
		if got := checksum.Unmix(slowMix(n)); got != n {
			t.Errorf("Unmix(%x) = %x, want %x", slowMix(n), got, n)
		}
	}
}

// P2.4

// slowHash follows the definition, with the padding written out.
func slowHash(seed uint64, b []byte) uint64 {
	padded := bytes.Clone(b)
	for len(padded)%8 != 0 {
		padded = append(padded, 0)
	}
	h := slowMix(seed ^ uint64(len(b)))
	for ; len(padded) > 0; padded = padded[8:] {
		h = slowMix(h ^ binary.LittleEndian.Uint64(padded))
	}
	return h
}

func TestHashFollowsTheDefinition(t *testing.T) {
	for _, seed := range []uint64{0, 1, 8, 1 << 63, math.MaxUint64, 0x9E3779B97F4A7C15} {
		for _, b := range inputs() {
			if got, want := checksum.Hash(seed, b), slowHash(seed, b); got != want {
				t.Errorf("Hash(%x, %x) = %x, want %x", seed, b, got, want)
			}
		}
	}
}

func TestHashOfNothingIsMixOfTheSeed(t *testing.T) {
	for _, seed := range numbers() {
		if got, want := checksum.Hash(seed, nil), slowMix(seed); got != want {
			t.Errorf("Hash(%x, nil) = %x, want %x", seed, got, want)
		}
		if got, want := checksum.Hash(seed, []byte{}), slowMix(seed); got != want {
			t.Errorf("Hash(%x, {}) = %x, want %x", seed, got, want)
		}
	}
}

func TestHashReadsGroupsInOrder(t *testing.T) {
	first := []byte{1, 2, 3, 4, 5, 6, 7, 8}
	for _, c := range []struct {
		b     []byte
		words []uint64
	}{
		{[]byte{1}, []uint64{1}},
		{[]byte{0}, []uint64{0}},
		{[]byte{0, 1}, []uint64{0x100}},
		{first[:7], []uint64{0x07060504030201}},
		{first, []uint64{0x0807060504030201}},
		{append(bytes.Clone(first), 9), []uint64{0x0807060504030201, 9}},
		{append(bytes.Clone(first), 0), []uint64{0x0807060504030201, 0}},
		{append(bytes.Clone(first), 1, 0, 0, 0, 0, 0, 0, 0x80), []uint64{0x0807060504030201, 0x8000000000000001}},
	} {
		want := slowMix(5 ^ uint64(len(c.b)))
		for _, w := range c.words {
			want = slowMix(want ^ w)
		}
		if got := checksum.Hash(5, c.b); got != want {
			t.Errorf("Hash(5, %x) = %x, want %x", c.b, got, want)
		}
	}
}

func TestHashDoesNotReadBeyondItsArgument(t *testing.T) {
	memory := bytes.Repeat([]byte{0xff}, 24)
	for size := range len(memory) {
		b := memory[:size]
		if got, want := checksum.Hash(3, b), slowHash(3, b); got != want {
			t.Errorf("Hash of %d bytes = %x, want %x", size, got, want)
		}
	}
	if !bytes.Equal(memory, bytes.Repeat([]byte{0xff}, 24)) {
		t.Error("Hash changed its argument's memory")
	}
}

func TestHashTellsPaddingFromZeroBytes(t *testing.T) {
	seen := map[uint64]int{}
	for size := range 33 {
		h := checksum.Hash(0, make([]byte, size))
		if other, ok := seen[h]; ok {
			t.Errorf("%d and %d zero bytes have the same hash", other, size)
		}
		seen[h] = size
	}
}

// P2.5

func TestUpdateOfACRCIsTheCRCOfBothParts(t *testing.T) {
	all := inputs()
	for i, a := range all {
		b := all[(7*i+3)%len(all)]
		if got, want := checksum.Update(checksum.CRC(a), b), checksum.CRC(a, b); got != want {
			t.Errorf("Update(CRC(%x), %x) = %08x, want %08x", a, b, got, want)
		}
	}
}

func TestOpenReturnsWhatWasSealed(t *testing.T) {
	for _, b := range inputs() {
		sealed := checksum.Seal(b)
		if got, e := checksum.Open(sealed); e != api.OK || !bytes.Equal(got, b) {
			t.Errorf("Open(Seal(%x)) = %x, %v", b, got, e)
		}
		again, e := checksum.Open(checksum.Seal(sealed))
		if e != api.OK || !bytes.Equal(again, sealed) {
			t.Errorf("Open(Seal(Seal(%x))) = %x, %v", b, again, e)
		}
	}
}

// P2.6

// flip returns b with the bits of pattern flipped from bit start on; false if they reach beyond the end.
func flip(b []byte, start int, pattern uint32) ([]byte, bool) {
	damaged := bytes.Clone(b)
	for bit := range 32 {
		if pattern>>bit&1 == 0 {
			continue
		}
		at := start + bit
		if at >= 8*len(b) {
			return nil, false
		}
		damaged[at/8] ^= 1 << (at % 8)
	}
	return damaged, true
}

func TestOpenDetectsBursts(t *testing.T) {
	patterns := []uint32{1, 1<<31 | 1, math.MaxUint32, 0xFF, 0x55555555, 0x82F63B78, 0x05EC76F1}
	for k := range 31 {
		patterns = append(patterns, 1<<(k+1)|1, 1<<(k+1)-1)
	}
	for _, n := range mixedNumbers(200) {
		patterns = append(patterns, uint32(n)|1)
	}
	for _, size := range []int{0, 1, 3, 4, 9, 30} {
		b := mixedBytes(size, size)
		sealed := binary.LittleEndian.AppendUint32(bytes.Clone(b), slowCRC(b))
		for start := range 8 * len(sealed) {
			for _, pattern := range patterns {
				damaged, fits := flip(sealed, start, pattern)
				if !fits {
					continue
				}
				if got, e := checksum.Open(damaged); e != api.ErrChecksum || len(got) != 0 {
					t.Errorf("%d bytes with the burst %08x at bit %d: Open = %x, %v", size, pattern, start, got, e)
				}
			}
		}
	}
}

func TestOpenDetectsEveryShortBurst(t *testing.T) {
	sealed := checksum.Seal([]byte("burst"))
	for start := range 8 * len(sealed) {
		for pattern := uint32(1); pattern < 1<<11; pattern += 2 {
			damaged, fits := flip(sealed, start, pattern)
			if !fits {
				continue
			}
			if _, e := checksum.Open(damaged); e != api.ErrChecksum {
				t.Errorf("the burst %03x at bit %d: Open returns %v", pattern, start, e)
			}
		}
	}
}

// P2.7

func TestMixAndUnmixAreInverse(t *testing.T) {
	for _, n := range numbers() {
		if got := checksum.Unmix(checksum.Mix(n)); got != n {
			t.Errorf("Unmix(Mix(%x)) = %x", n, got)
		}
		if got := checksum.Mix(checksum.Unmix(n)); got != n {
			t.Errorf("Mix(Unmix(%x)) = %x", n, got)
		}
	}
}
