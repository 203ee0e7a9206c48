package bloom_test

import (
	"bytes"
	"encoding/binary"
	"math"
	"math/big"
	"slices"
	"strings"
	"testing"

	"lamina/api"
	"lamina/bloom"
	"lamina/value"
	"lamina/varint"
)

func null() api.Value          { return api.Value{} }
func number(n int64) api.Value { return api.Value{Kind: api.Int, Int: n} }
func truth(n int64) api.Value  { return api.Value{Kind: api.Bool, Int: n} }
func text(s string) api.Value  { return api.Value{Kind: api.Text, Text: s} }

// samples are values of all kinds.
func samples() []api.Value {
	all := []api.Value{
		null(), truth(0), truth(1), number(math.MinInt64), number(math.MaxInt64),
		text(""), text("\x00"), text("\x00\x00"), text("\xff"), text("abcdefgh"), text("abcdefghi"), text(strings.Repeat("x", api.MaxText)),
	}
	for n := int64(-3); n < 20; n++ {
		all = append(all, number(n), text(strings.Repeat("ab", int(n+3))+"c"))
	}
	return all
}

// numbers are count different values from the one with the first number on.
func numbers(first, count int) []api.Value {
	var all []api.Value
	for i := range count {
		all = append(all, number(int64(first+i)))
	}
	return all
}

// positions returns the probe positions of v by their definition, with numbers of any size.
func positions(v api.Value, hashes, n int) []int {
	h := new(big.Int).SetUint64(value.Hash(1, v))
	g := new(big.Int).SetUint64(value.Hash(2, v))
	g.SetBit(g, 0, 1)
	modulus := new(big.Int).Lsh(big.NewInt(1), 64)
	var all []int
	for k := range hashes {
		p := new(big.Int).Mul(big.NewInt(int64(k)), g)
		p.Mod(p.Add(p, h), modulus)
		all = append(all, int(p.Mod(p, big.NewInt(int64(n))).Int64()))
	}
	return all
}

// blank returns the filter with the parameters and no bit set.
func blank(hashes, n int) api.BloomFilter {
	return api.BloomFilter{Hashes: hashes, Bits: api.Bitset{N: n, Words: make([]uint64, n/64)}}
}

// clone returns a filter that shares no memory with f.
func clone(f api.BloomFilter) api.BloomFilter {
	f.Bits.Words = slices.Clone(f.Bits.Words)
	return f
}

// set adds the bits to f, in place.
func set(f api.BloomFilter, bits ...int) {
	for _, p := range bits {
		f.Bits.Words[p/64] |= 1 << (p % 64)
	}
}

// has reports whether the bit of f is set.
func has(f api.BloomFilter, p int) bool {
	return f.Bits.Words[p/64]>>(p%64)&1 == 1
}

// filterOf returns the filter of the values with the parameters, by its definition.
func filterOf(values []api.Value, hashes, n int) api.BloomFilter {
	f := blank(hashes, n)
	for _, v := range values {
		set(f, positions(v, hashes, n)...)
	}
	return f
}

// same reports whether a and b are equal; nil and an empty slice of words are equivalent.
func same(a, b api.BloomFilter) bool {
	return a.Hashes == b.Hashes && a.Bits.N == b.Bits.N && slices.Equal(a.Bits.Words, b.Bits.Words)
}

// isZero reports whether f is what stands beside an error.
func isZero(f api.BloomFilter) bool {
	return same(f, api.BloomFilter{})
}

// sizes are the numbers of bits that a filter may have.
func sizes() []int {
	return []int{64, 128, 256, 512, 1024, 2048, 4096, 8192, 16384, 32768, 65536}
}

// filters are valid filters: the empty one, and of each size a few with bits of all sorts.
func filters() []api.BloomFilter {
	all := []api.BloomFilter{{}}
	for i, n := range sizes() {
		full := blank(i+1, n)
		mixed, sparse := blank(i%11+1, n), blank((i+5)%11+1, n)
		for w := range full.Bits.Words {
			full.Bits.Words[w] = math.MaxUint64
			mixed.Bits.Words[w] = (uint64(w+n) + 7) * 0x9E3779B97F4A7C15
		}
		set(sparse, 0, n-1)
		all = append(all, blank(i+1, n), full, mixed, sparse, filterOf(samples(), i+1, n))
	}
	return all
}

// P15.1

// TestBuildOfAFewLists: the words have been computed outside the program.
func TestBuildOfAFewLists(t *testing.T) {
	for _, c := range []struct {
		values       []api.Value
		bitsPerValue int
		hashes, n    int
		words        []uint64
	}{
		{nil, 8, 5, 64, []uint64{0}},
		{nil, 1, 1, 64, []uint64{0}},
		{nil, 0, 0, 0, nil},
		{[]api.Value{number(0)}, 0, 0, 0, nil},
		{[]api.Value{number(0)}, -1, 0, 0, nil},
		{[]api.Value{number(0)}, 8, 5, 64, []uint64{0x0002001100080004}},
		{[]api.Value{null()}, 8, 5, 64, []uint64{0x0200010000800440}},
		{[]api.Value{text("a"), text("b"), text("c")}, 16, 11, 64, []uint64{0x44308ba59b4be206}},
		{[]api.Value{text("a"), text("b"), text("c")}, 17, 11, 64, []uint64{0x44308ba59b4be206}},
		{[]api.Value{truth(1), truth(0)}, 1, 1, 64, []uint64{0x0000000000c00000}},
		{numbers(1, 10), 10, 7, 128, []uint64{0x69823e38a2998355, 0x89f4fb6e4306e414}},
		{numbers(0, 17), 8, 5, 256, []uint64{0x0c8a10f22210c214, 0x19f469602b06b420, 0x72400e1802080214, 0x0934930bd008401c}},
	} {
		want := api.BloomFilter{Hashes: c.hashes, Bits: api.Bitset{N: c.n, Words: c.words}}
		if got := bloom.Build(c.values, c.bitsPerValue); !same(got, want) {
			t.Errorf("Build(%v, %d) = %x, want %x", c.values, c.bitsPerValue, got, want)
		}
	}
}

func TestHashesOfBuild(t *testing.T) {
	hashes := []int{0, 1, 1, 2, 2, 3, 4, 4, 5, 6, 7, 7, 8, 9, 9, 10, 11, 11, 11, 11}
	for bitsPerValue, want := range hashes {
		if f := bloom.Build(numbers(0, 3), bitsPerValue); f.Hashes != want {
			t.Errorf("Build with %d bits per value has %d hashes, want %d", bitsPerValue, f.Hashes, want)
		}
	}
	for _, bitsPerValue := range []int{0, -1, -8, -1 << 32, math.MinInt + 1, math.MinInt} {
		for _, values := range [][]api.Value{nil, {null()}, numbers(0, api.MaxGroupRows)} {
			if f := bloom.Build(values, bitsPerValue); !isZero(f) {
				t.Errorf("Build of %d values with %d bits per value = %v", len(values), bitsPerValue, f)
			}
		}
	}
	for _, bitsPerValue := range []int{17, 32, 1 << 32, math.MaxInt - 1, math.MaxInt} {
		for _, values := range [][]api.Value{nil, samples(), numbers(0, api.MaxGroupRows)} {
			if got, want := bloom.Build(values, bitsPerValue), bloom.Build(values, 16); !same(got, want) || got.Hashes != 11 {
				t.Errorf("Build of %d values with %d bits per value is not that with 16", len(values), bitsPerValue)
			}
		}
	}
}

func TestSizeOfBuild(t *testing.T) {
	for _, c := range []struct{ count, bitsPerValue, want int }{
		{0, 1, 64}, {0, 16, 64}, {1, 1, 64}, {1, 16, 64}, {3, 16, 64}, {4, 16, 64}, {5, 16, 128},
		{7, 9, 64}, {8, 8, 64}, {9, 7, 64}, {9, 8, 128}, {13, 5, 128}, {63, 1, 64}, {64, 1, 64}, {65, 1, 128},
		{128, 1, 128}, {129, 1, 256}, {100, 8, 1024}, {128, 8, 1024}, {129, 8, 2048},
		{3640, 9, 32768}, {3641, 9, 65536}, {2048, 16, 32768}, {2049, 16, 65536}, {2048, 17, 32768},
		{4095, 8, 32768}, {4096, 8, 32768}, {4096, 1, 4096}, {4096, 15, 65536}, {4096, 16, 65536}, {4096, 17, 65536}, {4096, math.MaxInt, 65536},
	} {
		f := bloom.Build(numbers(0, c.count), c.bitsPerValue)
		if f.Bits.N != c.want || len(f.Bits.Words) != c.want/64 || !bloom.Valid(f) {
			t.Errorf("Build of %d values with %d bits per value has %d bits in %d words, want %d", c.count, c.bitsPerValue, f.Bits.N, len(f.Bits.Words), c.want)
		}
	}
}

func TestBuildAgreesWithTheDefinition(t *testing.T) {
	all := append(samples(), numbers(1000, 2000)...)
	for _, count := range []int{0, 1, 2, 3, 5, 9, 17, 33, 58, 200, 1000} {
		for bitsPerValue := 1; bitsPerValue <= 16; bitsPerValue++ {
			hashes, n := max(1, bitsPerValue*7/10), 64
			for n < count*bitsPerValue {
				n *= 2
			}
			values := all[count : 2*count]
			got, want := bloom.Build(values, bitsPerValue), filterOf(values, hashes, n)
			if !same(got, want) || !bloom.Valid(got) {
				t.Errorf("Build of %d values with %d bits per value = %v, want %v", count, bitsPerValue, got, want)
			}
			slices.Reverse(values)
			if again := bloom.Build(values, bitsPerValue); !same(again, got) {
				t.Errorf("Build of %d values with %d bits per value depends on their order", count, bitsPerValue)
			}
		}
	}
}

// TestBuildCountsRepeatedValues: the size follows from how many values there are, not from how many different ones.
func TestBuildCountsRepeatedValues(t *testing.T) {
	values := slices.Repeat([]api.Value{text("a"), null()}, 50)
	if got, want := bloom.Build(values, 8), filterOf(values[:2], 5, 1024); !same(got, want) {
		t.Errorf("Build = %v, want %v", got, want)
	}
}

// P15.2

func TestMayContainOfTheEmptyFilter(t *testing.T) {
	for _, f := range []api.BloomFilter{{}, {Bits: api.Bitset{Words: []uint64{}}}, bloom.Build(samples(), 0)} {
		for _, v := range samples() {
			if !bloom.MayContain(f, v) {
				t.Errorf("the empty filter does not contain %.40v", v)
			}
		}
	}
}

// TestMayContainNeedsAllProbePositions removes each of them in turn, and all bits but them.
func TestMayContainNeedsAllProbePositions(t *testing.T) {
	for _, n := range sizes() {
		for hashes := 1; hashes <= 11; hashes++ {
			for _, v := range samples() {
				probes := positions(v, hashes, n)
				f := blank(hashes, n)
				if bloom.MayContain(f, v) {
					t.Errorf("%d hashes, %d bits, none set: %.40v is contained", hashes, n, v)
				}
				set(f, probes...)
				if !bloom.MayContain(f, v) {
					t.Errorf("%d hashes, %d bits, the probe positions set: %.40v is not contained", hashes, n, v)
				}
				for _, p := range probes {
					f.Bits.Words[p/64] ^= 1 << (p % 64)
					if bloom.MayContain(f, v) {
						t.Errorf("%d hashes, %d bits, position %d of %d not set: %.40v is contained", hashes, n, p, probes, v)
					}
					f.Bits.Words[p/64] ^= 1 << (p % 64)
				}
			}
		}
	}
}

func TestMayContainAgreesWithTheDefinition(t *testing.T) {
	contained, others := 0, 0
	for _, f := range filters() {
		for _, v := range append(samples(), numbers(500, 50)...) {
			want := true
			for _, p := range positions(v, f.Hashes, f.Bits.N) {
				want = want && has(f, p)
			}
			if got := bloom.MayContain(f, v); got != want {
				t.Errorf("MayContain is %v for %d hashes, %d bits and %.40v", got, f.Hashes, f.Bits.N, v)
			}
			if want {
				contained++
			} else {
				others++
			}
		}
	}
	if contained < 500 || others < 500 {
		t.Errorf("%d values were contained, %d others were not", contained, others)
	}
}

// TestMayContainExcludesMostValues: a filter that contains everything would hold the other promises too.
func TestMayContainExcludesMostValues(t *testing.T) {
	f := bloom.Build(numbers(0, 1000), 8)
	contained := 0
	for _, v := range numbers(1000, 10000) {
		if bloom.MayContain(f, v) {
			contained++
		}
	}
	if contained > 500 {
		t.Errorf("%d of 10000 values that were not added are contained", contained)
	}
}

// P15.3

func TestUnionNeedsTheSameParameters(t *testing.T) {
	some := []api.BloomFilter{{}}
	for _, hashes := range []int{1, 2, 5, 10, 11} {
		for _, n := range sizes() {
			f := blank(hashes, n)
			set(f, hashes, n-1)
			some = append(some, f)
		}
	}
	for _, a := range some {
		for _, b := range some {
			got, e := bloom.Union(a, b)
			if a.Hashes == b.Hashes && a.Bits.N == b.Bits.N {
				if !same(got, a) || e != api.OK {
					t.Errorf("Union of %d hashes and %d bits with itself = %v, error %d", a.Hashes, a.Bits.N, got, e)
				}
			} else if !isZero(got) || e != api.ErrArg {
				t.Errorf("Union of %d hashes and %d bits with %d hashes and %d bits = %v, error %d", a.Hashes, a.Bits.N, b.Hashes, b.Bits.N, got, e)
			}
		}
	}
}

func TestUnionOfBits(t *testing.T) {
	for _, n := range sizes() {
		a, b, want := blank(3, n), blank(3, n), blank(3, n)
		for p := range n {
			inA, inB := p%3 == 0, p%5 < 2
			if inA {
				set(a, p)
			}
			if inB {
				set(b, p)
			}
			if inA || inB {
				set(want, p)
			}
		}
		for _, c := range []struct{ a, b, want api.BloomFilter }{{a, b, want}, {b, a, want}, {a, blank(3, n), a}, {blank(3, n), a, a}, {want, a, want}, {blank(3, n), blank(3, n), blank(3, n)}} {
			if got, e := bloom.Union(c.a, c.b); !same(got, c.want) || e != api.OK || !bloom.Valid(got) {
				t.Errorf("Union with %d bits = %v, error %d, want %v", n, got, e, c.want)
			}
		}
	}
}

func TestUnionIsTheFilterOfAllValues(t *testing.T) {
	all := append(samples(), numbers(100, 300)...)
	for _, count := range []int{1, 10, 100} {
		for bitsPerValue := 1; bitsPerValue <= 16; bitsPerValue++ {
			left, right := all[:count], all[2*count:3*count]
			a, b := bloom.Build(left, bitsPerValue), bloom.Build(right, bitsPerValue)
			want := filterOf(slices.Concat(left, right), a.Hashes, a.Bits.N)
			if got, e := bloom.Union(a, b); !same(got, want) || e != api.OK {
				t.Errorf("Union of filters of %d values with %d bits each = %v, error %d, want %v", count, bitsPerValue, got, e, want)
			}
		}
	}
}

// P15.4

// isFilter reports whether f is valid, by the definition.
func isFilter(f api.BloomFilter) bool {
	if f.Hashes == 0 && f.Bits.N == 0 && len(f.Bits.Words) == 0 {
		return true
	}
	return f.Hashes >= 1 && f.Hashes <= 11 && slices.Contains(sizes(), f.Bits.N) && len(f.Bits.Words) == f.Bits.N/64
}

func TestValid(t *testing.T) {
	ns := append(sizes(), math.MinInt, -65536, -64, -1, 0, 1, 2, 32, 63, 65, 96, 127, 192, 1000, 65535, 65537, 65600, 98304, 131072, 1048576, 1<<32, 1<<62, math.MaxInt)
	valid := 0
	for _, hashes := range []int{math.MinInt, -11, -1, 0, 1, 2, 3, 4, 5, 6, 7, 8, 9, 10, 11, 12, 13, 64, 1 << 32, 1<<32 + 1, math.MaxInt} {
		for _, n := range ns {
			for _, words := range []int{0, 1, 2, 3, n/64 - 1, n / 64, n/64 + 1} {
				if words < 0 || words > 20000 {
					continue
				}
				for _, word := range []uint64{0, 1, 1 << 63, math.MaxUint64} {
					f := api.BloomFilter{Hashes: hashes, Bits: api.Bitset{N: n, Words: slices.Repeat([]uint64{word}, words)}}
					if got := bloom.Valid(f); got != isFilter(f) {
						t.Errorf("Valid is %v for %d hashes, %d bits and %d words of %x", got, hashes, n, words, word)
					} else if got {
						valid++
					}
				}
			}
		}
	}
	if valid < 500 {
		t.Errorf("%d filters were valid", valid)
	}
	for _, f := range filters() {
		if !bloom.Valid(f) {
			t.Errorf("a filter with %d hashes and %d bits is not valid", f.Hashes, f.Bits.N)
		}
	}
}

// coded is a filter and its encoding.
type coded struct {
	f    api.BloomFilter
	want string
}

func codes() []coded {
	filter := func(hashes int, words ...uint64) api.BloomFilter {
		return api.BloomFilter{Hashes: hashes, Bits: api.Bitset{N: 64 * len(words), Words: words}}
	}
	return []coded{
		{api.BloomFilter{}, "\x00\x00"},
		{filter(5, 0), "\x05\x40\x00\x00\x00\x00\x00\x00\x00\x00"},
		{filter(5, 0x0002001100080004), "\x05\x40\x04\x00\x08\x00\x11\x00\x02\x00"},
		{filter(1, math.MaxUint64), "\x01\x40\xff\xff\xff\xff\xff\xff\xff\xff"},
		{filter(11, 1, 1<<63), "\x0b\x80\x01\x01\x00\x00\x00\x00\x00\x00\x00\x00\x00\x00\x00\x00\x00\x00\x80"},
		{filter(7, 0x69823e38a2998355, 0x89f4fb6e4306e414), "\x07\x80\x01\x55\x83\x99\xa2\x38\x3e\x82\x69\x14\xe4\x06\x43\x6e\xfb\xf4\x89"},
		{filter(2, 0x0123456789abcdef, 0, 0xfedcba9876543210, 1), "\x02\x80\x02" +
			"\xef\xcd\xab\x89\x67\x45\x23\x01\x00\x00\x00\x00\x00\x00\x00\x00\x10\x32\x54\x76\x98\xba\xdc\xfe\x01\x00\x00\x00\x00\x00\x00\x00"},
		{filter(11, slices.Repeat([]uint64{2}, 1024)...), "\x0b\x80\x80\x04" + strings.Repeat("\x02\x00\x00\x00\x00\x00\x00\x00", 1024)},
	}
}

func TestEncodeAndDecodeOfAFewFilters(t *testing.T) {
	for _, c := range codes() {
		if got := bloom.Encode(c.f); string(got) != c.want {
			t.Errorf("Encode(%.80v) = %.40x, want %.40x", c.f, got, c.want)
		}
		if got, next, e := bloom.Decode([]byte(c.want), 0); !same(got, c.f) || next != len(c.want) || e != api.OK {
			t.Errorf("Decode(%.40x) = %.80v, %d, error %d", c.want, got, next, e)
		}
	}
}

func TestDecodeAtAnOffset(t *testing.T) {
	for _, c := range codes() {
		for _, before := range []string{"", "\x80", "\x01\x40\x02"} {
			for _, after := range []string{"", "\x00", "\x80\xff"} {
				b := []byte(before + c.want + after)
				if got, next, e := bloom.Decode(b, len(before)); !same(got, c.f) || next != len(before)+len(c.want) || e != api.OK {
					t.Errorf("Decode(%.40x, %d) = %.80v, %d, error %d", b, len(before), got, next, e)
				}
			}
		}
		b := []byte(c.want)
		for _, offset := range []int{math.MinInt, -len(b), -2, -1, len(b) + 1, len(b) + 2, 1 << 32, math.MaxInt} {
			checkRefused(t, b, offset, api.ErrArg)
		}
		checkRefused(t, b, len(b), api.ErrShort)
	}
	for _, offset := range []int{math.MinInt, -1, 1, math.MaxInt} {
		checkRefused(t, nil, offset, api.ErrArg)
	}
	checkRefused(t, nil, 0, api.ErrShort)
}

// checkRefused fails unless Decode reports the error, and nothing beside it.
func checkRefused(t *testing.T, b []byte, offset int, want api.Errno) {
	t.Helper()
	if f, next, e := bloom.Decode(b, offset); !isZero(f) || next != 0 || e != want {
		t.Errorf("Decode(%.40x, %d) = %.80v, %d, error %d, want error %d", b, offset, f, next, e, want)
	}
}

const (
	huge = "\xff\xff\xff\xff\xff\xff\xff\xff\xff\x01" // 2^64 - 1
	half = "\x80\x80\x80\x80\x80\x80\x80\x80\x80\x01" // 2^63
)

func TestErrorsOfDecode(t *testing.T) {
	word := "\x01\x02\x03\x04\x05\x06\x07\x08"
	for _, c := range []struct {
		name, b string
		want    api.Errno
	}{
		{"Hashes cut", "\x85", api.ErrShort},
		{"Hashes too long", "\x85\x00\x40" + word, api.ErrFormat},
		{"Hashes beyond 64 bits", strings.Repeat("\xff", 9) + "\x02\x40" + word, api.ErrFormat},
		{"no N", "\x05", api.ErrShort},
		{"N cut", "\x05\x80", api.ErrShort},
		{"N too long", "\x05\xc0\x00" + word, api.ErrFormat},
		{"N beyond 64 bits", "\x05" + strings.Repeat("\xff", 9) + "\x02" + word, api.ErrFormat},
		{"12 hashes", "\x0c\x40" + word, api.ErrFormat},
		{"no hashes, 64 bits", "\x00\x40" + word, api.ErrFormat},
		{"no bits", "\x05\x00", api.ErrFormat},
		{"1 bit", "\x05\x01" + word, api.ErrFormat},
		{"32 bits", "\x05\x20" + word, api.ErrFormat},
		{"63 bits", "\x05\x3f" + word, api.ErrFormat},
		{"65 bits", "\x05\x41" + word + word, api.ErrFormat},
		{"192 bits", "\x05\xc0\x01" + word + word + word, api.ErrFormat},
		{"65535 bits", "\x05\xff\xff\x03" + strings.Repeat(word, 1024), api.ErrFormat},
		{"131072 bits", "\x05\x80\x80\x08" + strings.Repeat(word, 2048), api.ErrFormat},
		{"2^32 + 64 bits", "\x05\xc0\x80\x80\x80\x10" + word, api.ErrFormat},
		{"2^63 bits", "\x05" + half + word, api.ErrFormat},
		{"2^64 - 1 bits", "\x05" + huge + word, api.ErrFormat},
		{"2^32 hashes, no bits", "\x80\x80\x80\x80\x10\x00", api.ErrFormat},
		{"2^32 + 5 hashes", "\x85\x80\x80\x80\x10\x40" + word, api.ErrFormat},
		{"2^63 hashes", half + "\x40" + word, api.ErrFormat},
		{"2^64 - 1 hashes", huge + "\x40" + word, api.ErrFormat},
		{"2^63 hashes and bits", half + half, api.ErrFormat},
		{"no words", "\x05\x40", api.ErrShort},
		{"word cut to 1 byte", "\x05\x40\x01", api.ErrShort},
		{"word cut to 7 bytes", "\x05\x40" + word[:7], api.ErrShort},
		{"no second word", "\x05\x80\x01" + word, api.ErrShort},
		{"second word cut", "\x05\x80\x01" + word + word[:7], api.ErrShort},
		{"last word of 1024 missing", "\x05\x80\x80\x04" + strings.Repeat(word, 1023), api.ErrShort},
		{"last word of 1024 cut", "\x05\x80\x80\x04" + strings.Repeat(word, 1023) + word[1:], api.ErrShort},
		// The errors of both numbers come before those of the parameters, and these before that of the words.
		{"12 hashes, no N", "\x0c", api.ErrShort},
		{"12 hashes, N cut", "\x0c\xc0", api.ErrShort},
		{"12 hashes, no words", "\x0c\x40", api.ErrFormat},
		{"65 bits, no words", "\x05\x41", api.ErrFormat},
		{"131072 bits, no words", "\x05\x80\x80\x08", api.ErrFormat},
		{"no hashes, 64 bits, no words", "\x00\x40", api.ErrFormat},
	} {
		t.Run(c.name, func(t *testing.T) { checkRefused(t, []byte(c.b), 0, c.want) })
	}
}

// TestDecodeOfAllSmallParameters tries all pairs of numbers that two bytes may encode, and a few larger ones, with more words than they need and with one byte less.
func TestDecodeOfAllSmallParameters(t *testing.T) {
	var ns []uint64
	for n := range uint64(1200) {
		ns = append(ns, n)
	}
	for k := range 64 {
		ns = append(ns, 1<<k-1, 1<<k, 1<<k+1, 1<<k+64)
	}
	words := bytes.Repeat([]byte{1, 2, 3, 4, 5, 6, 7, 8}, 1025)
	for hashes := range uint64(20) {
		for _, n := range ns {
			start := binary.AppendUvarint(binary.AppendUvarint(nil, hashes), n)
			valid := hashes == 0 && n == 0 || 1 <= hashes && hashes <= 11 && n <= 65536 && slices.Contains(sizes(), int(n))
			if !valid {
				checkRefused(t, slices.Concat(start, words), 0, api.ErrFormat)
				continue
			}
			end := len(start) + int(n)/8
			b := slices.Concat(start, words)
			f, next, e := bloom.Decode(b, 0)
			if f.Hashes != int(hashes) || f.Bits.N != int(n) || next != end || e != api.OK || !bloom.Valid(f) {
				t.Errorf("Decode of %d hashes and %d bits = %.80v, %d, error %d", hashes, n, f, next, e)
			}
			if n > 0 {
				checkRefused(t, b[:end-1], 0, api.ErrShort)
			}
		}
	}
}

// model decodes b step by step, as the promise lists the steps.
func model(b []byte, offset int) (api.BloomFilter, int, api.Errno) {
	hashes, next, e := varint.Decode(b, offset)
	if e != api.OK {
		return api.BloomFilter{}, 0, e
	}
	n, next, e := varint.Decode(b, next)
	if e != api.OK {
		return api.BloomFilter{}, 0, e
	}
	if hashes > 11 || n > 65536 || !isFilter(blank(int(hashes), int(n))) {
		return api.BloomFilter{}, 0, api.ErrFormat
	}
	f := blank(int(hashes), int(n))
	if len(b)-next < 8*len(f.Bits.Words) {
		return api.BloomFilter{}, 0, api.ErrShort
	}
	for i := range f.Bits.Words {
		f.Bits.Words[i] = binary.LittleEndian.Uint64(b[next+8*i:])
	}
	return f, next + 8*len(f.Bits.Words), api.OK
}

// checkAgainstModel compares Decode with the model, and returns whether b was accepted; what is accepted is encoded to the same bytes (P15.5).
func checkAgainstModel(t *testing.T, b []byte, offset int) bool {
	t.Helper()
	want, wantNext, wantE := model(b, offset)
	got, next, e := bloom.Decode(b, offset)
	if !same(got, want) || next != wantNext || e != wantE {
		t.Fatalf("Decode(%.40x, %d) = %.80v, %d, error %d, want %.80v, %d, error %d", b, offset, got, next, e, want, wantNext, wantE)
	}
	if e != api.OK {
		return false
	}
	if !bloom.Valid(got) {
		t.Fatalf("Decode(%.40x, %d) = %.80v, which is not valid", b, offset, got)
	}
	if again := bloom.Encode(got); !bytes.Equal(again, b[offset:next]) {
		t.Fatalf("%.40x is decoded to %.80v, which is encoded as %.40x", b[offset:next], got, again)
	}
	return true
}

// sequences returns all sequences of up to length bytes of the alphabet.
func sequences(alphabet []byte, length int) [][]byte {
	all := [][]byte{{}}
	for start := 0; length > 0; length-- {
		end := len(all)
		for _, s := range all[start:end] {
			for _, x := range alphabet {
				all = append(all, append(slices.Clone(s), x))
			}
		}
		start = end
	}
	return all
}

func TestDecodeAgreesWithTheModel(t *testing.T) {
	accepted := 0
	for _, start := range sequences([]byte{0, 1, 4, 11, 12, 63, 64, 65, 128, 192}, 4) {
		for _, rest := range []string{"", "\x80", "1234567", "12345678", "123456789", strings.Repeat("\xff", 16), strings.Repeat("ab", 1<<13)} {
			b := append(slices.Clone(start), rest...)
			if checkAgainstModel(t, b, 0) {
				accepted++
			}
			checkAgainstModel(t, b, len(start)/2)
		}
	}
	if accepted < 1000 {
		t.Errorf("%d sequences were accepted", accepted)
	}
}

func TestDecodeOfDamagedBytes(t *testing.T) {
	for _, c := range codes() {
		b := []byte(c.want)
		if len(b) > 100 {
			continue
		}
		for cut := range b {
			checkAgainstModel(t, b[:cut], 0)
		}
		for p := range 8 * len(b) {
			b[p/8] ^= 1 << (p % 8)
			checkAgainstModel(t, b, 0)
			b[p/8] ^= 1 << (p % 8)
		}
	}
}

// P15.5

func TestNoValueIsMissed(t *testing.T) {
	all := append(samples(), numbers(-2000, 4000)...)
	for _, count := range []int{1, 2, 10, 100, 1000, 2000} {
		for bitsPerValue := -1; bitsPerValue <= 17; bitsPerValue++ {
			left, right := all[:count], all[len(all)-count:]
			a, b := bloom.Build(left, bitsPerValue), bloom.Build(right, bitsPerValue)
			both, e := bloom.Union(a, b)
			if e != api.OK {
				t.Fatalf("Union of filters of %d values with %d bits each: error %d", count, bitsPerValue, e)
			}
			for i := range count {
				if !bloom.MayContain(a, left[i]) || !bloom.MayContain(both, left[i]) || !bloom.MayContain(both, right[i]) {
					t.Errorf("value %d of %d with %d bits is missed", i, count, bitsPerValue)
				}
			}
		}
	}
}

func TestUnionContainsWhatAnOperandContains(t *testing.T) {
	for _, a := range filters() {
		for _, b := range filters() {
			both, e := bloom.Union(a, b)
			if e != api.OK {
				continue
			}
			for _, v := range append(samples(), numbers(-300, 20)...) {
				if (bloom.MayContain(a, v) || bloom.MayContain(b, v)) && !bloom.MayContain(both, v) {
					t.Errorf("%d hashes, %d bits: %.40v is missed", a.Hashes, a.Bits.N, v)
				}
			}
		}
	}
}

// encodingOf returns the encoding of f by the promise.
func encodingOf(f api.BloomFilter) []byte {
	b := binary.AppendUvarint(binary.AppendUvarint(nil, uint64(f.Hashes)), uint64(f.Bits.N))
	for _, word := range f.Bits.Words {
		b = binary.LittleEndian.AppendUint64(b, word)
	}
	return b
}

func TestDecodeInvertsEncode(t *testing.T) {
	all := filters()
	for bitsPerValue := range 18 {
		all = append(all, bloom.Build(nil, bitsPerValue), bloom.Build(samples(), bitsPerValue), bloom.Build(numbers(0, api.MaxGroupRows), bitsPerValue))
	}
	for _, f := range all {
		b := bloom.Encode(f)
		if want := encodingOf(f); !bytes.Equal(b, want) {
			t.Errorf("Encode of %d hashes and %d bits = %.40x, want %.40x", f.Hashes, f.Bits.N, b, want)
		}
		got, next, e := bloom.Decode(b, 0)
		if !same(got, f) || next != len(b) || e != api.OK {
			t.Errorf("%d hashes, %d bits: decoded to %.80v, %d, error %d", f.Hashes, f.Bits.N, got, next, e)
		}
		if again := bloom.Encode(got); !bytes.Equal(again, b) {
			t.Errorf("%d hashes, %d bits: encoded to other bytes after Decode", f.Hashes, f.Bits.N)
		}
	}
}

// TestArgumentsThatAreNotValid only asks for an end without a panic.
func TestArgumentsThatAreNotValid(t *testing.T) {
	ints := []int{math.MinInt, -64, -1, 0, 1, 5, 11, 12, 63, 64, 65, 128, 131072, 1 << 40, math.MaxInt}
	values := []api.Value{{Int: 1}, truth(7), {Kind: api.Int, Text: "a"}, text(strings.Repeat("x", 5000)), {Kind: 4, Int: 1}, {Kind: -1}, {Kind: math.MaxInt}}
	var all []api.BloomFilter
	for _, hashes := range ints {
		for _, n := range ints {
			for _, words := range [][]uint64{nil, {0}, {math.MaxUint64}, {1, 2, 3}} {
				all = append(all, api.BloomFilter{Hashes: hashes, Bits: api.Bitset{N: n, Words: words}})
			}
		}
	}
	for _, f := range all {
		bloom.Encode(f)
		for _, v := range append(values, null(), number(3)) {
			bloom.MayContain(f, v)
		}
		for _, g := range all {
			bloom.Union(f, g)
		}
	}
	for _, bitsPerValue := range ints {
		bloom.Build(values, bitsPerValue)
		bloom.Build(numbers(0, 2*api.MaxGroupRows), bitsPerValue)
	}
}

func TestArgumentsAreNotModified(t *testing.T) {
	values := samples()
	before := slices.Clone(values)
	bloom.Build(values, 8)
	if !slices.Equal(values, before) {
		t.Error("Build changed the values")
	}
	f, g := filterOf(values, 5, 1024), filterOf(numbers(50, 20), 5, 1024)
	oldF, oldG := clone(f), clone(g)
	bloom.Union(f, g)
	bloom.MayContain(f, number(77))
	bloom.Valid(f)
	b := bloom.Encode(f)
	oldB := slices.Clone(b)
	bloom.Decode(b, 0)
	if !same(f, oldF) || !same(g, oldG) || !bytes.Equal(b, oldB) {
		t.Error("an argument was changed")
	}
}

func TestResultsShareNoMemory(t *testing.T) {
	f, g := filterOf(samples(), 5, 256), filterOf(numbers(50, 20), 5, 256)
	b := bloom.Encode(f)
	decoded, _, _ := bloom.Decode(b, 0)
	again, _, _ := bloom.Decode(b, 0)
	both, _ := bloom.Union(f, g)
	alone, _ := bloom.Union(f, blank(5, 256))
	want, wantBoth := clone(f), clone(both)
	clear(b)
	clear(f.Bits.Words)
	clear(g.Bits.Words)
	clear(again.Bits.Words)
	if !same(decoded, want) || !same(both, wantBoth) || !same(alone, want) {
		t.Error("a result changed with an argument or with another result")
	}
	first, second := bloom.Build(samples(), 8), bloom.Build(samples(), 8)
	want = clone(first)
	clear(second.Bits.Words)
	if !same(first, want) {
		t.Error("two results of Build share memory")
	}
}
